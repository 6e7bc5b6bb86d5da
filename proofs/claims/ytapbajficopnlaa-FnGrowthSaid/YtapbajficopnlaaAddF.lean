/- AddFunction, the model's and the program's. -/
import Derived.Test.YtapbajficopnlaaPathS
import Derived.Test.YtapbajficopnlaaCloneFn
import Derived.Deep.RegionLawGrows
import Derived.Deep.RegionLaw
namespace Go.Proofs.Ytapbajficopnlaa
set_option linter.unusedVariables false
open Go.RowKit Go.Sort

/-- What AddFunction answers. -/
def addF (t : List Fn) (p : Int) (s : ByteArray) : List Fn := t ++ [⟨nextId t, p, s⟩]
def addFRes (t : List Fn) (p : Int) (s : ByteArray) : List Fn × Int × Bool := if isTree (addF t p s) = true then (addF t p s, nextId t, true) else ([], 0, false)
theorem addFRes_len {t : List Fn} {p : Int} {s : ByteArray} {xs : List Fn} {n : Int} {b : Bool} (h : addFRes t p s = (xs, n, b)) : xs.length ≤ t.length + 1 := by
  unfold addFRes addF at h
  split at h
  · obtain ⟨rfl, _⟩ := Prod.mk.inj h; simp
  · obtain ⟨rfl, _⟩ := Prod.mk.inj h; simp
theorem nextId_zero {t : List Fn} (h : t.length = 0) : nextId t = 1 := by unfold nextId; rw [if_pos h]
theorem nextId_last {t : List Fn} (h : 0 < t.length) : nextId t = (t.getD (t.length - 1) fnD).id + 1 := by unfold nextId; rw [if_neg (by omega)]

theorem cells3_new' (w : World) (a b c : Value) (t : TypeId) {k : Nat} (hk : k = w.heap.size) : ∀ j u, [a, b, c][j]? = some u → (w.alloc (.cells #[a, b, c] t (0, 0))).cell? ((⟨k, 0, none⟩ : Addr).add j) = some u := by
  subst hk
  intro j u hj
  rw [Addr.add_lit, Nat.zero_add]
  exact cell_new w _ t j (by simpa using hj)

set_option maxRecDepth 20000 in
set_option maxHeartbeats 2000000 in
theorem implAddFunction_any (v : Value) (t : List Fn) (p : Int) (s : ByteArray) (w : World) (h : RowR 3 rFn w v t) (hp : inI p) (hs : s.size ≤ maxLen) (xs : List Fn) (n : Int) (b : Bool) (hres : addFRes t p s = (xs, n, b)) :
    Calls Try.prog 26 #[v, .int .i64 p, .string s] w fun e w' => ∃ v', e = .returned (.tuple #[v', .int .i64 n, .bool b]) ∧ FnsO w.heap.size w'.heap.size w' v' xs ∧ Below w.heap.size w w' := by
  obtain ⟨i0, hi, hz0, hz1, hz2⟩ := info_parts Try.info_fn
  have H := Lib.hid h
  obtain ⟨a1, c1, hv, hl1, hm1, r1⟩ := h.fns
  subst hv
  have R1 := Lib.hid r1
  clear h r1
  unfold maxLen at hm1
  obtain ⟨bt, ht⟩ : ∃ b, isTree t = b := ⟨_, rfl⟩
  have HT := Lib.hid ht
  cases bt
  · unfold addFRes at hres
    have hno : ¬ isTree (addF t p s) = true := fun h => by have := tree_prefix h; rw [ht] at this; cases this
    rw [if_neg hno] at hres
    obtain ⟨rfl, h2⟩ := Prod.mk.inj hres
    obtain ⟨rfl, rfl⟩ := Prod.mk.inj h2
    clear hres ht hno h2
    go_enter Try.func26, Try.ntmps26
    go_wp2_with (first | (go_at_call 23; refine (implIsTree_any _ t _ H.out).mono ?_; rw [HT.out]; rintro e w1 ⟨rfl, b1⟩))
    go_ret3
    exact ⟨_, rfl, FnsO.nil _ _ _, b1⟩
  · have h15 := tree_len ht
    have hok : ∀ f ∈ t, f.ok := H.out.fns_ok
    obtain ⟨N, hN⟩ : ∃ N, nextId t = N := ⟨_, rfl⟩
    have hNI : inI N := by
      rw [← hN]
      by_cases h0 : t.length = 0
      · rw [nextId_zero h0]; unfold inI; omega
      · have hl := tree_fn ht (i := t.length - 1) (by omega)
        have := (isFn_iff.1 hl).1
        rw [nextId_last (by omega)]; unfold inI; omega
    have HOKA : Hid (∀ f ∈ t ++ [(⟨N, p, s⟩ : Fn)], f.ok) := Lib.hid (fun f hf => by
      rcases List.mem_append.1 hf with h | h
      · exact hok f h
      · rw [List.mem_singleton] at h
        subst h
        exact ⟨hNI, hp, hs⟩)
    unfold addFRes addF at hres
    rw [hN] at hres
    have HTRUE : Hid (isTree (t ++ [⟨N, p, s⟩]) = true → xs = t ++ [⟨N, p, s⟩] ∧ n = N ∧ b = true) := Lib.hid (fun h => by
      rw [if_pos h] at hres
      obtain ⟨h1, h2⟩ := Prod.mk.inj hres
      obtain ⟨h2, h3⟩ := Prod.mk.inj h2
      exact ⟨h1.symm, h2.symm, h3.symm⟩)
    have HFALSE : Hid (isTree (t ++ [⟨N, p, s⟩]) = false → xs = [] ∧ n = 0 ∧ b = false) := Lib.hid (fun h => by
      rw [h, if_neg (by simp)] at hres
      obtain ⟨h1, h2⟩ := Prod.mk.inj hres
      obtain ⟨h2, h3⟩ := Prod.mk.inj h2
      exact ⟨h1.symm, h2.symm, h3.symm⟩)
    have HN := Lib.hid hN
    clear hres hNI hok
    by_cases h0 : t.length = 0
    · have g0 : decide ((0 : Int) < (t.length : Int)) = false := decide_eq_false (by omega)
      have g0n : decide (0 < t.length) = false := decide_eq_false (by omega)
      obtain rfl : N = 1 := by rw [← HN.out, nextId_zero h0]
      clear hN ht h0
      go_enter Try.func26, Try.ntmps26
      go_wp2_with (first | (go_at_call 23; refine (implIsTree_any _ t _ H.out).mono ?_; rw [HT.out]; rintro e w1 ⟨rfl, b1⟩))
      go_wp2_with (first | (go_at_call 72; refine (cloneFn_any _ t _ (H.out.below rFn_stable b1) (by omega)).mono ?_; rintro e w2 ⟨v2, rfl, ho2, b2⟩; have hO := ownsRow_base_a' ho2.1.1 b1.size; rw [List.length_map] at hO; replace b1 := below_chain b1 b2; clear ho2; have s2 := b1.size) | (at_builtin; refine wpList_append_own _ rfl _ _ 24 rfl w.heap.size 36 i0 (.agg #[.int .i64 0, .int .i64 0, .string ⟨#[]⟩]) 3 32 Try.underlying24 hi hz0 hz1 hz2 rfl (by decide) _ t.length ((t.map fnC).flatten) rfl (hO.alloc _) ⟨w2.heap.size, 0, none⟩ 1 1 [.int .i64 1, .int .i64 p, .string s] rfl rfl (cells3_new' _ _ _ _ _ (by simp)) (by simp [Value.oneCell']) (by unfold maxLen; omega) (by omega) (by simp; omega) ?_; intro v' w4 hown' hgrow _))
      have HB4 := Lib.hid (below_app b1 (Nat.le_refl _) hO hgrow)
      have HF4 : Hid (FnsO w.heap.size w4.heap.size w4 v' (t ++ [⟨1, p, s⟩])) := Lib.hid (FnsO.of_row (by simpa [fnC] using hown') (by simp) (HOKA.out))
      clear hown' hgrow hO b2
      obtain ⟨bA, hbA⟩ : ∃ b, isTree (t ++ [⟨1, p, s⟩]) = b := ⟨_, rfl⟩
      have HBA := Lib.hid hbA
      clear hbA
      obtain ⟨ga, gn, gc, rfl⟩ := HF4.out.1.slice
      go_wp2_with fail
      refine (implIsTree_any _ (t ++ [⟨1, p, s⟩]) _ HF4.out.row).mono ?_
      rw [HBA.out]
      rintro e w5 ⟨rfl, b5⟩
      have hb5 := HB4.out.trans (b5.mono HB4.out.size)
      have HF5 := Lib.hid (HF4.out.below b5)
      have s5 := b5.size
      clear b5
      cases bA
      · have hr := HFALSE.out HBA.out
        obtain ⟨rfl, rfl, rfl⟩ := hr
        go_wp2_with fail
        go_ret3
        exact ⟨_, rfl, FnsO.nil _ _ _, hb5⟩
      · have hr := HTRUE.out HBA.out
        obtain ⟨rfl, rfl, rfl⟩ := hr
        go_wp2_with fail
        go_ret3
        exact ⟨_, rfl, HF5.out.wide (Nat.le_refl _) s5, hb5⟩

    · have hl := (isFn_iff.1 (tree_fn ht (i := t.length - 1) (by omega))).1
      obtain ⟨b1, o1, hb1, rfl, e1⟩ := R1.out.resolve_left (fun e => h0 (by rw [e]; rfl))
      obtain ⟨q0, _⟩ := e1 (t.length - 1) (by omega)
      have hNl : N = (t.getD (t.length - 1) fnD).id + 1 := by rw [← hN]; exact nextId_last (by omega)
      obtain ⟨L, hL⟩ : ∃ L, t.length = L + 1 := ⟨t.length - 1, by omega⟩
      rw [hL, Nat.add_sub_cancel] at q0 hl hNl
      obtain ⟨M, hM⟩ : ∃ M, (t.getD L fnD).id = M := ⟨_, rfl⟩
      rw [hM] at q0 hl hNl
      subst hNl
      have HLL := Lib.hid hL
      clear hN ht hM e1 h0
      have gl : ((t.length : Nat) : Int) - 1 = (L : Int) := by omega
      have g1 : (0 : Int) ≤ (L : Int) := by omega
      have g2 : (L : Int) < (t.length : Int) := by omega
      have g3 : decide ((0 : Int) < (t.length : Int)) = true := decide_eq_true (by omega)
      have g3n : decide (0 < t.length) = true := decide_eq_true (by omega)
      clear hL
      go_enter Try.func26, Try.ntmps26
      go_wp2_with (first | (go_at_call 23; refine (implIsTree_any _ t _ H.out).mono ?_; rw [HT.out]; rintro e w1 ⟨rfl, b1⟩; have q1 := cell_kept q0 b1))
      go_wp2_with (first | (go_at_call 72; refine (cloneFn_any _ t _ (H.out.below rFn_stable b1) (by omega)).mono ?_; rintro e w2 ⟨v2, rfl, ho2, b2⟩; have hO := ownsRow_base_a' ho2.1.1 b1.size; rw [List.length_map] at hO; replace b1 := below_chain b1 b2; clear ho2; have s2 := b1.size) | (at_builtin; refine wpList_append_own _ rfl _ _ 24 rfl w.heap.size 36 i0 (.agg #[.int .i64 0, .int .i64 0, .string ⟨#[]⟩]) 3 32 Try.underlying24 hi hz0 hz1 hz2 rfl (by decide) _ t.length ((t.map fnC).flatten) rfl (hO.alloc _) ⟨w2.heap.size, 0, none⟩ 1 1 [.int .i64 (M + 1), .int .i64 p, .string s] rfl rfl (cells3_new' _ _ _ _ _ (by simp)) (by simp [Value.oneCell']) (by unfold maxLen; omega) (by omega) (by simp; omega) ?_; intro v' w4 hown' hgrow _))
      have HB4 := Lib.hid (below_app b1 (Nat.le_refl _) hO hgrow)
      have HF4 : Hid (FnsO w.heap.size w4.heap.size w4 v' (t ++ [⟨(M + 1), p, s⟩])) := Lib.hid (FnsO.of_row (by simpa [fnC] using hown') (by simp) (HOKA.out))
      clear hown' hgrow hO b2
      obtain ⟨bA, hbA⟩ : ∃ b, isTree (t ++ [⟨(M + 1), p, s⟩]) = b := ⟨_, rfl⟩
      have HBA := Lib.hid hbA
      clear hbA
      obtain ⟨ga, gn, gc, rfl⟩ := HF4.out.1.slice
      go_wp2_with fail
      refine (implIsTree_any _ (t ++ [⟨(M + 1), p, s⟩]) _ HF4.out.row).mono ?_
      rw [HBA.out]
      rintro e w5 ⟨rfl, b5⟩
      have hb5 := HB4.out.trans (b5.mono HB4.out.size)
      have HF5 := Lib.hid (HF4.out.below b5)
      have s5 := b5.size
      clear b5
      cases bA
      · have hr := HFALSE.out HBA.out
        obtain ⟨rfl, rfl, rfl⟩ := hr
        go_wp2_with fail
        go_ret3
        exact ⟨_, rfl, FnsO.nil _ _ _, hb5⟩
      · have hr := HTRUE.out HBA.out
        obtain ⟨rfl, rfl, rfl⟩ := hr
        go_wp2_with fail
        go_ret3
        exact ⟨_, rfl, HF5.out.wide (Nat.le_refl _) s5, hb5⟩

/-- Where the cells of a list lie that is not nil. -/
theorem fns_cells {w : World} {ad : Addr} {n c : Nat} {t : List Fn} (h : RowR 3 rFn w (.slice (some ad) n c) t) : ∀ W, Below w.heap.size w W → ∀ j u, (t.map fnC).flatten[j]? = some u → W.cell? (ad.add j) = some u := by
  obtain ⟨b, off, spot⟩ := ad
  obtain ⟨a, cap, e, h1, h2, h3⟩ := h
  cases e
  rcases h3 with rfl | ⟨b', off', hb, e, hc⟩
  · intro W _ j u hj; simp at hj
  · cases e
    intro W hW j u hj
    rw [Addr.add_lit]
    exact cell_kept (RowR.flat (R := rFn) (fun _ _ _ h => h.1) fnC_len (by decide) (⟨_, _, rfl, h1, h2, .inr ⟨b, off, hb, rfl, hc⟩⟩ : RowR 3 rFn w _ t) j u hj) hW
theorem FnsO.empty {lo : Nat} (w : World) (h : lo ≤ w.heap.size) : FnsO lo (w.alloc (.cells #[] 36 (0, 0))).heap.size (w.alloc (.cells #[] 36 (0, 0))) (.slice (some ⟨w.heap.size, 0, none⟩) 0 0) [] :=
  FnsO.of_row (n := 0) (World.ownsRow_made w #[] 0 h (Nat.zero_le _) rfl) rfl (by simp)
theorem wrap_inI (n : Int) : inI (IntKind.i64.wrap n) := by
  rw [IntKind.wrap_i64]; unfold inI; omega

set_option maxRecDepth 20000 in
set_option maxHeartbeats 2000000 in
theorem specAddFunction_any (v : Value) (t : List Fn) (p : Int) (s : ByteArray) (w : World) (h : RowR 3 rFn w v t) (hsm : ∃ ad c, v = .slice (some ad) t.length c) (hn : t.length ≤ 1048576) (hp : inI p) (hs : s.size ≤ maxLen) (xs : List Fn) (n : Int) (b : Bool) (hres : addFRes t p s = (xs, n, b)) :
    Calls Try.prog 27 #[v, .int .i64 p, .string s] w fun e w' => ∃ v', e = .returned (.tuple #[v', .int .i64 n, .bool b]) ∧ FnsO w.heap.size w'.heap.size w' v' xs ∧ Below w.heap.size w w' := by
  obtain ⟨i0, hi, hz0, hz1, hz2⟩ := info_parts Try.info_fn
  obtain ⟨ad, c1, hv⟩ := hsm
  subst hv
  have hok := h.fns_ok
  have HC := Lib.hid (fns_cells h)
  have HONE := Lib.hid (flat_one fnC_one t)
  have HLEN := Lib.hid (flat_map_len fnC_len t)
  obtain ⟨a1, c', hv, hl1, hm1, r1⟩ := h.fns
  cases hv
  have R1 := Lib.hid r1
  clear h r1
  unfold maxLen at hm1
  have key : ∀ N, inI N → (isTree (addF t p s) = isTree (t ++ [⟨N, p, s⟩])) → (isTree (addF t p s) = true → N = nextId t) →
      (∀ f ∈ t ++ [(⟨N, p, s⟩ : Fn)], f.ok) ∧ (isTree (t ++ [⟨N, p, s⟩]) = true → xs = t ++ [⟨N, p, s⟩] ∧ n = N ∧ b = true) ∧ (isTree (t ++ [⟨N, p, s⟩]) = false → xs = [] ∧ n = 0 ∧ b = false) := by
    intro N hNI h1 h2
    unfold addFRes at hres
    refine ⟨fun f hf => ?_, fun h => ?_, fun h => ?_⟩
    · rcases List.mem_append.1 hf with h | h
      · exact hok f h
      · rw [List.mem_singleton] at h
        subst h
        exact ⟨hNI, hp, hs⟩
    · rw [← h1] at h
      rw [if_pos h] at hres
      obtain ⟨e1, e2⟩ := Prod.mk.inj hres
      obtain ⟨e2, e3⟩ := Prod.mk.inj e2
      have := h2 h
      subst this
      exact ⟨e1.symm, e2.symm, e3.symm⟩
    · rw [← h1] at h
      rw [h, if_neg (by simp)] at hres
      obtain ⟨e1, e2⟩ := Prod.mk.inj hres
      obtain ⟨e2, e3⟩ := Prod.mk.inj e2
      exact ⟨e1.symm, e2.symm, e3.symm⟩
  by_cases h0 : t.length = 0
  · have g0 : decide ((0 : Int) < (t.length : Int)) = false := decide_eq_false (by omega)
    have g0n : decide (0 < t.length) = false := decide_eq_false (by omega)
    have hn1 := nextId_zero h0
    obtain ⟨k1, k2, k3⟩ := key 1 (by unfold inI; omega) (by unfold addF; rw [hn1]) (fun _ => hn1.symm)
    have HOKA := Lib.hid k1
    have HTRUE := Lib.hid k2
    have HFALSE := Lib.hid k3
    clear key h0 hn1 k1 k2 k3 hok hres
    go_enter Try.func27, Try.ntmps27
    go_wp2_with (first | (at_builtin; refine wpList_append_own _ rfl _ _ 24 rfl w.heap.size 36 i0 (.agg #[.int .i64 0, .int .i64 0, .string ⟨#[]⟩]) 3 32 Try.underlying24 hi hz0 hz1 hz2 rfl (by decide) (.slice (some ⟨w.heap.size, 0, none⟩) 0 0) 0 [] rfl (World.ownsRow_made w #[] 0 (Nat.le_refl _) (Nat.zero_le _) rfl) ad t.length c1 ((t.map fnC).flatten) rfl HLEN.out (HC.out _ (below_al (Below.refl _ _) _)) HONE.out (by unfold maxLen; omega) (by omega) (by simp) ?_; intro v2 w2 hown2 hgrow2 _; have b1 : Below w.heap.size w w2 := (below_al (Below.refl _ w) _).grown hgrow2 (by simp) (fun k hk => Nat.le_of_eq (by simpa [Value.ownBlock] using hk)); have hO := hown2; rw [Nat.zero_add, List.nil_append] at hO; clear hown2 hgrow2; have s2 := b1.size) | (at_builtin; refine wpList_append_own _ rfl _ _ 24 rfl w.heap.size 36 i0 (.agg #[.int .i64 0, .int .i64 0, .string ⟨#[]⟩]) 3 32 Try.underlying24 hi hz0 hz1 hz2 rfl (by decide) _ t.length ((t.map fnC).flatten) rfl (hO.alloc _) ⟨w2.heap.size, 0, none⟩ 1 1 [.int .i64 1, .int .i64 p, .string s] rfl rfl (cells3_new' _ _ _ _ _ (by simp)) (by simp [Value.oneCell']) (by unfold maxLen; omega) (by omega) (by simp; omega) ?_; intro v' w4 hown' hgrow _))
    have HB4 := Lib.hid (below_app b1 (Nat.le_refl _) hO hgrow)
    have HF4 : Hid (FnsO w.heap.size w4.heap.size w4 v' (t ++ [⟨1, p, s⟩])) := Lib.hid (FnsO.of_row (by simpa [fnC] using hown') (by simp) (HOKA.out))
    clear hown' hgrow hO b1
    obtain ⟨bA, hbA⟩ : ∃ b, isTree (t ++ [⟨1, p, s⟩]) = b := ⟨_, rfl⟩
    have HBA := Lib.hid hbA
    clear hbA
    obtain ⟨ga, gn, gc, rfl⟩ := HF4.out.1.slice
    go_wp2_with fail
    refine (l3Good_any _ (t ++ [⟨1, p, s⟩]) _ HF4.out.row).mono ?_
    rw [HBA.out]
    rintro e w5 ⟨rfl, b5⟩
    have hb5 := HB4.out.trans (b5.mono HB4.out.size)
    have HF5 := Lib.hid (HF4.out.below b5)
    have s5 := b5.size
    clear b5
    cases bA
    · have hr := HFALSE.out HBA.out
      obtain ⟨rfl, rfl, rfl⟩ := hr
      go_wp2_with fail
      go_ret3
      exact ⟨_, rfl, FnsO.empty _ hb5.size, below_al hb5 _⟩
    · have hr := HTRUE.out HBA.out
      obtain ⟨rfl, rfl, rfl⟩ := hr
      go_wp2_with fail
      go_ret3
      exact ⟨_, rfl, HF5.out.wide (Nat.le_refl _) s5, hb5⟩
  · obtain ⟨b1, o1, hb1, e0, e1⟩ := R1.out.resolve_left (fun e => h0 (by rw [e]; rfl))
    cases e0
    obtain ⟨q0, _⟩ := e1 (t.length - 1) (by omega)
    obtain ⟨L, hL⟩ : ∃ L, t.length = L + 1 := ⟨t.length - 1, by omega⟩
    have hlast := nextId_last (t := t) (by omega)
    have hMI := (hok (t.getD L fnD) (by rw [getF_lt (by omega)]; exact List.getElem_mem _)).1
    have htr : isTree t = true → (t.getD L fnD).id ≤ 99 := fun h => (isFn_iff.1 (tree_fn h (by omega))).1.2
    rw [hL, Nat.add_sub_cancel] at q0 hlast
    obtain ⟨M, hM⟩ : ∃ M, (t.getD L fnD).id = M := ⟨_, rfl⟩
    rw [hM] at q0 hlast hMI htr
    obtain ⟨N, hN⟩ : ∃ N, IntKind.i64.wrap (M + 1) = N := ⟨_, rfl⟩
    have hNI : inI N := by rw [← hN]; exact wrap_inI _
    have hNM : isTree t = true → N = nextId t := fun h => by
      rw [hlast, ← hN]
      refine Go.IntWalk.i64_in _ ?_
      have := htr h
      unfold inI at hMI
      omega
    obtain ⟨k1, k2, k3⟩ := key N hNI (by
      rcases hb : isTree t with _ | _
      · have e1 : isTree (addF t p s) = false := by
          rcases hb2 : isTree (addF t p s) with _ | _
          · first | rfl | exact hb2
          · have := tree_prefix hb2; rw [hb] at this; cases this
        have e2 : isTree (t ++ [⟨N, p, s⟩]) = false := by
          rcases hb2 : isTree (t ++ [⟨N, p, s⟩]) with _ | _
          · first | rfl | exact hb2
          · have := tree_prefix hb2; rw [hb] at this; cases this
        rw [e1, e2]
      · unfold addF; rw [hNM hb]) (fun h => hNM (tree_prefix h))
    have HOKA := Lib.hid k1
    have HTRUE := Lib.hid k2
    have HFALSE := Lib.hid k3
    have HLL := Lib.hid hL
    have gl : ((t.length : Nat) : Int) - 1 = (L : Int) := by omega
    have g1 : (0 : Int) ≤ (L : Int) := by omega
    have g2 : (L : Int) < (t.length : Int) := by omega
    have g3 : decide ((0 : Int) < (t.length : Int)) = true := decide_eq_true (by omega)
    have g3n : decide (0 < t.length) = true := decide_eq_true (by omega)
    have hw : IntKind.i64.wrap ((t.length : Int) - 1) = (L : Int) := by rw [gl]; exact Go.IntWalk.i64_in _ (by omega)
    clear key h0 k1 k2 k3 hok hres hL hlast htr hNM hNI hM e1 hMI
    go_enter Try.func27, Try.ntmps27
    go_wp2_with (first | (at_builtin; refine wpList_append_own _ rfl _ _ 24 rfl w.heap.size 36 i0 (.agg #[.int .i64 0, .int .i64 0, .string ⟨#[]⟩]) 3 32 Try.underlying24 hi hz0 hz1 hz2 rfl (by decide) (.slice (some ⟨w.heap.size, 0, none⟩) 0 0) 0 [] rfl (World.ownsRow_made w #[] 0 (Nat.le_refl _) (Nat.zero_le _) rfl) ⟨b1, o1, none⟩ t.length c1 ((t.map fnC).flatten) rfl HLEN.out (HC.out _ (below_al (Below.refl _ _) _)) HONE.out (by unfold maxLen; omega) (by omega) (by simp) ?_; intro v2 w2 hown2 hgrow2 _; have b1 : Below w.heap.size w w2 := (below_al (Below.refl _ w) _).grown hgrow2 (by simp) (fun k hk => Nat.le_of_eq (by simpa [Value.ownBlock] using hk)); have hO := hown2; rw [Nat.zero_add, List.nil_append] at hO; clear hown2 hgrow2; have s2 := b1.size) | (at_builtin; refine wpList_append_own _ rfl _ _ 24 rfl w.heap.size 36 i0 (.agg #[.int .i64 0, .int .i64 0, .string ⟨#[]⟩]) 3 32 Try.underlying24 hi hz0 hz1 hz2 rfl (by decide) _ t.length ((t.map fnC).flatten) rfl (hO.alloc _) ⟨w2.heap.size, 0, none⟩ 1 1 [.int .i64 N, .int .i64 p, .string s] rfl rfl (cells3_new' _ _ _ _ _ (by simp)) (by simp [Value.oneCell']) (by unfold maxLen; omega) (by omega) (by simp; omega) ?_; intro v' w4 hown' hgrow _))
    have HB4 := Lib.hid (below_app b1 (Nat.le_refl _) hO hgrow)
    have HF4 : Hid (FnsO w.heap.size w4.heap.size w4 v' (t ++ [⟨N, p, s⟩])) := Lib.hid (FnsO.of_row (by simpa [fnC] using hown') (by simp) (HOKA.out))
    clear hown' hgrow hO b1
    obtain ⟨bA, hbA⟩ : ∃ b, isTree (t ++ [⟨N, p, s⟩]) = b := ⟨_, rfl⟩
    have HBA := Lib.hid hbA
    clear hbA
    obtain ⟨ga, gn, gc, rfl⟩ := HF4.out.1.slice
    go_wp2_with fail
    refine (l3Good_any _ (t ++ [⟨N, p, s⟩]) _ HF4.out.row).mono ?_
    rw [HBA.out]
    rintro e w5 ⟨rfl, b5⟩
    have hb5 := HB4.out.trans (b5.mono HB4.out.size)
    have HF5 := Lib.hid (HF4.out.below b5)
    have s5 := b5.size
    clear b5
    cases bA
    · have hr := HFALSE.out HBA.out
      obtain ⟨rfl, rfl, rfl⟩ := hr
      go_wp2_with fail
      go_ret3
      exact ⟨_, rfl, FnsO.empty _ hb5.size, below_al hb5 _⟩
    · have hr := HTRUE.out HBA.out
      obtain ⟨rfl, rfl, rfl⟩ := hr
      go_wp2_with fail
      go_ret3
      exact ⟨_, rfl, HF5.out.wide (Nat.le_refl _) s5, hb5⟩
end Go.Proofs.Ytapbajficopnlaa
