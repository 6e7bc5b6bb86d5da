/- MoveUnder, the model's and the program's. -/
import Derived.Test.YtapbajficopnlaaAddF
import Derived.Test.YtapbajficopnlaaPlace
namespace Go.Proofs.Ytapbajficopnlaa
set_option linter.unusedVariables false
open Go.RowKit Go.Sort

/-- What MoveUnder answers. -/
def movF (t : List Fn) (x p : Int) : List Fn := t.set (placeF t x) { t.getD (placeF t x) fnD with parent := p }
def movRes (t : List Fn) (x p : Int) : List Fn × Bool := if isTree t = true ∧ hasF t x = true ∧ isTree (movF t x p) = true then (movF t x p, true) else ([], false)
theorem movRes_len {t : List Fn} {x p : Int} {xs : List Fn} {b : Bool} (h : movRes t x p = (xs, b)) : xs.length ≤ t.length + 1 := by
  unfold movRes movF at h
  split at h
  · obtain ⟨rfl, _⟩ := Prod.mk.inj h; simp
  · obtain ⟨rfl, _⟩ := Prod.mk.inj h; simp
theorem movRes_no {t : List Fn} {x p : Int} {xs : List Fn} {b : Bool} (h : movRes t x p = (xs, b)) (hn : ¬ (isTree t = true ∧ hasF t x = true)) : xs = [] ∧ b = false := by
  unfold movRes at h
  rw [if_neg (fun k => hn ⟨k.1, k.2.1⟩)] at h
  obtain ⟨h1, h2⟩ := Prod.mk.inj h
  exact ⟨h1.symm, h2.symm⟩
theorem movRes_yes {t : List Fn} {x p : Int} {xs : List Fn} {b : Bool} (h : movRes t x p = (xs, b)) (ht : isTree t = true) (hx : hasF t x = true) (bm : Bool) (hm : isTree (movF t x p) = bm) : (bm = true → xs = movF t x p ∧ b = true) ∧ (bm = false → xs = [] ∧ b = false) := by
  unfold movRes at h
  refine ⟨fun e => ?_, fun e => ?_⟩
  · rw [if_pos ⟨ht, hx, by rw [hm, e]⟩] at h
    obtain ⟨h1, h2⟩ := Prod.mk.inj h
    exact ⟨h1.symm, h2.symm⟩
  · rw [if_neg (fun k => by rw [hm, e] at k; cases k.2.2)] at h
    obtain ⟨h1, h2⟩ := Prod.mk.inj h
    exact ⟨h1.symm, h2.symm⟩
theorem movF_ok {t : List Fn} (h : ∀ f ∈ t, f.ok) {x p : Int} (hp : inI p) (hx : placeF t x < t.length) : ∀ f ∈ movF t x p, f.ok := by
  intro f hf
  rcases List.mem_or_eq_of_mem_set hf with h1 | h1
  · exact h f h1
  · subst h1
    have := h (t.getD (placeF t x) fnD) (by rw [getF_lt hx]; exact List.getElem_mem hx)
    exact ⟨this.1, hp, this.2.2⟩
theorem set_map_fnC (t : List Fn) (i : Nat) (f : Fn) : (t.map fnC).set i (fnC f) = (t.set i f).map fnC := by rw [List.map_set]

set_option maxRecDepth 20000 in
set_option maxHeartbeats 2000000 in
theorem implMoveUnder_any (v : Value) (t : List Fn) (x p : Int) (w : World) (h : RowR 3 rFn w v t) (hp : inI p) (xs : List Fn) (b : Bool) (hres : movRes t x p = (xs, b)) :
    Calls Try.prog 31 #[v, .int .i64 x, .int .i64 p] w fun e w' => ∃ v', e = .returned (.tuple #[v', .bool b]) ∧ FnsO w.heap.size w'.heap.size w' v' xs ∧ Below w.heap.size w w' := by
  have H := Lib.hid h
  have hok := h.fns_ok
  have HRES := Lib.hid hres
  clear h hres
  rcases ht : isTree t with _ | _
  · obtain ⟨rfl, rfl⟩ := movRes_no HRES.out (by rw [ht]; simp)
    have HT := Lib.hid ht
    clear ht hok
    go_enter Try.func31, Try.ntmps31
    go_wp2_with (first | (go_at_call 73; refine (placeInTree_no _ t x _ H.out HT.out).mono ?_; rintro e w1 ⟨rfl, b1⟩))
    go_ret2
    exact ⟨_, rfl, FnsO.nil _ _ _, b1⟩
  · have HT := Lib.hid ht
    rcases hh : hasF t x with _ | _
    · obtain ⟨rfl, rfl⟩ := movRes_no HRES.out (by rw [hh]; simp)
      have hfi := findI_no hh
      have HFI := Lib.hid hfi
      have HH := Lib.hid hh
      clear ht hok hh hfi
      go_enter Try.func31, Try.ntmps31
      go_wp2_with (first | (go_at_call 73; refine (placeInTree_any _ t x _ H.out HT.out).mono ?_; rw [HH.out, HFI.out]; rintro e w1 ⟨rfl, b1⟩))
      go_ret2
      exact ⟨_, rfl, FnsO.nil _ _ _, b1⟩
    · have hpl : placeF t x < t.length := of_decide_eq_true hh
      have hfi := findI_yes hh
      have h15 := tree_len ht
      obtain ⟨bm, hbm⟩ : ∃ b, isTree (movF t x p) = b := ⟨_, rfl⟩
      have hmr := movRes_yes HRES.out ht hh bm hbm
      have hmo := movF_ok hok hp hpl
      obtain ⟨P, hP⟩ : ∃ P, placeF t x = P := ⟨_, rfl⟩
      have hset : (t.map fnC).set P (fnC { t.getD P fnD with parent := p }) = (movF t x p).map fnC := by rw [set_map_fnC]; unfold movF; rw [hP]
      obtain ⟨⟨fi, fp, fs⟩, hx⟩ : ∃ s, t.getD P fnD = s := ⟨_, rfl⟩
      have hat : ∀ hl, (t.map fnC)[P]'hl = fnC ⟨fi, fp, fs⟩ := fun hl => by rw [List.getElem_map, ← hx, getF_lt]
      rw [hx] at hset
      rw [hP] at hpl hfi
      have hlen2 : (t.map fnC).length = t.length := List.length_map _
      have HMR := Lib.hid hmr
      have HMO := Lib.hid hmo
      have HSET := Lib.hid hset
      have HAT := Lib.hid hat
      have HBM := Lib.hid hbm
      have HFI := Lib.hid hfi
      have HH := Lib.hid hh
      have HL := Lib.hid hlen2
      have g0 : (0 : Int) ≤ (P : Int) := by omega
      have g1 : (P : Int) < (t.length : Int) := by omega
      clear ht hok hh hfi hmr hmo hset hat hbm hx hP hlen2
      go_enter Try.func31, Try.ntmps31
      go_wp2_with (first | (go_at_call 73; refine (placeInTree_any _ t x _ H.out HT.out).mono ?_; rw [HH.out, HFI.out]; rintro e w1 ⟨rfl, b1⟩) | (go_at_call 72; refine (cloneFn_any _ t _ (H.out.below rFn_stable b1) (by omega)).mono ?_; rintro e w2 ⟨v2, rfl, ho2, b2⟩; have hO := ho2.1.lower b1.size; have b3 := below_chain b1 b2; obtain ⟨g, cap, rfl, hg⟩ := hO.at_some (by rw [HL.out]; omega); rw [HL.out] at hO; have c1 := hO.cell P 1 (by rw [HL.out]; omega) (by omega); rw [HAT.out] at c1; simp [fnC] at c1; have fr1 := hO.frozen (P * 3 + 1); rw [HL.out]; have HO := Lib.hid hO; clear hO ho2))
      obtain ⟨s1, _⟩ := HO.out.stored P 1 (by rw [HL.out]; exact hpl) (by omega) (.int .i64 p)
      rw [HAT.out, show (fnC ⟨fi, fp, fs⟩).set 1 (.int .i64 p) = fnC { (⟨fi, fp, fs⟩ : Fn) with parent := p } from rfl, HSET.out] at s1
      have HF : Hid (FnsO w.heap.size (w2.setCell ⟨g, P * 3 + 1, none⟩ (.int .i64 p)).heap.size (w2.setCell ⟨g, P * 3 + 1, none⟩ (.int .i64 p)) (.slice (some ⟨g, 0, none⟩) t.length cap) (movF t x p)) := ⟨s1, HMO.out, s1.under⟩
      have hb4 := b3.setCell (p := ⟨g, P * 3 + 1, none⟩) hg.2 (.int .i64 p)
      refine (implIsTree_any _ (movF t x p) _ HF.out.row).mono ?_
      rw [HBM.out]
      rintro e w5 ⟨rfl, b5⟩
      have hb5 := hb4.trans (b5.mono hb4.size)
      have HF5 := Lib.hid (HF.out.below b5)
      have s5 := b5.size
      clear b5 s1 hb4
      cases bm
      · obtain ⟨rfl, rfl⟩ := HMR.out.2 rfl
        go_wp2_with fail
        go_ret2
        exact ⟨_, rfl, FnsO.nil _ _ _, hb5⟩
      · obtain ⟨rfl, rfl⟩ := HMR.out.1 rfl
        go_wp2_with fail
        go_ret2
        exact ⟨_, rfl, HF5.out.wide (Nat.le_refl _) s5, hb5⟩

set_option maxRecDepth 20000 in
set_option maxHeartbeats 2000000 in
theorem specMoveUnder_any (v : Value) (t : List Fn) (x p : Int) (w : World) (h : RowR 3 rFn w v t) (hsm : ∃ ad c, v = .slice (some ad) t.length c) (hp : inI p) (xs : List Fn) (b : Bool) (hres : movRes t x p = (xs, b)) :
    Calls Try.prog 32 #[v, .int .i64 x, .int .i64 p] w fun e w' => ∃ v', e = .returned (.tuple #[v', .bool b]) ∧ FnsO w.heap.size w'.heap.size w' v' xs ∧ Below w.heap.size w w' := by
  obtain ⟨i0, hi, hz0, hz1, hz2⟩ := info_parts Try.info_fn
  obtain ⟨ad, c1, hv⟩ := hsm
  have H := Lib.hid h
  have hok := h.fns_ok
  have HRES := Lib.hid hres
  clear hres
  rcases ht : isTree t with _ | _
  · obtain ⟨rfl, rfl⟩ := movRes_no HRES.out (by rw [ht]; simp)
    have HT := Lib.hid ht
    clear ht hok h hv
    go_enter Try.func32, Try.ntmps32
    go_wp2_with (first | (go_at_call 58; refine (l3Find_any _ t x _ H.out).mono ?_; rintro e w1 ⟨rfl, b1⟩) | (go_at_call 57; refine (l3Good_any _ t _ (H.out.below rFn_stable b1)).mono ?_; rw [HT.out]; rintro e w2 ⟨rfl, b2⟩))
    go_ret2
    exact ⟨_, rfl, FnsO.empty _ (below_chain b1 b2).size, below_al (below_chain b1 b2) _⟩
  · have HT := Lib.hid ht
    rcases hh : hasF t x with _ | _
    · obtain ⟨rfl, rfl⟩ := movRes_no HRES.out (by rw [hh]; simp)
      have hfi := findI_no hh
      have HFI := Lib.hid hfi
      have HH := Lib.hid hh
      clear ht hok hh hfi h hv
      go_enter Try.func32, Try.ntmps32
      go_wp2_with (first | (go_at_call 58; refine (l3Find_any _ t x _ H.out).mono ?_; rw [HFI.out]; rintro e w1 ⟨rfl, b1⟩) | (go_at_call 57; refine (l3Good_any _ t _ (H.out.below rFn_stable b1)).mono ?_; rw [HT.out]; rintro e w2 ⟨rfl, b2⟩))
      go_ret2
      exact ⟨_, rfl, FnsO.empty _ (below_chain b1 b2).size, below_al (below_chain b1 b2) _⟩
    · have hpl : placeF t x < t.length := of_decide_eq_true hh
      have hfi := findI_yes hh
      have h15 := tree_len ht
      obtain ⟨bm, hbm⟩ : ∃ b, isTree (movF t x p) = b := ⟨_, rfl⟩
      have hmr := movRes_yes HRES.out ht hh bm hbm
      have hmo := movF_ok hok hp hpl
      obtain ⟨P, hP⟩ : ∃ P, placeF t x = P := ⟨_, rfl⟩
      have hset : (t.map fnC).set P (fnC { t.getD P fnD with parent := p }) = (movF t x p).map fnC := by rw [set_map_fnC]; unfold movF; rw [hP]
      subst hv
      have HC := Lib.hid (fns_cells h)
      have HONE := Lib.hid (flat_one fnC_one t)
      have HLEN := Lib.hid (flat_map_len fnC_len t)
      obtain ⟨a1, c', hv, hl1, hm1, r1⟩ := h.fns
      cases hv
      obtain ⟨bx, ox, hbx, e0, e1⟩ := r1.resolve_left (fun e => by rw [e] at hpl; simp at hpl)
      cases e0
      rw [hP] at hpl hfi
      obtain ⟨q0, q1, q2, _⟩ := e1 P hpl
      obtain ⟨⟨fi, fp, fs⟩, hx⟩ : ∃ s, t.getD P fnD = s := ⟨_, rfl⟩
      have hat : ∀ hl, (t.map fnC)[P]'hl = fnC ⟨fi, fp, fs⟩ := fun hl => by rw [List.getElem_map, ← hx, getF_lt]
      rw [hx] at hset q0 q1 q2
      simp only at q0 q1 q2
      have hlen2 : (t.map fnC).length = t.length := List.length_map _
      have HMR := Lib.hid hmr
      have HMO := Lib.hid hmo
      have HSET := Lib.hid hset
      have HAT := Lib.hid hat
      have HBM := Lib.hid hbm
      have HFI := Lib.hid hfi
      have HL := Lib.hid hlen2
      have g0 : (0 : Int) ≤ (P : Int) := by omega
      have g1 : (P : Int) < (t.length : Int) := by omega
      unfold maxLen at hm1
      clear ht hok hh hfi hmr hmo hset hat hbm hx hP hlen2 h r1 e1
      cases bm
      · obtain ⟨rfl, rfl⟩ := HMR.out.2 rfl
        go_enter Try.func32, Try.ntmps32
        go_wp2_with (first | (go_at_call 58; refine (l3Find_any _ t x _ H.out).mono ?_; rw [HFI.out]; rintro e w1 ⟨rfl, b1⟩) | (go_at_call 57; have hx9 := HBB.out; obtain ⟨s0, s2⟩ := HO.out.put P (by rw [HL.out]; exact hpl) (fnC ⟨fi, p, fs⟩) rfl; have hb4 := below_al (b3.grown s2 b3.size (fun k hk => by cases hk; exact hg.2)) (.cells #[.int .i64 fi, .int .i64 p, .string fs] 36 (0, 0)); have s1 := s0.alloc (.cells #[.int .i64 fi, .int .i64 p, .string fs] 36 (0, 0)); rw [show fnC (⟨fi, p, fs⟩ : Fn) = fnC { (⟨fi, fp, fs⟩ : Fn) with parent := p } from rfl, HSET.out] at s1; have HF := Lib.hid (show FnsO w.heap.size _ _ (.slice (some ⟨g, 0, none⟩) t.length cap) (movF t x p) from ⟨s1, HMO.out, s1.under⟩); clear s0 s1 s2 hx9 HBB HO d0 d1 d2 r0 r1 r2 f0 f1 f2; refine (l3Good_any _ (movF t x p) _ HF.out.row).mono ?_; rw [HBM.out]; rintro e w5 ⟨rfl, b5⟩; have hb5 := hb4.trans (b5.mono hb4.size); have HF5 := Lib.hid (HF.out.below b5); have s5 := b5.size; clear b5 hb4 HF) | (go_at_call 57; refine (l3Good_any _ t _ (H.out.below rFn_stable b1)).mono ?_; rw [HT.out]; rintro e w2 ⟨rfl, b2⟩; replace b1 := below_chain b1 b2) | (at_builtin; refine wpList_append_own _ rfl _ _ 24 rfl w.heap.size 36 i0 (.agg #[.int .i64 0, .int .i64 0, .string ⟨#[]⟩]) 3 32 Try.underlying24 hi hz0 hz1 hz2 rfl (by decide) (.slice (some ⟨w2.heap.size, 0, none⟩) 0 0) 0 [] rfl (World.ownsRow_made w2 #[] 0 b1.size (Nat.zero_le _) rfl) ⟨bx, ox, none⟩ t.length c1 ((t.map fnC).flatten) rfl HLEN.out (HC.out _ (below_al b1 _)) HONE.out (by unfold maxLen; omega) (by omega) (Nat.le_trans b1.size (by simp)) ?_; intro v3 w3 hown3 hgrow3 _; have b3 : Below w.heap.size w w3 := (below_al b1 _).grown hgrow3 (Nat.le_trans b1.size (by simp)) (fun k hk => Nat.le_trans b1.size (Nat.le_of_eq (by simpa [Value.ownBlock] using hk))); have hO : Own w.heap.size 36 3 w3 v3 (t.map fnC) := ⟨by simpa using hown3, fun cs hc => by obtain ⟨y, _, rfl⟩ := List.mem_map.1 hc; rfl⟩; clear hown3 hgrow3; obtain ⟨g, cap, rfl, hg⟩ := hO.at_some (by rw [HL.out]; omega); rw [HL.out] at hO; rw [HL.out]; have hB := fun (o : Obj) (u : Value) => (below_al (Below.refl w3.heap.size w3) o).setCell (p := ⟨w3.heap.size, 1, none⟩) (Nat.le_refl _) u; have d0 := hO.cell P 0 (by rw [HL.out]; exact hpl) (by omega); have d1 := hO.cell P 1 (by rw [HL.out]; exact hpl) (by omega); have d2 := hO.cell P 2 (by rw [HL.out]; exact hpl) (by omega); have r0 := hO.frozen (P * 3); have r1 := hO.frozen (P * 3 + 1); have r2 := hO.frozen (P * 3 + 2); simp only [HAT.out] at d0 d1 d2; simp [fnC] at d0 d1 d2; have f0 := cell_kept q0 b3; have f1 := cell_kept q1 b3; have f2 := cell_kept q2 b3; have HO := Lib.hid hO; have HBB := Lib.hid hB; clear hO hB))
        go_ret2
        exact ⟨_, rfl, FnsO.empty _ hb5.size, below_al hb5 _⟩
      · obtain ⟨rfl, rfl⟩ := HMR.out.1 rfl
        go_enter Try.func32, Try.ntmps32
        go_wp2_with (first | (go_at_call 58; refine (l3Find_any _ t x _ H.out).mono ?_; rw [HFI.out]; rintro e w1 ⟨rfl, b1⟩) | (go_at_call 57; have hx9 := HBB.out; obtain ⟨s0, s2⟩ := HO.out.put P (by rw [HL.out]; exact hpl) (fnC ⟨fi, p, fs⟩) rfl; have hb4 := below_al (b3.grown s2 b3.size (fun k hk => by cases hk; exact hg.2)) (.cells #[.int .i64 fi, .int .i64 p, .string fs] 36 (0, 0)); have s1 := s0.alloc (.cells #[.int .i64 fi, .int .i64 p, .string fs] 36 (0, 0)); rw [show fnC (⟨fi, p, fs⟩ : Fn) = fnC { (⟨fi, fp, fs⟩ : Fn) with parent := p } from rfl, HSET.out] at s1; have HF := Lib.hid (show FnsO w.heap.size _ _ (.slice (some ⟨g, 0, none⟩) t.length cap) (movF t x p) from ⟨s1, HMO.out, s1.under⟩); clear s0 s1 s2 hx9 HBB HO d0 d1 d2 r0 r1 r2 f0 f1 f2; refine (l3Good_any _ (movF t x p) _ HF.out.row).mono ?_; rw [HBM.out]; rintro e w5 ⟨rfl, b5⟩; have hb5 := hb4.trans (b5.mono hb4.size); have HF5 := Lib.hid (HF.out.below b5); have s5 := b5.size; clear b5 hb4 HF) | (go_at_call 57; refine (l3Good_any _ t _ (H.out.below rFn_stable b1)).mono ?_; rw [HT.out]; rintro e w2 ⟨rfl, b2⟩; replace b1 := below_chain b1 b2) | (at_builtin; refine wpList_append_own _ rfl _ _ 24 rfl w.heap.size 36 i0 (.agg #[.int .i64 0, .int .i64 0, .string ⟨#[]⟩]) 3 32 Try.underlying24 hi hz0 hz1 hz2 rfl (by decide) (.slice (some ⟨w2.heap.size, 0, none⟩) 0 0) 0 [] rfl (World.ownsRow_made w2 #[] 0 b1.size (Nat.zero_le _) rfl) ⟨bx, ox, none⟩ t.length c1 ((t.map fnC).flatten) rfl HLEN.out (HC.out _ (below_al b1 _)) HONE.out (by unfold maxLen; omega) (by omega) (Nat.le_trans b1.size (by simp)) ?_; intro v3 w3 hown3 hgrow3 _; have b3 : Below w.heap.size w w3 := (below_al b1 _).grown hgrow3 (Nat.le_trans b1.size (by simp)) (fun k hk => Nat.le_trans b1.size (Nat.le_of_eq (by simpa [Value.ownBlock] using hk))); have hO : Own w.heap.size 36 3 w3 v3 (t.map fnC) := ⟨by simpa using hown3, fun cs hc => by obtain ⟨y, _, rfl⟩ := List.mem_map.1 hc; rfl⟩; clear hown3 hgrow3; obtain ⟨g, cap, rfl, hg⟩ := hO.at_some (by rw [HL.out]; omega); rw [HL.out] at hO; rw [HL.out]; have hB := fun (o : Obj) (u : Value) => (below_al (Below.refl w3.heap.size w3) o).setCell (p := ⟨w3.heap.size, 1, none⟩) (Nat.le_refl _) u; have d0 := hO.cell P 0 (by rw [HL.out]; exact hpl) (by omega); have d1 := hO.cell P 1 (by rw [HL.out]; exact hpl) (by omega); have d2 := hO.cell P 2 (by rw [HL.out]; exact hpl) (by omega); have r0 := hO.frozen (P * 3); have r1 := hO.frozen (P * 3 + 1); have r2 := hO.frozen (P * 3 + 2); simp only [HAT.out] at d0 d1 d2; simp [fnC] at d0 d1 d2; have f0 := cell_kept q0 b3; have f1 := cell_kept q1 b3; have f2 := cell_kept q2 b3; have HO := Lib.hid hO; have HBB := Lib.hid hB; clear hO hB))
        go_ret2
        exact ⟨_, rfl, HF5.out.wide (Nat.le_refl _) s5, hb5⟩
end Go.Proofs.Ytapbajficopnlaa
