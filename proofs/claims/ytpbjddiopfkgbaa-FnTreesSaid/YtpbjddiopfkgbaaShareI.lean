/- SharedPath, the model's and the program's. -/
import Derived.Test.YtpbjddiopfkgbaaPathI
namespace Go.Proofs.Ytpbjddiopfkgbaa
set_option linter.unusedVariables false
open Go.RowKit Go.Sort

/-- How long the common beginning of two lists is. -/
def cpl : List Int → List Int → Nat
  | x :: xs, y :: ys => if x = y then cpl xs ys + 1 else 0
  | _, _ => 0
theorem cpl_is : ∀ (xs ys : List Int) (k : Nat), k ≤ xs.length → k ≤ ys.length → (∀ j, j < k → xs.getD j 0 = ys.getD j 0) → (k = xs.length ∨ k = ys.length ∨ xs.getD k 0 ≠ ys.getD k 0) → cpl xs ys = k
  | [], ys, k, h1, _, _, _ => by simp at h1; simp [cpl, h1]
  | x :: xs, [], k, _, h2, _, _ => by simp at h2; simp [cpl, h2]
  | x :: xs, y :: ys, 0, _, _, _, h4 => by
    have : ¬ x = y := by
      rcases h4 with h | h | h
      · simp at h
      · simp at h
      · simpa using h
    simp [cpl, this]
  | x :: xs, y :: ys, k + 1, h1, h2, h3, h4 => by
    have h0 : x = y := by simpa using h3 0 (by omega)
    have := cpl_is xs ys k (by simpa using h1) (by simpa using h2) (fun j hj => by simpa using h3 (j + 1) (by omega)) (h4.imp (fun h => by simpa using h) (fun h => h.imp (fun h => by simpa using h) (fun h => by simpa using h)))
    simp [cpl, h0, this]
theorem cpl_le : ∀ (xs ys : List Int), cpl xs ys ≤ xs.length
  | [], ys => by simp [cpl]
  | x :: xs, [] => by simp [cpl]
  | x :: xs, y :: ys => by
    have := cpl_le xs ys
    simp only [cpl]
    split
    · simp; exact this
    · simp
/-- What SharedPath answers. -/
def shaRes (t : List Fn) (x y : Int) : List Int × Bool := if isTree t = true ∧ hasF t x = true ∧ hasF t y = true then ((pathF t x).take (cpl (pathF t x) (pathF t y)), true) else ([], false)
theorem shaRes_len {t : List Fn} {x y : Int} {xs : List Int} {b : Bool} (h : shaRes t x y = (xs, b)) : xs.length ≤ 99 := by
  unfold shaRes at h
  split at h
  · rename_i hh
    obtain ⟨rfl, _⟩ := Prod.mk.inj h
    have := path_le hh.1 (.inr hh.2.1)
    rw [List.length_take]
    omega
  · obtain ⟨rfl, _⟩ := Prod.mk.inj h; simp
theorem pathRes_pos {t : List Fn} {x : Int} {P : List Int} (h : pathRes t x = (P, true)) : 0 < P.length := by
  unfold pathRes at h
  split at h
  · rename_i hh
    obtain ⟨rfl, _⟩ := Prod.mk.inj h
    rw [pathF_step hh.1 hh.2, List.length_append]
    simp
  · cases (Prod.mk.inj h).2
theorem ownsRow_take {lo e : Nat} {w : World} {a : Option Addr} {n c : Nat} {xs : List Value} (h : w.ownsRow lo e 1 (.slice a n c) n xs) {k : Nat} (hk : k ≤ n) : w.ownsRow lo e 1 (.slice a k c) k (xs.take k) := by
  have hl := h.1
  rcases h.2 with ⟨e1, h0⟩ | ⟨g, cap, cur, e1, hg, hh, hn, hm, hs, ht⟩
  · cases e1
    obtain rfl : k = 0 := by omega
    exact ⟨by simp, .inl ⟨rfl, rfl⟩⟩
  · cases e1
    refine ⟨by rw [List.length_take]; omega, .inr ⟨g, _, cur, rfl, hg, hh, by omega, hm, hs, ?_⟩⟩
    rw [← ht, List.take_take]
    congr 1
    omega

set_option maxRecDepth 20000 in
set_option maxHeartbeats 2000000 in
theorem implSharedPath_any (v : Value) (t : List Fn) (x y : Int) (w : World) (h : RowR 3 rFn w v t) (xs : List Int) (b : Bool) (hres : shaRes t x y = (xs, b)) :
    Calls Try.prog 19 #[v, .int .i64 x, .int .i64 y] w fun e w' => ∃ v', e = .returned (.tuple #[v', .bool b]) ∧ IntsO w.heap.size w'.heap.size w' v' xs ∧ Below w.heap.size w w' := by
  have H := Lib.hid h
  clear h
  obtain ⟨P, bp, hP⟩ : ∃ P b, pathRes t x = (P, b) := ⟨_, _, rfl⟩
  obtain ⟨Q, bq, hQ⟩ : ∃ P b, pathRes t y = (P, b) := ⟨_, _, rfl⟩
  have hres2 : shaRes t x y = if bp = true ∧ bq = true then (P.take (cpl P Q), true) else ([], false) := by
    unfold pathRes at hP hQ
    unfold shaRes
    by_cases ht : isTree t = true
    · by_cases hx : hasF t x = true
      · by_cases hy : hasF t y = true
        · rw [if_pos ⟨ht, hx⟩] at hP
          rw [if_pos ⟨ht, hy⟩] at hQ
          obtain ⟨rfl, rfl⟩ := Prod.mk.inj hP
          obtain ⟨rfl, rfl⟩ := Prod.mk.inj hQ
          rw [if_pos ⟨ht, hx, hy⟩, if_pos ⟨rfl, rfl⟩]
        · rw [if_neg (fun h => hy h.2)] at hQ
          obtain ⟨rfl, rfl⟩ := Prod.mk.inj hQ
          rw [if_neg (fun h => hy h.2.2), if_neg (by simp)]
      · rw [if_neg (fun h => hx h.2)] at hP
        obtain ⟨rfl, rfl⟩ := Prod.mk.inj hP
        rw [if_neg (fun h => hx h.2.1), if_neg (by simp)]
    · rw [if_neg (fun h => ht h.1)] at hP
      obtain ⟨rfl, rfl⟩ := Prod.mk.inj hP
      rw [if_neg (fun h => ht h.1), if_neg (by simp)]
  rw [hres2] at hres
  have hp99 := pathRes_len hP
  have hq99 := pathRes_len hQ
  have HP := Lib.hid hP
  have HQ := Lib.hid hQ
  have HRES := Lib.hid hres
  clear hP hQ hres hres2
  cases bp
  · obtain ⟨rfl, rfl⟩ : xs = [] ∧ b = false := by have := HRES.out; rw [if_neg (by simp)] at this; obtain ⟨h1, h2⟩ := Prod.mk.inj this; exact ⟨h1.symm, h2.symm⟩
    go_enter Try.func19, Try.ntmps19
    go_wp2_with fail
    refine (implPathTo_any _ t x _ H.out P false HP.out).mono ?_
    rintro e w1 ⟨v1, rfl, ho1, b1⟩
    go_wp2_with fail
    refine (implPathTo_any _ t y _ (H.out.below rFn_stable b1) Q bq HQ.out).mono ?_
    rintro e w2 ⟨v2, rfl, ho2, b2⟩
    go_wp2_with fail
    go_ret2
    exact ⟨_, rfl, ⟨World.ownsRow_nil _ _ _ _, Under.nil _ _ _⟩, below_chain b1 b2⟩
  · cases bq
    · obtain ⟨rfl, rfl⟩ : xs = [] ∧ b = false := by have := HRES.out; rw [if_neg (by simp)] at this; obtain ⟨h1, h2⟩ := Prod.mk.inj this; exact ⟨h1.symm, h2.symm⟩
      go_enter Try.func19, Try.ntmps19
      go_wp2_with fail
      refine (implPathTo_any _ t x _ H.out P true HP.out).mono ?_
      rintro e w1 ⟨v1, rfl, ho1, b1⟩
      go_wp2_with fail
      refine (implPathTo_any _ t y _ (H.out.below rFn_stable b1) Q false HQ.out).mono ?_
      rintro e w2 ⟨v2, rfl, ho2, b2⟩
      go_wp2_with fail
      go_ret2
      exact ⟨_, rfl, ⟨World.ownsRow_nil _ _ _ _, Under.nil _ _ _⟩, below_chain b1 b2⟩
    · obtain ⟨rfl, rfl⟩ : xs = P.take (cpl P Q) ∧ b = true := by have := HRES.out; rw [if_pos ⟨rfl, rfl⟩] at this; obtain ⟨h1, h2⟩ := Prod.mk.inj this; exact ⟨h1.symm, h2.symm⟩
      go_enter Try.func19, Try.ntmps19
      go_wp2_with fail
      refine (implPathTo_any _ t x _ H.out P true HP.out).mono ?_
      rintro e w1 ⟨v1, rfl, ho1, b1⟩
      go_wp2_with fail
      refine (implPathTo_any _ t y _ (H.out.below rFn_stable b1) Q true HQ.out).mono ?_
      rintro e w2 ⟨v2, rfl, ho2, b2⟩
      have hP2 := ho1.below b2
      obtain ⟨pa, pc, hpv, hp1, hp2, hp3⟩ := hP2.row
      obtain ⟨qa, qc, hqv, hq1, hq2, hq3⟩ := ho2.row
      subst hpv hqv
      have hp0 := pathRes_pos HP.out
      have hq0 := pathRes_pos HQ.out
      obtain ⟨pb, po, hpb, rfl, ep⟩ := hp3.resolve_left (fun e => by rw [e] at hp0; simp at hp0)
      obtain ⟨qb, qo, hqb, rfl, eq⟩ := hq3.resolve_left (fun e => by rw [e] at hq0; simp at hq0)
      have HPO := Lib.hid hP2
      have HEP := Lib.hid ep
      have HEQQ := Lib.hid eq
      have b12 := below_chain b1 b2
      have s12 := b2.size
      unfold maxLen at hp2 hq2
      clear hP2 ho1 ho2 b2 ep eq
      go_wp2_with fail
      go_loopw [12] (fun i wr => ∃ k : Nat, k ≤ P.length ∧ k ≤ Q.length ∧ i = .int .i64 k ∧ Hid (∀ j, j < k → P.getD j 0 = Q.getD j 0) ∧ Below w2.heap.size w2 wr) (fun i _ => P.length - (intOf i).toNat)
      case atStart => exact ⟨0, Nat.zero_le _, Nat.zero_le _, rfl, Lib.hid (fun j h => absurd h (Nat.not_lt_zero _)), Below.refl _ _⟩
      case round =>
        obtain ⟨k, hkp, hkq, rfl, HE, hbw⟩ := hrel
        by_cases hlt : k < P.length ∧ k < Q.length
        · obtain ⟨hltp, hltq⟩ := hlt
          have fp := (hbw.cell (p := ⟨pb, po + k, none⟩) hpb).trans (HEP.out k hltp)
          have fq := (hbw.cell (p := ⟨qb, qo + k, none⟩) hqb).trans (HEQQ.out k hltq)
          obtain ⟨pv, hpv⟩ : ∃ z, P[k] = z := ⟨_, rfl⟩
          obtain ⟨qv, hqv⟩ : ∃ z, Q[k] = z := ⟨_, rfl⟩
          rw [hpv] at fp
          rw [hqv] at fq
          simp only [vI] at fp fq
          have hPk : P.getD k 0 = pv := by rw [← hpv, List.getD, List.getElem?_eq_getElem hltp]; rfl
          have hQk : Q.getD k 0 = qv := by rw [← hqv, List.getD, List.getElem?_eq_getElem hltq]; rfl
          have HPK := Lib.hid hPk
          have HQK := Lib.hid hQk
          have g0 : (0 : Int) ≤ (k : Int) := by omega
          have g1 : (k : Int) < (P.length : Int) := by omega
          have g2 : (k : Int) < (Q.length : Int) := by omega
          have gm : decide ((k : Int) < min (P.length : Int) (Q.length : Int)) = true := decide_eq_true (by omega)
          clear hpv hqv hPk hQk
          by_cases he : pv = qv
          · have dq : (pv == qv) = true := by simp [he]
            have HEQ := Lib.hid he
            clear he
            go_wp2_with fail
            go_quiet (fail)
            go_wp2_with fail
            go_roundw
            case rel =>
              refine ⟨k + 1, by omega, by omega, by go_num, Lib.hid (fun j hj => ?_), below_drewN hbw _⟩
              rcases Nat.lt_or_ge j k with h' | h'
              · exact HE.out j h'
              · obtain rfl : j = k := by omega
                rw [HPK.out, HQK.out]
                exact HEQ.out
            case measure => simp [intOf]; omega
          · have dq : (pv == qv) = false := by simp [he]
            have HC : Hid (cpl P Q = k) := Lib.hid (cpl_is P Q k hkp hkq HE.out (.inr (.inr (by rw [HPK.out, HQK.out]; exact he))))
            clear he
            go_wp2_with fail
            go_quiet (fail)
            go_wp2_with fail
            go_ret2
            have hbq := below_drewN hbw nq
            have hI : IntsO w.heap.size (wr.drewN nq).heap.size (wr.drewN nq) (.slice (some ⟨pb, po, none⟩) k pc) (P.take (cpl P Q)) := by
              rw [HC.out]
              have h1 := ownsRow_below HPO.out.1 hbq
              have h2 := ownsRow_take h1 hkp
              exact ⟨by rw [List.length_take, Nat.min_eq_left hkp, List.map_take]; exact h2, fun g hg => (h2.lt g hg).2⟩
            exact ⟨_, rfl, hI, below_chain b12 hbq⟩
        · have HC : Hid (cpl P Q = k) := Lib.hid (cpl_is P Q k hkp hkq HE.out (by omega))
          have gm : decide ((k : Int) < min (P.length : Int) (Q.length : Int)) = false := decide_eq_false (by omega)
          go_wp2_with fail
          go_quiet (fail)
          go_wp2_with fail
          go_ret2
          have hbq := below_drewN hbw nq
          have hI : IntsO w.heap.size (wr.drewN nq).heap.size (wr.drewN nq) (.slice (some ⟨pb, po, none⟩) k pc) (P.take (cpl P Q)) := by
            rw [HC.out]
            have h1 := ownsRow_below HPO.out.1 hbq
            have h2 := ownsRow_take h1 hkp
            exact ⟨by rw [List.length_take, Nat.min_eq_left hkp, List.map_take]; exact h2, fun g hg => (h2.lt g hg).2⟩
          exact ⟨_, rfl, hI, below_chain b12 hbq⟩

theorem shareEnd {w w6 wr wq : World} {o : Value} {P : List Int} {k : Nat} (hR : w6.ownsRow w.heap.size 3 1 (.slice (some ⟨w.heap.size, 0, none⟩) 0 0) 0 [])
    (hO : (k = 0 ∧ o = .slice (some ⟨w.heap.size, 0, none⟩) 0 0) ∨ wr.ownsRow w6.heap.size 3 1 o k ((P.take k).map vI)) (hb : Below w6.heap.size w6 wq) (hq : Below wr.heap.size wr wq) (hs : w.heap.size ≤ w6.heap.size) (hk : k ≤ P.length) : IntsO w.heap.size wq.heap.size wq o (P.take k) := by
  have hl : (P.take k).length = k := by rw [List.length_take]; omega
  rcases hO with ⟨rfl, rfl⟩ | hO
  · have h1 := ownsRow_below hR hb
    exact ⟨by simpa using h1, fun g hg => (h1.lt g hg).2⟩
  · have h1 := ownsRow_base_a' (ownsRow_below hO hq) hs
    exact ⟨by rw [hl]; exact h1, fun g hg => (h1.lt g hg).2⟩

set_option maxRecDepth 20000 in
set_option maxHeartbeats 4000000 in
theorem specSharedPath_any (v : Value) (t : List Fn) (x y : Int) (w : World) (h : RowR 3 rFn w v t) (xs : List Int) (b : Bool) (hres : shaRes t x y = (xs, b)) :
    Calls Try.prog 20 #[v, .int .i64 x, .int .i64 y] w fun e w' => ∃ v', e = .returned (.tuple #[v', .bool b]) ∧ IntsO w.heap.size w'.heap.size w' v' xs ∧ Below w.heap.size w w' := by
  obtain ⟨i0, hi, hz0, hz1, hz2⟩ := info_parts Try.info_int
  have H := Lib.hid h
  clear h
  have hrow0 : (w.alloc (.cells #[] 3 (0, 0))).ownsRow w.heap.size 3 1 (.slice (some ⟨w.heap.size, 0, none⟩) 0 0) 0 [] := World.ownsRow_made w #[] 0 (Nat.le_refl _) (Nat.zero_le _) rfl
  have HR0 := Lib.hid hrow0
  clear hrow0
  obtain ⟨cx, hcx⟩ : ∃ c, findI t x = c := ⟨_, rfl⟩
  obtain ⟨cy, hcy⟩ : ∃ c, findI t y = c := ⟨_, rfl⟩
  have HCX := Lib.hid hcx
  have HCY := Lib.hid hcy
  unfold shaRes at hres
  have hnil : ∀ (W : World), Below (w.alloc (.cells #[] 3 (0, 0))).heap.size (w.alloc (.cells #[] 3 (0, 0))) W → IntsO w.heap.size W.heap.size W (.slice (some ⟨w.heap.size, 0, none⟩) 0 0) [] ∧ Below w.heap.size w W := fun W hW => by
    have h1 := ownsRow_below HR0.out hW
    exact ⟨⟨h1, fun g hg => (h1.lt g hg).2⟩, below_chain (below_al (Below.refl _ _) _) hW⟩
  have HNIL := Lib.hid hnil
  clear hnil
  rcases ht : isTree t with _ | _
  · rw [ht, if_neg (by simp)] at hres
    obtain ⟨rfl, rfl⟩ := Prod.mk.inj hres
    have HT := Lib.hid ht
    clear hres ht hcx hcy
    go_enter Try.func20, Try.ntmps20
    go_wp2_with (first | (go_at_call 48; refine (l3Good_any _ t _ (H.out.below rFn_stable (below_al (Below.refl _ _) _))).mono ?_; rw [HT.out]; rintro e w1 ⟨rfl, b1⟩))
    go_ret2
    exact ⟨_, rfl, HNIL.out _ b1⟩
  · have HT := Lib.hid ht
    rcases hx : hasF t x with _ | _
    · have hcn : cx < 0 := by rw [← hcx]; exact findI_neg.2 hx
      rw [hx, if_neg (by simp)] at hres
      obtain ⟨rfl, rfl⟩ := Prod.mk.inj hres
      clear hres ht hcx hcy hx
      go_enter Try.func20, Try.ntmps20
      go_wp2_with (first | (go_at_call 48; refine (l3Good_any _ t _ (H.out.below rFn_stable (below_al (Below.refl _ _) _))).mono ?_; rw [HT.out]; rintro e w1 ⟨rfl, b1⟩) | (go_at_call 49; refine (l3Find_any _ t x _ (H.out.below rFn_stable (below_chain (below_al (Below.refl _ _) _) b1))).mono ?_; rw [HCX.out]; rintro e w2 ⟨rfl, b2⟩))
      go_ret2
      exact ⟨_, rfl, HNIL.out _ (below_chain b1 b2)⟩
    · have hcn : 0 ≤ cx := by rw [← hcx, findI_yes hx]; omega
      rcases hy : hasF t y with _ | _
      · have hcm : cy < 0 := by rw [← hcy]; exact findI_neg.2 hy
        rw [hy, if_neg (by simp)] at hres
        obtain ⟨rfl, rfl⟩ := Prod.mk.inj hres
        clear hres ht hcx hcy hx hy
        go_enter Try.func20, Try.ntmps20
        go_wp2_with (first | (go_at_call 48; refine (l3Good_any _ t _ (H.out.below rFn_stable (below_al (Below.refl _ _) _))).mono ?_; rw [HT.out]; rintro e w1 ⟨rfl, b1⟩) | (go_at_call 49; have hz := HCX2.out; refine (l3Find_any _ t y _ (H.out.below rFn_stable (below_chain (below_chain (below_al (Below.refl _ _) _) b1) b2))).mono ?_; rw [HCY.out]; rintro e w3 ⟨rfl, b3⟩) | (go_at_call 49; refine (l3Find_any _ t x _ (H.out.below rFn_stable (below_chain (below_al (Below.refl _ _) _) b1))).mono ?_; rw [HCX.out]; rintro e w2 ⟨rfl, b2⟩; have HCX2 := Lib.hid b2))
        go_ret2
        exact ⟨_, rfl, HNIL.out _ (below_chain (below_chain b1 b2) b3)⟩
      · have hcm : 0 ≤ cy := by rw [← hcy, findI_yes hy]; omega
        rw [ht, hx, hy, if_pos ⟨rfl, rfl, rfl⟩] at hres
        obtain ⟨rfl, rfl⟩ := Prod.mk.inj hres
        have hxx : Hid (x = 0 ∨ hasF t x = true) := Lib.hid (.inr hx)
        have hyy : Hid (y = 0 ∨ hasF t y = true) := Lib.hid (.inr hy)
        have hp99 := path_le ht (.inr hx)
        have hq99 := path_le ht (.inr hy)
        obtain ⟨P, hP⟩ : ∃ P, pathF t x = P := ⟨_, rfl⟩
        obtain ⟨Q, hQ⟩ : ∃ Q, pathF t y = Q := ⟨_, rfl⟩
        rw [hP] at hp99
        rw [hQ] at hq99
        have HP := Lib.hid hP
        have HQ := Lib.hid hQ
        simp only [hP, hQ]
        clear hres ht hcx hcy hx hy hP hQ
        go_enter Try.func20, Try.ntmps20
        go_wp2_with (first | (go_at_call 48; refine (l3Good_any _ t _ (H.out.below rFn_stable (below_al (Below.refl _ _) _))).mono ?_; rw [HT.out]; rintro e w1 ⟨rfl, b1⟩) | (go_at_call 49; have hz := HCX2.out; refine (l3Find_any _ t y _ (H.out.below rFn_stable (below_chain (below_chain (below_al (Below.refl _ _) _) b1) b2))).mono ?_; rw [HCY.out]; rintro e w3 ⟨rfl, b3⟩) | (go_at_call 49; refine (l3Find_any _ t x _ (H.out.below rFn_stable (below_chain (below_al (Below.refl _ _) _) b1))).mono ?_; rw [HCX.out]; rintro e w2 ⟨rfl, b2⟩; have HCX2 := Lib.hid b2) | (go_at_call 56; have hz := HP1.out; refine (l3Path_any _ t y _ (H.out.below rFn_stable (below_chain (below_chain (below_al (Below.refl _ _) _) b4) b5)) HT.out hyy.out).mono ?_; rw [HQ.out]; rintro e w6 ⟨vq, rfl, hq1, b6⟩; have HQ1 := Lib.hid hq1; clear hq1 hz) | (go_at_call 56; have b4 := below_chain (below_chain b1 b2) b3; refine (l3Path_any _ t x _ (H.out.below rFn_stable (below_chain (below_al (Below.refl _ _) _) b4)) HT.out hxx.out).mono ?_; rw [HP.out]; rintro e w4 ⟨vp, rfl, hp1, b5⟩; have HP1 := Lib.hid hp1; clear hp1))
        have hip := HP1.out.below b6
        have hiq := HQ1.out
        obtain ⟨pa, pc, hpv, hp1, hp2, hp3⟩ := hip.row
        obtain ⟨qa, qc, hqv, hq1, hq2, hq3⟩ := hiq.row
        subst hpv hqv
        have HP3 := Lib.hid hp3
        have HQ3 := Lib.hid hq3
        have HB6 := Lib.hid (below_chain (below_chain b4 b5) b6)
        have hrow6 := ownsRow_below (ownsRow_below (ownsRow_below HR0.out (below_chain (below_chain b1 b2) b3)) b5) b6
        have HR6 := Lib.hid hrow6
        have HW6 := Lib.hid (below_chain (below_al (Below.refl w.heap.size w) _) HB6.out)
        unfold maxLen at hp2 hq2
        clear hip hiq hp3 hq3 hrow6 b1 b2 b3 b4 b5 b6
        go_loopw [8, 11] (fun o i wr => ∃ k : Nat, k ≤ P.length ∧ k ≤ Q.length ∧ i = .int .i64 k ∧ Hid (∀ j, j < k → P.getD j 0 = Q.getD j 0) ∧ ((k = 0 ∧ o = .slice (some ⟨w.heap.size, 0, none⟩) 0 0) ∨ wr.ownsRow w6.heap.size 3 1 o k ((P.take k).map vI)) ∧ Below w6.heap.size w6 wr) (fun _ i _ => P.length - (intOf i).toNat)
        case atStart => exact ⟨0, Nat.zero_le _, Nat.zero_le _, rfl, Lib.hid (fun j h => absurd h (Nat.not_lt_zero _)), .inl ⟨rfl, rfl⟩, Below.refl _ _⟩
        case round =>
          obtain ⟨k, hkp, hkq, rfl, HE, hO, hbw⟩ := hrel
          have HOO := Lib.hid hO
          by_cases hlt : k < P.length ∧ k < Q.length
          · obtain ⟨hltp, hltq⟩ := hlt
            obtain ⟨pb, po, hpb, rfl, ep⟩ := HP3.out.resolve_left (fun e => by rw [e] at hltp; simp at hltp)
            obtain ⟨qb, qo, hqb, rfl, eq⟩ := HQ3.out.resolve_left (fun e => by rw [e] at hltq; simp at hltq)
            have fp := (hbw.cell (p := ⟨pb, po + k, none⟩) hpb).trans (ep k hltp)
            have fq := (hbw.cell (p := ⟨qb, qo + k, none⟩) hqb).trans (eq k hltq)
            obtain ⟨pv, hpv⟩ : ∃ z, P[k] = z := ⟨_, rfl⟩
            obtain ⟨qv, hqv⟩ : ∃ z, Q[k] = z := ⟨_, rfl⟩
            rw [hpv] at fp
            rw [hqv] at fq
            simp only [vI] at fp fq
            have hsu : (P.take (k + 1)).map vI = (P.take k).map vI ++ [.int .i64 pv] := by
              rw [List.take_add_one, List.getElem?_eq_getElem hltp, hpv]
              simp [vI]
            have hPk : P.getD k 0 = pv := by rw [← hpv, List.getD, List.getElem?_eq_getElem hltp]; rfl
            have hQk : Q.getD k 0 = qv := by rw [← hqv, List.getD, List.getElem?_eq_getElem hltq]; rfl
            have HPK := Lib.hid hPk
            have HQK := Lib.hid hQk
            have HSU := Lib.hid hsu
            have g0 : (0 : Int) ≤ (k : Int) := by omega
            have g1 : (k : Int) < (P.length : Int) := by omega
            have g2 : (k : Int) < (Q.length : Int) := by omega
            clear ep eq hpv hqv hPk hQk hsu hO
            by_cases he : pv = qv
            · have dq : (pv == qv) = true := by simp [he]
              have HEQ := Lib.hid he
              have HE2 : Hid (∀ j, j < k + 1 → P.getD j 0 = Q.getD j 0) := Lib.hid (fun j hj => by
                rcases Nat.lt_or_ge j k with h' | h'
                · exact HE.out j h'
                · obtain rfl : j = k := by omega
                  rw [HPK.out, HQK.out]
                  exact HEQ.out)
              clear he
              rcases HOO.out with ⟨hk0, rfl⟩ | hO
              · have HK0 := Lib.hid hk0
                clear hk0
                go_wp2_with fail
                go_quiet (fail)
                have hbq := below_drewN hbw nq
                have hsz := hbw.size
                have fpq : (wr.drewN nq).cell? ⟨pb, po + k, none⟩ = some (.int .i64 pv) := fp
                go_wp2_with (first | (at_builtin; refine wpList_append_grows _ rfl _ _ 31 rfl 3 i0 (.int .i64 0) 1 8 Try.underlying31 hi hz0 hz1 hz2 rfl (by decide) (some ⟨w.heap.size, 0, none⟩) 0 0 [] rfl (fun h => by cases h) rfl (fun b hb j u hj => by simp at hj) ⟨(wr.drewN nq).heap.size, 0, none⟩ 1 1 [.int .i64 pv] rfl rfl (cell_one_new' _ _ _ (by simp)) (by simp [Value.oneCell']) (by omega) (by unfold maxLen; omega) (by omega) ?_; intro v' w7 hown' hgrow))
                have HOWN := Lib.hid (ownsRow_base_a' hown' (base' := w6.heap.size) (by simp; omega))
                have HB := Lib.hid ((below_al hbq _).grown hgrow (by simp; omega) (fun k hk => by cases hk))
                clear hown' hgrow
                go_wp2_with fail
                go_roundw
                case rel => exact ⟨k + 1, by omega, by omega, by go_num, HE2, .inr (by have h1 := HOWN.out; rw [HSU.out, HK0.out]; simpa using h1), HB.out⟩
                case measure => simp [intOf]; omega
              · go_wp2_with fail
                go_quiet (fail)
                have hbq := below_drewN hbw nq
                have hsz := hbw.size
                have fpq : (wr.drewN nq).cell? ⟨pb, po + k, none⟩ = some (.int .i64 pv) := fp
                have hOq : (wr.drewN nq).ownsRow w6.heap.size 3 1 _ k ((P.take k).map vI) := ownsRow_below hO (below_drewN (Below.refl _ _) nq)
                clear hO
                go_wp2_with (first | (at_builtin; refine wpList_append_own _ rfl _ _ 31 rfl w6.heap.size 3 i0 (.int .i64 0) 1 8 Try.underlying31 hi hz0 hz1 hz2 rfl (by decide) _ _ _ rfl (hOq.alloc _) ⟨(wr.drewN nq).heap.size, 0, none⟩ 1 1 [.int .i64 pv] rfl rfl (cell_one_new' _ _ _ (by simp)) (by simp [Value.oneCell']) (by unfold maxLen; omega) (by omega) (by simp; omega) ?_; intro v' w7 hown' hgrow _))
                have HOWN := Lib.hid hown'
                have HB := Lib.hid (below_app hbq (Nat.le_refl _) hOq hgrow)
                clear hown' hgrow hOq
                go_wp2_with fail
                go_roundw
                case rel => exact ⟨k + 1, by omega, by omega, by go_num, HE2, .inr (by rw [HSU.out]; exact HOWN.out), HB.out⟩
                case measure => simp [intOf]; omega
            · have dq : (pv == qv) = false := by simp [he]
              have HC : Hid (cpl P Q = k) := Lib.hid (cpl_is P Q k hkp hkq HE.out (.inr (.inr (by rw [HPK.out, HQK.out]; exact he))))
              clear he
              go_wp2_with fail
              go_quiet (fail)
              go_wp2_with fail
              go_ret2
              have hbq := below_drewN hbw nq
              have hsh := shareEnd HR6.out HOO.out hbq (below_drewN (Below.refl wr.heap.size wr) nq) HW6.out.size hkp
              exact ⟨_, rfl, by rw [HC.out]; exact hsh, below_chain HW6.out hbq⟩
          · have HC : Hid (cpl P Q = k) := Lib.hid (cpl_is P Q k hkp hkq HE.out (by omega))
            have hLT := Lib.hid hlt
            clear hO
            by_cases hkp2 : k < P.length
            · have hkq2 : ¬ k < Q.length := fun h => hlt ⟨hkp2, h⟩
              have g1 : (k : Int) < (P.length : Int) := by omega
              have g2 : decide ((k : Int) < (Q.length : Int)) = false := decide_eq_false (by omega)
              have g3 : decide (k < Q.length) = false := decide_eq_false hkq2
              clear hlt
              go_wp2_with fail
              go_quiet (fail)
              go_wp2_with fail
              go_ret2
              have hbq := below_drewN hbw nq
              have hsh := shareEnd HR6.out HOO.out hbq (below_drewN (Below.refl wr.heap.size wr) nq) HW6.out.size hkp
              exact ⟨_, rfl, by rw [HC.out]; exact hsh, below_chain HW6.out hbq⟩
            · have g2 : decide ((k : Int) < (P.length : Int)) = false := decide_eq_false (by omega)
              have g3 : decide (k < P.length) = false := decide_eq_false hkp2
              clear hlt
              go_wp2_with fail
              go_quiet (fail)
              go_wp2_with fail
              go_ret2
              have hbq := below_drewN hbw nq
              have hsh := shareEnd HR6.out HOO.out hbq (below_drewN (Below.refl wr.heap.size wr) nq) HW6.out.size hkp
              exact ⟨_, rfl, by rw [HC.out]; exact hsh, below_chain HW6.out hbq⟩
end Go.Proofs.Ytpbjddiopfkgbaa
