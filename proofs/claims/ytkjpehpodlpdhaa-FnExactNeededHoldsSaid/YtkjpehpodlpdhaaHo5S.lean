/- Holds, the model's: HeldOn, NeededHolds. -/
import Derived.Test.YtkjpehpodlpdhaaHo3S
import Derived.Test.YtkjpehpodlpdhaaFo5P
import Derived.Test.YtkjpehpodlpdhaaAreRec
import Derived.Test.YtkjpehpodlpdhaaRecs
import Derived.Lib.QuietBelow
import Derived.BigQuiet
import Derived.WalkSmall
namespace Go.Proofs.Ytkjpehpodlpdhaa
set_option linter.unusedVariables false
open Go.RowKit Go.Sort

set_option maxRecDepth 20000 in
set_option maxHeartbeats 4000000 in
theorem specHeldOn_any (v v1 : Value) (t : List Ho) (rs : List Rec) (d : Int) (w : World) (h : RowR 6 rHo w v t) (h1 : RowR 4 rRec w v1 rs) (xs : List Int) (b : Bool) (hres : heRes t rs d = (xs, b)) :
    Calls Try.prog 36 #[v, v1, .int .i64 d] w fun e w' => ∃ v', e = .returned (.tuple #[v', .bool b]) ∧ IntsO w.heap.size w'.heap.size w' v' xs ∧ Below w.heap.size w w' := by
  obtain ⟨i0, hi, hz0, hz1, hz2⟩ := info_parts Try.info_intI
  have H := Lib.hid h
  have H1 := Lib.hid h1
  obtain ⟨a1, c1, rfl, hl1, hm1, r1⟩ := h1.recs
  have R1 := Lib.hid r1
  unfold maxLen at hm1
  obtain ⟨bg, hg⟩ : ∃ b, areHo t = b := ⟨_, rfl⟩
  obtain ⟨br, hrr⟩ : ∃ b, areRecs rs = b := ⟨_, rfl⟩
  obtain ⟨bd, hd⟩ : ∃ b, decide (0 ≤ d ∧ d ≤ 20000) = b := ⟨_, rfl⟩
  have HG := Lib.hid hg
  have HR := Lib.hid hrr
  have HD := Lib.hid hd
  have HI0 := Lib.hid (ints_newK w)
  have b0 := below_al (Below.refl w.heap.size w) (.cells #[] 3 (0, 0))
  have NO := Lib.hid (fun hn => heRes_no hres hn)
  have YES := Lib.hid (fun hn => heRes_yes hres hn)
  clear h h1 r1 hg hrr hd hres
  cases bg
  · skip
    obtain ⟨rfl, rfl⟩ := NO.out (fun hc => by have := askS_iff.1 hc; rw [HG.out] at this; exact absurd this.1 (by simp))
    go_enter Try.func36, Try.ntmps36
    go_wp2_with (first | (go_at_call 75; refine (l9Good_any _ t _ (H.out.below rHo_stable b0)).mono ?_; rw [HG.out]; rintro e w1 ⟨rfl, b1⟩; have HI1 := Lib.hid ((HI0.out.below b1).wide (Nat.le_refl _) b1.size); replace b1 := below_chain b0 b1; clear HI0 b0))
    go_ret2
    exact ⟨_, rfl, HI1.out, b1⟩
  · cases br
    · skip
      obtain ⟨rfl, rfl⟩ := NO.out (fun hc => by have := askS_iff.1 hc; rw [HR.out] at this; exact absurd this.2.1 (by simp))
      go_enter Try.func36, Try.ntmps36
      go_wp2_with (first | (go_at_call 75; refine (l9Good_any _ t _ (H.out.below rHo_stable b0)).mono ?_; rw [HG.out]; rintro e w1 ⟨rfl, b1⟩; have HI1 := Lib.hid ((HI0.out.below b1).wide (Nat.le_refl _) b1.size); replace b1 := below_chain b0 b1; clear HI0 b0) | (go_at_call 98; refine (l2Records_any _ rs _ (H1.out.below rRec_stable b1)).mono ?_; rw [HR.out]; rintro e w2 ⟨rfl, b2⟩; have HI2 := Lib.hid ((HI1.out.below b2).wide (Nat.le_refl _) b2.size); replace b2 := below_chain b1 b2; clear HI1 b1))
      go_ret2
      exact ⟨_, rfl, HI2.out, b2⟩
    · cases bd
      · skip
        obtain ⟨rfl, rfl⟩ := NO.out (fun hc => by have := askS_iff.1 hc; exact of_decide_eq_false HD.out this.2.2)
        go_enter Try.func36, Try.ntmps36
        go_wp2_with (first | (go_at_call 75; refine (l9Good_any _ t _ (H.out.below rHo_stable b0)).mono ?_; rw [HG.out]; rintro e w1 ⟨rfl, b1⟩; have HI1 := Lib.hid ((HI0.out.below b1).wide (Nat.le_refl _) b1.size); replace b1 := below_chain b0 b1; clear HI0 b0) | (go_at_call 98; refine (l2Records_any _ rs _ (H1.out.below rRec_stable b1)).mono ?_; rw [HR.out]; rintro e w2 ⟨rfl, b2⟩; have HI2 := Lib.hid ((HI1.out.below b2).wide (Nat.le_refl _) b2.size); replace b2 := below_chain b1 b2; clear HI1 b1) | (go_at_call 99; refine (l2Day_any _ _).mono ?_; rw [HD.out]; rintro e w3 ⟨rfl, h3⟩; subst w3))
        go_ret2
        exact ⟨_, rfl, HI2.out, b2⟩
      · obtain ⟨rfl, rfl⟩ := YES.out (askS_iff.2 ⟨HG.out, HR.out, of_decide_eq_true HD.out⟩)
        have hten := recs_ten HR.out
        have hn8 := ho_len HG.out
        have HDD := Lib.hid (of_decide_eq_true HD.out)
        clear NO YES
        go_enter Try.func36, Try.ntmps36
        go_wp2_with (first | (go_at_call 75; refine (l9Good_any _ t _ (H.out.below rHo_stable b0)).mono ?_; rw [HG.out]; rintro e w1 ⟨rfl, b1⟩; have HI1 := Lib.hid ((HI0.out.below b1).wide (Nat.le_refl _) b1.size); replace b1 := below_chain b0 b1; clear HI0 b0) | (go_at_call 98; refine (l2Records_any _ rs _ (H1.out.below rRec_stable b1)).mono ?_; rw [HR.out]; rintro e w2 ⟨rfl, b2⟩; have HI2 := Lib.hid ((HI1.out.below b2).wide (Nat.le_refl _) b2.size); replace b2 := below_chain b1 b2; clear HI1 b1) | (go_at_call 99; refine (l2Day_any _ _).mono ?_; rw [HD.out]; rintro e w3 ⟨rfl, h3⟩; subst w3))
        go_loopw [8, 9] (fun o i wr => ∃ k : Nat, k ≤ rs.length ∧ i = .int .i64 k ∧ wr.ownsRow w.heap.size 3 1 o (heF t d (rs.take k)).length ((heF t d (rs.take k)).map vI) ∧ Below w.heap.size w wr) (fun _ i _ => rs.length - (intOf i).toNat)
        case atStart => exact ⟨0, Nat.zero_le _, rfl, by simpa [heF] using HI2.out.1, b2⟩
        case round =>
          clear b2 HI2
          obtain ⟨k, hk, rfl, hO, hb⟩ := hrel
          have hsz := hb.size
          by_cases hlt : k < rs.length
          · skip
            obtain ⟨bR, oR, hbR, rfl, e1⟩ := R1.out.resolve_left (fun e => by rw [e] at hlt; simp at hlt)
            obtain ⟨sv, q0, q1, q2, q3, hrow, hok⟩ := e1 k hlt
            obtain ⟨r, hx⟩ : ∃ s, rs.getD k recD = s := ⟨_, rfl⟩
            rw [hx] at q0 q1 q2 hrow hok
            have f0 := cell_kept q0 hb
            have f1 := cell_kept q1 hb
            have f2 := cell_kept q2 hb
            have f3 := cell_kept q3 hb
            have HV := Lib.hid (show ∀ W, Below w.heap.size w W → RecV W (.agg #[.int .i64 r.id, .int .i64 r.series, .int .i64 r.made, sv]) r from fun W hb => ⟨_, rfl, hrow.below rEv_stable hb, hok⟩)
            have hr0 := hrow
            obtain ⟨sa, sc, rfl, _⟩ := hr0
            have g0 : (0 : Int) ≤ (k : Int) := by omega
            have g1 : (k : Int) < (rs.length : Int) := by omega
            obtain ⟨N, hN⟩ : ∃ N : Nat, (onHo t r d).length = N := ⟨_, rfl⟩
            have hsucc := heF_succ (t := t) (d := d) hlt
            have hlen := heF_len t d (rs.take k)
            rw [List.length_take] at hlen
            rw [hx, ← onHo_held, hN] at hsucc
            obtain ⟨Pp, hP⟩ : ∃ P, heF t d (rs.take k) = P := ⟨_, rfl⟩
            rw [hP] at hO hlen hsucc
            have HSU := Lib.hid hsucc
            have HON := Lib.hid hN
            have HO := Lib.hid hO
            clear q0 q1 q2 q3 hrow hx e1 hsucc hP hok hN hO
            by_cases hA : 0 < N
            · have hA2 : (0 : Int) < (N : Int) := by omega
              have HSU2 := Lib.hid (HSU.out.trans (if_pos (decide_eq_true hA)))
              go_wp2_with (first | (go_at_call 83; refine (l9On_any _ _ t r d _ (H.out.below rHo_stable hb) (HV.out _ hb) (by omega) HDD.out.2).mono ?_; rintro e w5 ⟨v', rfl, hi5, b5⟩; obtain ⟨ao, co, rfl, _⟩ := hi5.row; rw [HON.out]; have HO5 := Lib.hid (ownsRow_below HO.out b5); have c0 := cell_kept f0 b5; have c0' : ∀ o, (w5.alloc o).cell? ⟨bR, oR + k * 4, none⟩ = some (.int .i64 r.id) := (fun o => below_al_cell c0 o); replace b5 := hb.trans (b5.mono hb.size); have s5 := b5.size; clear hi5) | (at_builtin; refine wpList_append_own _ rfl _ _ 33 rfl w.heap.size 3 i0 (.int .i64 0) 1 8 Try.underlying33 hi hz0 hz1 hz2 rfl (by decide) _ _ _ rfl (HO5.out.alloc _) ⟨w5.heap.size, 0, none⟩ 1 1 [.int .i64 r.id] rfl rfl (cell_oneI _ _ _ (by simp)) (by simp [Value.oneCell']) (by unfold maxLen; omega) (by omega) (by simp; omega) ?_; intro v' w7 hown' hgrow _))
              have HOWN := Lib.hid hown'
              have HB7 := Lib.hid (below_app b5 (Nat.le_refl _) HO5.out hgrow)
              clear hown' hgrow
              go_wp2_with fail
              go_roundw
              case rel => exact ⟨k + 1, by omega, by go_num, (by rw [HSU2.out]; simpa [vI] using HOWN.out), HB7.out⟩
              case measure => simp [intOf]; omega
            · have dA : decide ((0 : Int) < (N : Int)) = false := decide_eq_false (by omega)
              have dA2 : decide (0 < N) = false := decide_eq_false hA
              have HSU2 := Lib.hid (HSU.out.trans (if_neg (by rw [dA2]; simp)))
              go_wp2_with (first | (go_at_call 83; refine (l9On_any _ _ t r d _ (H.out.below rHo_stable hb) (HV.out _ hb) (by omega) HDD.out.2).mono ?_; rintro e w5 ⟨v', rfl, hi5, b5⟩; obtain ⟨ao, co, rfl, _⟩ := hi5.row; rw [HON.out]; have HO5 := Lib.hid (ownsRow_below HO.out b5); have c0 := cell_kept f0 b5; have c0' : ∀ o, (w5.alloc o).cell? ⟨bR, oR + k * 4, none⟩ = some (.int .i64 r.id) := (fun o => below_al_cell c0 o); replace b5 := hb.trans (b5.mono hb.size); have s5 := b5.size; clear hi5))
              go_roundw
              case rel => exact ⟨k + 1, by omega, by go_num, (by rw [HSU2.out]; exact HO5.out), b5⟩
              case measure => simp [intOf]; omega
          · obtain rfl : k = rs.length := by omega
            rw [List.take_length] at hO
            have HO := Lib.hid hO
            clear hO
            go_wp2_with fail
            go_ret2
            exact ⟨_, rfl, ints_rowK HO.out rfl, hb⟩

theorem ownsRow_lower {lo lo' e size n : Nat} {w : World} {v : Value} {cs : List Value} (h : w.ownsRow lo e size v n cs) (hl : lo' ≤ lo) : w.ownsRow lo' e size v n cs :=
  ⟨h.1, h.2.imp id fun ⟨g, cap, cur, e, hg, r⟩ => ⟨g, cap, cur, e, Nat.le_trans hl hg, r⟩⟩
/-- A row of the call's own that is not nil. -/
theorem ownsRow_at {lo n : Nat} {w : World} {v : Value} {cs : List Value} (h : w.ownsRow lo 3 1 v n cs) (hv : 0 < n ∨ ∃ g c, v = .slice (some ⟨g, 0, none⟩) n c) : ∃ g c, v = .slice (some ⟨g, 0, none⟩) n c ∧ g < w.heap.size := by
  rcases h.2 with ⟨rfl, h0⟩ | ⟨g, cap, cur, rfl, _, hh, _⟩
  · rcases hv with h | ⟨g, c, e⟩
    · omega
    · cases e
  · exact ⟨g, cap, rfl, (Array.getElem?_eq_some_iff.1 hh).1⟩
theorem rising_sameH : ∀ (l m : List Int), l.Pairwise (· < ·) → m.Pairwise (· < ·) → (∀ x, x ∈ l ↔ x ∈ m) → l = m
  | [], [], _, _, _ => rfl
  | [], b :: m, _, _, h => absurd ((h b).2 (by simp)) (by simp)
  | a :: l, [], _, _, h => absurd ((h a).1 (by simp)) (by simp)
  | a :: l, b :: m, hl, hm, h => by
    rw [List.pairwise_cons] at hl hm
    have hab : a = b := by
      rcases List.mem_cons.1 ((h a).1 (by simp)) with e | e
      · exact e
      · rcases List.mem_cons.1 ((h b).2 (by simp)) with e2 | e2
        · exact e2.symm
        · have := hm.1 a e
          have := hl.1 b e2
          omega
    subst hab
    rw [rising_sameH l m hl.2 hm.2 fun x => ?_]
    constructor
    · intro hx
      rcases List.mem_cons.1 ((h x).1 (List.mem_cons_of_mem _ hx)) with e | e
      · subst e; exact absurd (hl.1 x hx) (by omega)
      · exact e
    · intro hx
      rcases List.mem_cons.1 ((h x).2 (List.mem_cons_of_mem _ hx)) with e | e
      · subst e; exact absurd (hm.1 x hx) (by omega)
      · exact e
/-- What the model has found over the first k records. -/
structure NdOK (t : List Ho) (rs : List Rec) (d : Int) (k : Nat) (out : List Int) : Prop where
  up : out.Pairwise (· < ·)
  len : out.length ≤ k
  mem : ∀ x, x ∈ out ↔ ∃ j, j < k ∧ onHo t (rs.getD j recD) d = [x]
theorem NdOK.start (t : List Ho) (rs : List Rec) (d : Int) : NdOK t rs d 0 [] := ⟨List.Pairwise.nil, Nat.le_refl _, fun x => by simp⟩
theorem NdOK.skip {t : List Ho} {rs : List Rec} {d : Int} {k : Nat} {out : List Int} (h : NdOK t rs d k out) (hx : ∀ x, onHo t (rs.getD k recD) d = [x] → x ∈ out) : NdOK t rs d (k + 1) out := by
  refine ⟨h.up, Nat.le_succ_of_le h.len, fun x => ⟨fun hm => ?_, ?_⟩⟩
  · obtain ⟨j, hj, e⟩ := (h.mem x).1 hm
    exact ⟨j, by omega, e⟩
  · rintro ⟨j, hj, e⟩
    rcases Nat.lt_or_ge j k with h1 | h1
    · exact (h.mem x).2 ⟨j, h1, e⟩
    · obtain rfl : j = k := by omega
      exact hx x e
theorem NdOK.put {t : List Ho} {rs : List Rec} {d : Int} {k : Nat} {out : List Int} {y : Int} (h : NdOK t rs d k out) (hy : onHo t (rs.getD k recD) d = [y]) (hn : y ∉ out) : NdOK t rs d (k + 1) (putI out y) := by
  refine ⟨putI_up h.up y, by rw [putI_len hn h.up]; have := h.len; omega, fun x => ?_⟩
  rw [putI_mem]
  constructor
  · rintro (rfl | hm)
    · exact ⟨k, by omega, hy⟩
    · obtain ⟨j, hj, e⟩ := (h.mem x).1 hm
      exact ⟨j, by omega, e⟩
  · rintro ⟨j, hj, e⟩
    rcases Nat.lt_or_ge j k with h1 | h1
    · exact .inr ((h.mem x).2 ⟨j, h1, e⟩)
    · obtain rfl : j = k := by omega
      rw [hy] at e
      injection e with e
      exact .inl e.symm
theorem NdOK.done {t : List Ho} {rs : List Rec} {d : Int} {out : List Int} (ht : areHo t = true) (h : NdOK t rs d rs.length out) : out = needF t rs d := by
  refine rising_sameH _ _ h.up (need_rising ht rs d) fun x => ?_
  rw [h.mem, need_mem]
  constructor
  · rintro ⟨j, hj, e⟩
    exact ⟨rs[j], List.getElem_mem hj, by rwa [getDr_lt hj] at e⟩
  · rintro ⟨r, hr, e⟩
    obtain ⟨i, hi, rfl⟩ := List.getElem_of_mem hr
    exact ⟨i, hi, by rwa [getDr_lt hi]⟩

set_option maxRecDepth 20000 in
set_option maxHeartbeats 4000000 in
theorem specNeededHolds_any (v v1 : Value) (t : List Ho) (rs : List Rec) (d : Int) (w : World) (h : RowR 6 rHo w v t) (h1 : RowR 4 rRec w v1 rs) (xs : List Int) (b : Bool) (hres : neRes t rs d = (xs, b)) :
    Calls Try.prog 50 #[v, v1, .int .i64 d] w fun e w' => ∃ v', e = .returned (.tuple #[v', .bool b]) ∧ IntsO w.heap.size w'.heap.size w' v' xs ∧ Below w.heap.size w w' := by
  obtain ⟨i0, hi, hz0, hz1, hz2⟩ := info_parts Try.info_intI
  have H := Lib.hid h
  have H1 := Lib.hid h1
  obtain ⟨a1, c1, rfl, hl1, hm1, r1⟩ := h1.recs
  have R1 := Lib.hid r1
  unfold maxLen at hm1
  obtain ⟨bg, hg⟩ : ∃ b, areHo t = b := ⟨_, rfl⟩
  obtain ⟨br, hrr⟩ : ∃ b, areRecs rs = b := ⟨_, rfl⟩
  obtain ⟨bd, hd⟩ : ∃ b, decide (0 ≤ d ∧ d ≤ 20000) = b := ⟨_, rfl⟩
  have HG := Lib.hid hg
  have HR := Lib.hid hrr
  have HD := Lib.hid hd
  have HI0 := Lib.hid (ints_newK w)
  have b0 := below_al (Below.refl w.heap.size w) (.cells #[] 3 (0, 0))
  have NO := Lib.hid (fun hn => neRes_no hres hn)
  have YES := Lib.hid (fun hn => neRes_yes hres hn)
  clear h h1 r1 hg hrr hd hres
  cases bg
  · skip
    obtain ⟨rfl, rfl⟩ := NO.out (fun hc => by have := askS_iff.1 hc; rw [HG.out] at this; exact absurd this.1 (by simp))
    go_enter Try.func50, Try.ntmps50
    go_wp2_with (first | (go_at_call 75; refine (l9Good_any _ t _ (H.out.below rHo_stable b0)).mono ?_; rw [HG.out]; rintro e w1 ⟨rfl, b1⟩; have HI1 := Lib.hid ((HI0.out.below b1).wide (Nat.le_refl _) b1.size); replace b1 := below_chain b0 b1; clear HI0 b0))
    go_ret2
    exact ⟨_, rfl, HI1.out, b1⟩
  · cases br
    · skip
      obtain ⟨rfl, rfl⟩ := NO.out (fun hc => by have := askS_iff.1 hc; rw [HR.out] at this; exact absurd this.2.1 (by simp))
      go_enter Try.func50, Try.ntmps50
      go_wp2_with (first | (go_at_call 75; refine (l9Good_any _ t _ (H.out.below rHo_stable b0)).mono ?_; rw [HG.out]; rintro e w1 ⟨rfl, b1⟩; have HI1 := Lib.hid ((HI0.out.below b1).wide (Nat.le_refl _) b1.size); replace b1 := below_chain b0 b1; clear HI0 b0) | (go_at_call 98; refine (l2Records_any _ rs _ (H1.out.below rRec_stable b1)).mono ?_; rw [HR.out]; rintro e w2 ⟨rfl, b2⟩; have HI2 := Lib.hid ((HI1.out.below b2).wide (Nat.le_refl _) b2.size); replace b2 := below_chain b1 b2; clear HI1 b1))
      go_ret2
      exact ⟨_, rfl, HI2.out, b2⟩
    · cases bd
      · skip
        obtain ⟨rfl, rfl⟩ := NO.out (fun hc => by have := askS_iff.1 hc; exact of_decide_eq_false HD.out this.2.2)
        go_enter Try.func50, Try.ntmps50
        go_wp2_with (first | (go_at_call 75; refine (l9Good_any _ t _ (H.out.below rHo_stable b0)).mono ?_; rw [HG.out]; rintro e w1 ⟨rfl, b1⟩; have HI1 := Lib.hid ((HI0.out.below b1).wide (Nat.le_refl _) b1.size); replace b1 := below_chain b0 b1; clear HI0 b0) | (go_at_call 98; refine (l2Records_any _ rs _ (H1.out.below rRec_stable b1)).mono ?_; rw [HR.out]; rintro e w2 ⟨rfl, b2⟩; have HI2 := Lib.hid ((HI1.out.below b2).wide (Nat.le_refl _) b2.size); replace b2 := below_chain b1 b2; clear HI1 b1) | (go_at_call 99; refine (l2Day_any _ _).mono ?_; rw [HD.out]; rintro e w3 ⟨rfl, h3⟩; subst w3))
        go_ret2
        exact ⟨_, rfl, HI2.out, b2⟩
      · obtain ⟨rfl, rfl⟩ := YES.out (askS_iff.2 ⟨HG.out, HR.out, of_decide_eq_true HD.out⟩)
        have hten := recs_ten HR.out
        have hn8 := ho_len HG.out
        have HDD := Lib.hid (of_decide_eq_true HD.out)
        clear NO YES
        go_enter Try.func50, Try.ntmps50
        go_wp2_with (first | (go_at_call 75; refine (l9Good_any _ t _ (H.out.below rHo_stable b0)).mono ?_; rw [HG.out]; rintro e w1 ⟨rfl, b1⟩; have HI1 := Lib.hid ((HI0.out.below b1).wide (Nat.le_refl _) b1.size); replace b1 := below_chain b0 b1; clear HI0 b0) | (go_at_call 98; refine (l2Records_any _ rs _ (H1.out.below rRec_stable b1)).mono ?_; rw [HR.out]; rintro e w2 ⟨rfl, b2⟩; have HI2 := Lib.hid ((HI1.out.below b2).wide (Nat.le_refl _) b2.size); replace b2 := below_chain b1 b2; clear HI1 b1) | (go_at_call 99; refine (l2Day_any _ _).mono ?_; rw [HD.out]; rintro e w3 ⟨rfl, h3⟩; subst w3))
        go_loopw [8, 9] (fun o i wr => ∃ (k : Nat) (out : List Int), k ≤ rs.length ∧ i = .int .i64 k ∧ wr.ownsRow w.heap.size 3 1 o out.length (out.map vI) ∧ Hid (0 < out.length ∨ ∃ g c, o = .slice (some ⟨g, 0, none⟩) out.length c) ∧ Hid (NdOK t rs d k out) ∧ Below w.heap.size w wr) (fun _ i _ => rs.length - (intOf i).toNat)
        case atStart => exact ⟨0, [], Nat.zero_le _, rfl, by simpa using HI2.out.1, Lib.hid (.inr ⟨_, _, rfl⟩), Lib.hid (NdOK.start t rs d), b2⟩
        case round =>
          clear b2 HI2
          obtain ⟨k, out, hk, rfl, hO, HAT, HND, hb⟩ := hrel
          have hsz := hb.size
          by_cases hlt : k < rs.length
          · skip
            obtain ⟨bR, oR, hbR, rfl, e1⟩ := R1.out.resolve_left (fun e => by rw [e] at hlt; simp at hlt)
            obtain ⟨sv, q0, q1, q2, q3, hrow, hok⟩ := e1 k hlt
            obtain ⟨r, hx⟩ : ∃ s, rs.getD k recD = s := ⟨_, rfl⟩
            rw [hx] at q0 q1 q2 hrow hok
            have f0 := cell_kept q0 hb
            have f1 := cell_kept q1 hb
            have f2 := cell_kept q2 hb
            have f3 := cell_kept q3 hb
            have HV := Lib.hid (show ∀ W, Below w.heap.size w W → RecV W (.agg #[.int .i64 r.id, .int .i64 r.series, .int .i64 r.made, sv]) r from fun W hb => ⟨_, rfl, hrow.below rEv_stable hb, hok⟩)
            have hr0 := hrow
            obtain ⟨sa, sc, rfl, _⟩ := hr0
            have g0 : (0 : Int) ≤ (k : Int) := by omega
            have g1 : (k : Int) < (rs.length : Int) := by omega
            have HO := Lib.hid hO
            have HX := Lib.hid hx
            clear q0 q1 q2 q3 hrow hx e1 hok hO
            by_cases hone : ∃ y, onHo t r d = [y]
            · obtain ⟨y, hy⟩ := hone
              have HONE := Lib.hid hy
              obtain ⟨bh, hbh⟩ : ∃ b, decide (y ∈ out) = b := ⟨_, rfl⟩
              have HHX := Lib.hid hbh
              clear hy hbh
              cases bh
              · have HND2 := Lib.hid (HND.out.put (by rw [HX.out]; exact HONE.out) (of_decide_eq_false HHX.out))
                go_wp2_with (first | (go_at_call 83; refine (l9On_any _ _ t r d _ (H.out.below rHo_stable hb) (HV.out _ hb) (by omega) HDD.out.2).mono ?_; rintro e w5 ⟨v', rfl, hi5, b5⟩; obtain ⟨ao, co, rfl, _, _, hcell⟩ := hi5.row; rw [HONE.out] at hcell ⊢; have y0 : ∃ g o, ao = some ⟨g, o, none⟩ ∧ w5.cell? ⟨g, o, none⟩ = some (.int .i64 y) := (by rcases hcell with h | ⟨g, o, _, rfl, hc⟩; cases h; exact ⟨g, o, rfl, by simpa [vI] using hc 0 (by simp)⟩); obtain ⟨gy, oy, rfl, y0⟩ := y0; clear hcell; have HO5 := Lib.hid (ownsRow_below HO.out b5); replace b5 := hb.trans (b5.mono hb.size); have s5 := b5.size; clear hi5) | (go_at_call 109; refine (l1Has_any _ out y _ (ints_rowK (lo := w.heap.size) HO5.out rfl).row).mono ?_; rw [HHX.out]; rintro e w6 ⟨rfl, b6⟩; have y1 := cell_kept y0 b6; have HO6 := Lib.hid (ownsRow_below HO5.out b6); replace b6 := b5.trans (b6.mono b5.size)) | (go_at_call 110; refine (l1PutA_any _ out y _ (ints_rowK (lo := w.heap.size) HO6.out rfl).row HND.out.up (.inr (by obtain ⟨g, c, e, hl⟩ := ownsRow_at HO6.out HAT.out; exact ⟨g, 0, c, e, hl⟩)) (by have := HND.out.len; omega) (of_decide_eq_false HHX.out)).mono ?_; rintro e w7 ⟨v7, rfl, hown7, b7⟩; have HO7 := Lib.hid (ownsRow_lower hown7 b6.size); replace b7 := b6.trans (b7.mono b6.size); clear hown7))
                go_roundw
                case rel => exact ⟨k + 1, putI out y, by omega, by go_num, HO7.out, Lib.hid (.inl (by rw [putI_len (of_decide_eq_false HHX.out) HND.out.up]; omega)), HND2, b7⟩
                case measure => simp [intOf]; omega
              · have HND2 := Lib.hid (HND.out.skip (fun x e => by rw [HX.out, HONE.out] at e; injection e with e; rw [← e]; exact of_decide_eq_true HHX.out))
                go_wp2_with (first | (go_at_call 83; refine (l9On_any _ _ t r d _ (H.out.below rHo_stable hb) (HV.out _ hb) (by omega) HDD.out.2).mono ?_; rintro e w5 ⟨v', rfl, hi5, b5⟩; obtain ⟨ao, co, rfl, _, _, hcell⟩ := hi5.row; rw [HONE.out] at hcell ⊢; have y0 : ∃ g o, ao = some ⟨g, o, none⟩ ∧ w5.cell? ⟨g, o, none⟩ = some (.int .i64 y) := (by rcases hcell with h | ⟨g, o, _, rfl, hc⟩; cases h; exact ⟨g, o, rfl, by simpa [vI] using hc 0 (by simp)⟩); obtain ⟨gy, oy, rfl, y0⟩ := y0; clear hcell; have HO5 := Lib.hid (ownsRow_below HO.out b5); replace b5 := hb.trans (b5.mono hb.size); have s5 := b5.size; clear hi5) | (go_at_call 109; refine (l1Has_any _ out y _ (ints_rowK (lo := w.heap.size) HO5.out rfl).row).mono ?_; rw [HHX.out]; rintro e w6 ⟨rfl, b6⟩; have y1 := cell_kept y0 b6; have HO6 := Lib.hid (ownsRow_below HO5.out b6); replace b6 := b5.trans (b6.mono b5.size)))
                go_roundw
                case rel => exact ⟨k + 1, out, by omega, by go_num, HO6.out, HAT, HND2, b6⟩
                case measure => simp [intOf]; omega
            · obtain ⟨N, hN⟩ : ∃ N : Nat, (onHo t r d).length = N := ⟨_, rfl⟩
              have hN1 : N ≠ 1 := fun e => hone (by rw [e] at hN; exact List.length_eq_one_iff.1 hN)
              have dN : ((N : Int) == 1) = false := beq_false_of_ne (by omega)
              have HON := Lib.hid hN
              have HND2 := Lib.hid (HND.out.skip (fun x e => absurd ⟨x, by rw [HX.out] at e; exact e⟩ hone))
              clear hN hone
              go_wp2_with (first | (go_at_call 83; refine (l9On_any _ _ t r d _ (H.out.below rHo_stable hb) (HV.out _ hb) (by omega) HDD.out.2).mono ?_; rintro e w5 ⟨v', rfl, hi5, b5⟩; obtain ⟨ao, co, rfl, _⟩ := hi5.row; rw [HON.out]; have HO5 := Lib.hid (ownsRow_below HO.out b5); replace b5 := hb.trans (b5.mono hb.size); have s5 := b5.size; clear hi5))
              go_roundw
              case rel => exact ⟨k + 1, out, by omega, by go_num, HO5.out, HAT, HND2, b5⟩
              case measure => simp [intOf]; omega
          · have hkl : k = rs.length := by omega
            have HO := Lib.hid hO
            have HE : Hid (out = needF t rs d) := Lib.hid (NdOK.done HG.out (by have := HND.out; rwa [hkl] at this))
            clear hO hkl
            go_wp2_with fail
            go_ret2
            rw [← HE.out]
            exact ⟨_, rfl, ints_rowK HO.out rfl, hb⟩
end Go.Proofs.Ytkjpehpodlpdhaa
