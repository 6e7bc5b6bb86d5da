/- InSeries, the model's and the program's: the ids of the records of a series, in memory of their own. -/
import Derived.Test.YtkhhkgjjhnplcaaAreRec
import Derived.Test.YtkhhkgjjhnplcaaInts
namespace Go.Proofs.Ytkhhkgjjhnplcaa
set_option linter.unusedVariables false
open Go.RowKit Go.Sort

/-- What InSeries answers. -/
def serRes (rs : List Rec) (s : Int) : List Int × Bool := if areRecs rs = true ∧ (1 ≤ s ∧ s ≤ 99) then (idsOf rs s rs.length, true) else ([], false)
theorem cell_one_new' (w : World) (v : Value) (t : TypeId) {k : Nat} (hk : k = w.heap.size) : ∀ j u, [v][j]? = some u → (w.alloc (.cells #[v] t (0, 0))).cell? ((⟨k, 0, none⟩ : Addr).add j) = some u := by subst hk; exact cell_one_new w v t
theorem idsOf_len (rs : List Rec) (s : Int) (k : Nat) : (idsOf rs s k).length ≤ k := by
  unfold idsOf
  rw [List.length_map]
  exact Nat.le_trans (List.length_filter_le _ _) (by rw [List.length_take]; omega)
theorem areRecs_len {rs : List Rec} (h : areRecs rs = true) : rs.length ≤ 10 := by
  simp only [areRecs, Bool.and_eq_true, decide_eq_true_eq] at h
  exact h.1
theorem Try.info_int : (Try.prog.info? 3).map (fun i => (i.zero, i.size, i.bytes)) = some (some (.int .i64 0), 1, 8) := by kernel_rfl

set_option maxHeartbeats 2000000 in
theorem specInSeries_any (v : Value) (rs : List Rec) (s : Int) (w : World) (h : RowR 4 rRec w v rs) (xs : List Int) (b : Bool) (hres : serRes rs s = (xs, b)) :
    Calls Try.prog 34 #[v, .int .i64 s] w fun e w' => ∃ v', e = .returned (.tuple #[v', .bool b]) ∧ IntsO w.heap.size w'.heap.size w' v' xs ∧ Below w.heap.size w w' := by
  obtain ⟨i0, hi, hz0, hz1, hz2⟩ := info_parts Try.info_int
  have H := Lib.hid h
  obtain ⟨a1, c1, rfl, hl1, hm1, r1⟩ := h.recs
  have R1 := Lib.hid r1
  clear h r1
  unfold maxLen at hm1
  obtain ⟨br, hr⟩ : ∃ b, areRecs rs = b := ⟨_, rfl⟩
  unfold serRes at hres
  rw [hr] at hres
  have HR := Lib.hid hr
  obtain ⟨bs, hs⟩ : ∃ b, decide (1 ≤ s ∧ s ≤ 99) = b := ⟨_, rfl⟩
  have HS := Lib.hid hs
  cases br
  · rw [if_neg (by simp)] at hres
    obtain ⟨rfl, rfl⟩ := Prod.mk.inj hres
    clear hres hr hs
    go_enter Try.func34, Try.ntmps34
    go_wp2_with (first | (go_at_call 47; refine (l2Records_any _ rs _ (H.out.below rRec_stable (below_al (Below.refl _ _) _))).mono ?_; rw [HR.out]; rintro e w1 ⟨rfl, b1⟩))
    go_ret2
    exact ⟨_, rfl, ⟨ownsRow_below (World.ownsRow_made w #[] 0 (Nat.le_refl _) (Nat.zero_le _) rfl) b1, fun g hg => by have := b1.size; simp at this; simp [Value.ownBlock] at hg; omega⟩, below_chain (below_al (Below.refl _ _) _) b1⟩
  · cases bs
    · rw [if_neg (fun h => of_decide_eq_false hs h.2)] at hres
      obtain ⟨rfl, rfl⟩ := Prod.mk.inj hres
      clear hres hr hs
      go_enter Try.func34, Try.ntmps34
      go_wp2_with (first | (go_at_call 47; refine (l2Records_any _ rs _ (H.out.below rRec_stable (below_al (Below.refl _ _) _))).mono ?_; rw [HR.out]; rintro e w1 ⟨rfl, b1⟩) | (go_at_call 53; refine (l1In_any _ _ _ _).mono ?_; rw [HS.out]; rintro e w2 ⟨rfl, rfl⟩))
      go_ret2
      exact ⟨_, rfl, ⟨ownsRow_below (World.ownsRow_made w #[] 0 (Nat.le_refl _) (Nat.zero_le _) rfl) b1, fun g hg => by have := b1.size; simp at this; simp [Value.ownBlock] at hg; omega⟩, below_chain (below_al (Below.refl _ _) _) b1⟩
    · rw [if_pos ⟨rfl, of_decide_eq_true hs⟩] at hres
      obtain ⟨rfl, rfl⟩ := Prod.mk.inj hres
      have hten := areRecs_len hr
      clear hres hr hs
      go_enter Try.func34, Try.ntmps34
      go_wp2_with (first | (go_at_call 47; refine (l2Records_any _ rs _ (H.out.below rRec_stable (below_al (Below.refl _ _) _))).mono ?_; rw [HR.out]; rintro e w1 ⟨rfl, b1⟩) | (go_at_call 53; refine (l1In_any _ _ _ _).mono ?_; rw [HS.out]; rintro e w2 ⟨rfl, rfl⟩))
      go_loopw [6, 7] (fun o i wr => ∃ k : Nat, k ≤ rs.length ∧ i = .int .i64 k ∧ wr.ownsRow w.heap.size 3 1 o (idsOf rs s k).length ((idsOf rs s k).map vI) ∧ Below w.heap.size w wr) (fun _ i _ => rs.length - (intOf i).toNat)
      case atStart => exact ⟨0, Nat.zero_le _, rfl, by simpa [idsOf_zero] using ownsRow_below (World.ownsRow_made w #[] 0 (Nat.le_refl _) (Nat.zero_le _) rfl) b1, below_chain (below_al (Below.refl _ _) _) b1⟩
      case round =>
        clear b1
        obtain ⟨k, hk, rfl, hO, hb⟩ := hrel
        by_cases hlt : k < rs.length
        · obtain ⟨b1, o1, hb1, rfl, e1⟩ := R1.out.resolve_left (fun e => by rw [e] at hlt; simp at hlt)
          obtain ⟨sv, q0, q1, q2, q3, hr, hok⟩ := e1 k hlt
          obtain ⟨r, hx⟩ : ∃ s, rs.getD k recD = s := ⟨_, rfl⟩
          rw [hx] at q0 q1 q2 hr hok
          have f0 := cell_kept q0 hb
          have f1 := cell_kept q1 hb
          have f2 := cell_kept q2 hb
          have f3 := cell_kept q3 hb
          have hsucc := idsOf_succ rs s k hlt
          have hlen := idsOf_len rs s k
          rw [hx] at hsucc
          obtain ⟨P, hP⟩ : ∃ P, idsOf rs s k = P := ⟨_, rfl⟩
          rw [hP] at hO hlen hsucc
          have HSU := Lib.hid hsucc
          have HPP := Lib.hid hP
          have g0 : (0 : Int) ≤ (k : Int) := by omega
          have g1 : (k : Int) < (rs.length : Int) := by omega
          have hsz := hb.size
          clear q0 q1 q2 q3 hr hx e1 hsucc hP hok
          by_cases he : r.series = s
          · have hx : (r.series == s) = true := by simp [he]
            have HE := Lib.hid he
            clear he
            go_wp2_with (first | (at_builtin; refine wpList_append_own _ rfl _ _ 55 rfl w.heap.size 3 i0 (.int .i64 0) 1 8 Try.underlying55 hi hz0 hz1 hz2 rfl (by decide) _ _ _ rfl (hO.alloc _) ⟨wr.heap.size, 0, none⟩ 1 1 [.int .i64 r.id] rfl rfl (cell_one_new' _ _ _ (by simp)) (by simp [Value.oneCell']) (by unfold maxLen; omega) (by omega) (by simp; omega) ?_; intro v' w1 hown' hgrow _))
            have HOWN := Lib.hid hown'
            have HB := Lib.hid (below_app hb (Nat.le_refl _) hO hgrow)
            clear hown' hgrow hO
            go_wp2_with fail
            go_roundw
            case rel => exact ⟨k + 1, by omega, by go_num, (by rw [HSU.out, if_pos HE.out]; simpa [vI] using HOWN.out), HB.out⟩
            case measure => simp [intOf]; omega
          · have hx : (r.series == s) = false := by simp [he]
            have HE := Lib.hid he
            have HO := Lib.hid hO
            clear he hO
            go_wp2_with fail
            go_roundw
            case rel => exact ⟨k + 1, by omega, by go_num, (by rw [HSU.out, if_neg HE.out]; exact HO.out), hb⟩
            case measure => simp [intOf]; omega
        · obtain rfl : k = rs.length := by omega
          have HO := Lib.hid hO
          clear hO
          go_wp2_with fail
          go_ret2
          exact ⟨_, rfl, ⟨HO.out, fun g hg => (HO.out.lt g hg).2⟩, hb⟩

set_option maxHeartbeats 2000000 in
theorem implInSeries_any (v : Value) (rs : List Rec) (s : Int) (w : World) (h : RowR 4 rRec w v rs) (xs : List Int) (b : Bool) (hres : serRes rs s = (xs, b)) :
    Calls Try.prog 35 #[v, .int .i64 s] w fun e w' => ∃ v', e = .returned (.tuple #[v', .bool b]) ∧ IntsO w.heap.size w'.heap.size w' v' xs ∧ Below w.heap.size w w' := by
  obtain ⟨i0, hi, hz0, hz1, hz2⟩ := info_parts Try.info_int
  have H := Lib.hid h
  obtain ⟨a1, c1, rfl, hl1, hm1, r1⟩ := h.recs
  have R1 := Lib.hid r1
  clear h r1
  unfold maxLen at hm1
  obtain ⟨br, hr⟩ : ∃ b, areRecs rs = b := ⟨_, rfl⟩
  unfold serRes at hres
  rw [hr] at hres
  have HR := Lib.hid hr
  obtain ⟨bs, hs⟩ : ∃ b, decide (1 ≤ s ∧ s ≤ 99) = b := ⟨_, rfl⟩
  have HS := Lib.hid hs
  cases br
  · rw [if_neg (by simp)] at hres
    obtain ⟨rfl, rfl⟩ := Prod.mk.inj hres
    clear hres hr hs
    go_enter Try.func35, Try.ntmps35
    go_wp2_with (first | (go_at_call 22; refine (implAreRecords_any _ rs _ H.out).mono ?_; rw [HR.out]; rintro e w1 ⟨rfl, b1⟩))
    go_ret2
    exact ⟨_, rfl, ⟨World.ownsRow_nil _ _ _ _, Under.nil _ _ _⟩, b1⟩
  · cases bs
    · rw [if_neg (fun h => of_decide_eq_false hs h.2)] at hres
      obtain ⟨rfl, rfl⟩ := Prod.mk.inj hres
      clear hres hr hs
      go_enter Try.func35, Try.ntmps35
      go_wp2_with (first | (go_at_call 22; refine (implAreRecords_any _ rs _ H.out).mono ?_; rw [HR.out]; rintro e w1 ⟨rfl, b1⟩) | (go_at_call 45; refine (isSeries_any _ _).mono ?_; rw [HS.out]; rintro e w2 ⟨rfl, rfl⟩))
      go_ret2
      exact ⟨_, rfl, ⟨World.ownsRow_nil _ _ _ _, Under.nil _ _ _⟩, b1⟩
    · rw [if_pos ⟨rfl, of_decide_eq_true hs⟩] at hres
      obtain ⟨rfl, rfl⟩ := Prod.mk.inj hres
      have hten := areRecs_len hr
      clear hres hr hs
      go_enter Try.func35, Try.ntmps35
      go_wp2_with (first | (go_at_call 22; refine (implAreRecords_any _ rs _ H.out).mono ?_; rw [HR.out]; rintro e w1 ⟨rfl, b1⟩) | (go_at_call 45; refine (isSeries_any _ _).mono ?_; rw [HS.out]; rintro e w2 ⟨rfl, rfl⟩))
      go_loopw [6, 19] (fun o i wr => ∃ k : Nat, k ≤ rs.length ∧ i = .int .i64 k ∧ wr.ownsRow w.heap.size 3 1 o (idsOf rs s k).length ((idsOf rs s k).map vI) ∧ Below w.heap.size w wr) (fun _ i _ => rs.length - (intOf i).toNat)
      case atStart => exact ⟨0, Nat.zero_le _, rfl, by simpa [idsOf_zero] using World.ownsRow_nil _ _ _ _, b1⟩
      case round =>
        clear b1
        obtain ⟨k, hk, rfl, hO, hb⟩ := hrel
        by_cases hlt : k < rs.length
        · obtain ⟨b1, o1, hb1, rfl, e1⟩ := R1.out.resolve_left (fun e => by rw [e] at hlt; simp at hlt)
          obtain ⟨sv, q0, q1, q2, q3, hr, hok⟩ := e1 k hlt
          obtain ⟨r, hx⟩ : ∃ s, rs.getD k recD = s := ⟨_, rfl⟩
          rw [hx] at q0 q1 q2 hr hok
          have hr0 := hr
          obtain ⟨sa, sc, rfl, _⟩ := hr0
          have f0 := cell_kept q0 hb
          have f1 := cell_kept q1 hb
          have f2 := cell_kept q2 hb
          have f3 := cell_kept q3 hb
          have hsucc := idsOf_succ rs s k hlt
          have hlen := idsOf_len rs s k
          rw [hx] at hsucc
          obtain ⟨P, hP⟩ : ∃ P, idsOf rs s k = P := ⟨_, rfl⟩
          rw [hP] at hO hlen hsucc
          have HSU := Lib.hid hsucc
          have HPP := Lib.hid hP
          have g0 : (0 : Int) ≤ (k : Int) := by omega
          have g1 : (k : Int) < (rs.length : Int) := by omega
          have hsz := hb.size
          clear q0 q1 q2 q3 hr hx e1 hsucc hP hok
          by_cases he : r.series = s
          · have hx : (r.series == s) = true := by simp [he]
            have HE := Lib.hid he
            clear he
            go_wp2_with (first | (at_builtin; refine wpList_append_own _ rfl _ _ 55 rfl w.heap.size 3 i0 (.int .i64 0) 1 8 Try.underlying55 hi hz0 hz1 hz2 rfl (by decide) _ _ _ rfl ((hO.alloc _).alloc _) ⟨wr.heap.size + 1, 0, none⟩ 1 1 [.int .i64 r.id] rfl rfl (cell_one_new' _ _ _ (by simp)) (by simp [Value.oneCell']) (by unfold maxLen; omega) (by omega) (by simp; omega) ?_; intro v' w1 hown' hgrow _))
            have HOWN := Lib.hid hown'
            have HB := Lib.hid (below_app (below_al hb _) (Nat.le_refl _) (hO.alloc _) hgrow)
            clear hown' hgrow hO
            go_wp2_with fail
            go_roundw
            case rel => exact ⟨k + 1, by omega, by go_num, (by rw [HSU.out, if_pos HE.out]; simpa [vI] using HOWN.out), HB.out⟩
            case measure => simp [intOf]; omega
          · have hx : (r.series == s) = false := by simp [he]
            have HE := Lib.hid he
            have HO := Lib.hid hO
            clear he hO
            go_wp2_with fail
            go_roundw
            case rel => exact ⟨k + 1, by omega, by go_num, (by rw [HSU.out, if_neg HE.out]; exact HO.out.alloc _), below_al hb _⟩
            case measure => simp [intOf]; omega
        · obtain rfl : k = rs.length := by omega
          have HO := Lib.hid hO
          clear hO
          go_wp2_with fail
          go_ret2
          exact ⟨_, rfl, ⟨HO.out, fun g hg => (HO.out.lt g hg).2⟩, hb⟩
end Go.Proofs.Ytkhhkgjjhnplcaa
