/- PutVersion: what the law asks of its arguments and answers. -/
import Derived.Test.YtmjeaciacgeioaaPutVeS
import Derived.Test.YtmjeaciacgeioaaPutVI
import Derived.Test.YtmjeaciacgeioaaMarkFVe
namespace Go.Proofs.Ytmjeaciacgeioaa
set_option linter.unusedVariables false
open Go.RowKit

theorem szVeL_any (v : Value) (x : Ve) (left : Int) (w : World) (h : VeV w v x) (h0 : 0 ≤ left) (h2 : left ≤ 1099511627776) :
    Calls Try.prog 37 #[v, .int .i64 left] w fun e w' => e = .returned (.int .i64 (if left < x.rules.length then -1 else left - x.rules.length)) ∧ Below w.heap.size w w' := szVe_one v x left w h h0 h2
theorem markVe_any (v : Value) (r : Ve) (lo hi k0 : Nat) (w : World) (hk0 : 1 ≤ k0) (hk1 : k0 + r.rules.length * 4 ≤ 1099511627776) (h : VeO lo hi w v r) :
    Calls Try.prog 43 #[v, .int .i64 k0] w fun e w' => e = .returned (.int .i64 (k0 + r.rules.length * 4 : Nat)) ∧ VeO lo hi w' v ⟨r.frm, mRus k0 r.rules.length⟩ ∧ Only lo hi w w' := by
  obtain ⟨s, rfl, h1, hok⟩ := h
  obtain ⟨frm, rules⟩ := r
  have H1 := Lib.hid h1
  have HOK := Lib.hid hok
  clear h1 hok
  go_enter Try.func43, Try.ntmps43
  go_wp2_with (first | (go_at_call 90; refine (markRuS_any _ rules lo hi k0 _ hk0 hk1 (H1.out.below (below_al (Below.refl _ _) _))).mono ?_; rintro e w' ⟨rfl, ho, hb'⟩; have HO := Lib.hid ho; clear ho))
  go_ret
  exact ⟨rfl, ⟨_, rfl, HO.out, HOK.out⟩, (Only.of_below (below_al (Below.refl _ _) _)).trans hb'⟩
/-- A list of versions that was read at an earlier world. -/
def VesR (hi : Nat) (w : World) (v : Value) (xs : List Ve) : Prop := ∃ w0 : World, RowR 2 rVe w0 v xs ∧ Below w0.heap.size w0 w ∧ w0.heap.size ≤ hi
theorem VesR.below {hi : Nat} {w w' : World} {v : Value} {xs : List Ve} (h : VesR hi w v xs) (hb : Below w.heap.size w w') : VesR hi w' v xs := by
  obtain ⟨w0, a, b, c⟩ := h
  exact ⟨w0, a, b.trans (hb.mono b.size), c⟩
theorem VesR.only2 {hi lo' hi' : Nat} {w w' : World} {v : Value} {xs : List Ve} (h : VesR hi w v xs) (on : Only lo' hi' w w') (hh : hi ≤ lo') : VesR hi w' v xs := by
  obtain ⟨w0, a, b, c⟩ := h
  have hs := b.size
  exact ⟨w0, a, b.trans ⟨on.os, on.tape, on.output, on.size, fun k hk => on.block k (by omega) (.inl (by omega))⟩, c⟩
theorem VesR.row {hi : Nat} {w : World} {v : Value} {xs : List Ve} (h : VesR hi w v xs) : RowR 2 rVe w v xs := by
  obtain ⟨w0, a, b, c⟩ := h
  exact a.below rVe_stable b
theorem specPutVersionR_any (v v1 : Value) (t : List Ve) (x : Ve) (w : World) (h : RowR 2 rVe w v t) (hx : VeV w v1 x) (xs : List Ve) (b : Bool) (hres : pvRes t x = (xs, b)) :
    Calls Try.prog 9 #[v, v1] w fun e w' => ∃ v', e = .returned (.tuple #[v', .bool b]) ∧ VesR w'.heap.size w' v' xs ∧ Below w.heap.size w w' := by
  refine (specPutVersion_any v v1 t x w h hx xs b hres).mono ?_
  rintro e w' ⟨v', es, rfl, hr, he, hb⟩
  exact ⟨v', rfl, ⟨w', by rw [← he]; exact hr.reads, Below.refl _ _, Nat.le_refl _⟩, hb⟩
theorem msVe_filter (p : Ve → Bool) (t : List Ve) : msVe (t.filter p) ≤ msVe t := by
  induction t with
  | nil => simp [msVe]
  | cons y t ih =>
    unfold msVe at ih ⊢
    rw [List.filter_cons]
    split
    · simp only [List.map_cons, List.sum_cons]; omega
    · simp only [List.map_cons, List.sum_cons]; omega
theorem pv_ms {t : List Ve} {v : Ve} {xs : List Ve} {b : Bool} (h : pvRes t v = (xs, b)) : msVe xs ≤ msVe t + v.rules.length * 4 + msVe t := by
  unfold pvRes at h
  split at h
  · cases h
    have h1 := msVe_filter (fun x : Ve => decide (x.frm < v.frm)) t
    have h2 := msVe_filter (fun x : Ve => decide (v.frm < x.frm)) t
    unfold putVe
    unfold msVe at *
    rw [List.map_append, List.map_cons, List.sum_append, List.sum_cons]
    omega
  · cases h
    simp [msVe]
theorem pv_len {t : List Ve} {v : Ve} {xs : List Ve} {b : Bool} (h : pvRes t v = (xs, b)) : xs.length ≤ t.length + 1 := by
  unfold pvRes at h
  split at h
  · cases h; exact putVe_len t v
  · cases h; simp
end Go.Proofs.Ytmjeaciacgeioaa
