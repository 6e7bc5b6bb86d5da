/- The draws of schedules for the checker, and of series. -/
import Derived.Test.YtenjajcknmfhfaaDrawTg2
import Derived.Test.YtenjajcknmfhfaaDrawSc
import Derived.Test.YtenjajcknmfhfaaIntsK
namespace Go.Proofs.Ytenjajcknmfhfaa
set_option linter.unusedVariables false
open Go.RowKit

theorem IntsO.grown {lo hi B : Nat} {w w' : World} {v : Value} {xs : List Int} (h : IntsO lo hi w v xs) (hg : w.grownBy w' (some B)) (hB : B < lo) : IntsO lo hi w' v xs := ⟨own_grown h.1 hg hB, h.2⟩
theorem IntsO.alloc {lo hi : Nat} {w : World} {v : Value} {xs : List Int} (h : IntsO lo hi w v xs) (o : Obj) : IntsO lo hi (w.alloc o) v xs := ⟨h.1.alloc o, h.2⟩
theorem IntsO.lenT {lo hi : Nat} {w : World} {v : Value} {xs : List Int} (h : IntsO lo hi w v xs) : ∃ a c, v = .slice a xs.length c := by
  rcases h.1.2 with ⟨rfl, h0⟩ | ⟨g, cap, cur, rfl, _⟩
  · exact ⟨_, _, by rw [h0]⟩
  · exact ⟨_, _, rfl⟩
/-- A schedule that is drawn. -/
def SchIs (w w' : World) (v : Value) (t : List Ru) : Prop := t.length ≤ 16 ∧ RowR 4 rRu w' v t ∧ Below w.heap.size w w'
def SchDraw (w : World) (e : Ending) (w' : World) : Prop := ∃ v t, e = .returned v ∧ SchIs w w' v t
theorem setDays {t : List Ru} {i : Nat} (hi : i < t.length) (d : Int) : (t.map ruC).set i (((t.map ruC)[i]'(by simpa using hi)).set 2 (.int .i64 d)) = (t.set i { t[i] with days := d }).map ruC := by
  rw [List.map_set, List.getElem_map]
  rfl
def GapDraw (w : World) (e : Ending) (w' : World) : Prop := ∃ v t v2 xs, e = .returned (.tuple #[v, v2]) ∧ xs.length ≤ 30 ∧ SchIs w w' v t ∧ RowOf vI w' v2 xs
set_option maxRecDepth 20000 in
set_option maxHeartbeats 4000000 in
theorem drawCon_any (a : Option Addr) (len cap : Nat) (zs : List Int) (w : World) (h : IsRow .u8 w a len cap zs) (hl : len ≤ 1099511627776) :
    Calls Try.prog 24 #[.slice a len cap] w (SchDraw w) := by
  have HC := Lib.hid (cur_new h hl 104)
  clear h
  go_enter Try.func24, Try.ntmps24
  go_wp2_with fail
  refine (schedule_any w.heap.size 0 _ HC.out (by omega)).mono ?_
  rintro e w1 ⟨v, t, rfl, htl, ho, hcu, hg⟩
  have HD := Lib.hid (⟨hcu, hg⟩ : Dk (w.alloc (.cells #[.slice a len cap, .int .i64 0, .int .u64 0] 104)) w1 w.heap.size (0 + 400))
  have HO := Lib.hid ho
  clear ho hcu hg HC
  obtain ⟨v0, hv0⟩ : ∃ x, x = v := ⟨_, rfl⟩
  go_wp2_with fail
  go_loopw [5] (fun i wr => ∃ (m : Nat) (t : List Ru), i = .int .i64 ((m : Int) + 1) ∧ m ≤ 16 ∧ t.length ≤ 16 ∧ Hid (Dk (w.alloc (.cells #[.slice a len cap, .int .i64 0, .int .u64 0] 104)) wr w.heap.size (400 + 2 * m)) ∧ Hid (RusO (w.alloc (.cells #[.slice a len cap, .int .i64 0, .int .u64 0] 104)).heap.size wr.heap.size wr v t)) (fun i _ => 20 - (intOf i).toNat)
  case atStart => exact ⟨0, t, rfl, by omega, htl, HD, HO⟩
  case round =>
    clear HD HO htl
    obtain ⟨m, t, rfl, hm, htl, HD, HO⟩ := hrel
    rcases HO.out.1.form with ⟨hv, h0⟩ | ⟨g, c, hv, hg1, hg2, hc1, hc2⟩
    · subst hv
      have hn0 : t.length = 0 := by have := congrArg List.length h0; simpa using this
      have gm : ¬ (m : Int) + 1 < 0 := by omega
      have HN0 := Lib.hid hn0
      clear h0 hn0
      go_wp2_with fail
      go_ret
      exact ⟨_, t, rfl, htl, HO.out.row, HD.out.belowT⟩
    · rw [List.length_map] at hv hc1
      subst hv
      unfold maxLen at hc2
      by_cases hlt : m + 1 < t.length
      · have g1 : (m : Int) + 1 < (t.length : Int) := by omega
        have g0 : (0 : Int) ≤ (m : Int) + 1 := by omega
        have hti : ((m : Int) + 1).toNat = m + 1 := by omega
        have gm0 : (0 : Int) ≤ (m : Int) := by omega
        have gm1 : (m : Int) < (t.length : Int) := by omega
        have hws : IntKind.i64.wrap ((m : Int) + 1 - 1) = (m : Int) := by rw [Go.IntWalk.i64_in _ (by omega)]; omega
        have hwa : IntKind.i64.wrap ((m : Int) + 1 + 1) = (m : Int) + 1 + 1 := Go.IntWalk.i64_in _ (by omega)
        go_wp2_with fail
        refine (one_any w.heap.size (400 + 2 * m) 2 _ HD.out.cur (by omega) (by omega) (by omega)).mono ?_
        rintro e w2 ⟨b, rfl, hc, hg⟩
        have HD2 := Lib.hid (HD.out.step hc hg)
        have HO2 := Lib.hid ((HO.out.grown hg (by simp)).wide (Nat.le_refl _) hg.size)
        clear hc hg HD HO
        cases b
        · go_wp2_with fail
          go_roundw
          case rel => exact ⟨m + 1, t, by go_num, by omega, htl, Lib.hid (HD2.out.le (by omega)), HO2⟩
          case measure => simp [intOf]; omega
        · have c0 := HO2.out.1.cell m 2 (by simp; omega) (by omega)
          have fz := HO2.out.1.frozen ((m + 1) * 4 + 2)
          obtain ⟨d, hd⟩ : ∃ d, (t[m]'(by omega)).days = d := ⟨_, rfl⟩
          simp [ruC, hd] at c0
          have c1 := HO2.out.1.cell (m + 1) 2 (by simp; omega) (by omega)
          obtain ⟨d0, hd0⟩ : ∃ d, (t[m + 1]'hlt).days = d := ⟨_, rfl⟩
          simp [ruC, hd0] at c1
          clear hd0
          have st := HO2.out.1.stored (m + 1) 2 (by simp; omega) (by omega) (.int .i64 d)
          rw [setDays hlt d] at st
          have hok : ∀ r ∈ t.set (m + 1) { t[m + 1] with days := d }, r.ok := fun r hr => by
            rcases List.mem_or_eq_of_mem_set hr with h | h
            · exact HO2.out.2.1 r h
            · have h1 := HO2.out.2.1 _ (List.getElem_mem (show m < t.length by omega))
              have h2 := HO2.out.2.1 _ (List.getElem_mem hlt)
              rw [h]
              exact ⟨h2.1, h2.2.1, by rw [← hd]; exact h1.2.2.1, h2.2.2.2⟩
          have hsz := HD2.out.sz
          simp at hsz hg1
          have HDn : Hid (Dk (w.alloc (.cells #[.slice a len cap, .int .i64 0, .int .u64 0] 104)) (w2.setCell ⟨g, (m + 1) * 4 + 2, none⟩ (.int .i64 d)) w.heap.size (400 + 2 * m + 2)) := Lib.hid (HD2.out.set (by simp; omega) (by omega))
          have HOn : Hid (RusO (w.alloc (.cells #[.slice a len cap, .int .i64 0, .int .u64 0] 104)).heap.size (w2.setCell ⟨g, (m + 1) * 4 + 2, none⟩ (.int .i64 d)).heap.size (w2.setCell ⟨g, (m + 1) * 4 + 2, none⟩ (.int .i64 d)) (.slice (some ⟨g, 0, none⟩) t.length c) (t.set (m + 1) { t[m + 1] with days := d })) := Lib.hid ⟨st.1, hok, by simpa using HO2.out.2.2⟩
          have HLT := Lib.hid hlt
          clear st hok HD2 HO2 hd
          go_wp2_with fail
          go_roundw
          case rel => exact ⟨m + 1, _, by go_num, by omega, by simpa using htl, Lib.hid (HDn.out.le (by omega)), HOn⟩
          case measure => simp [intOf]; omega
      · have g1 : ¬ (m : Int) + 1 < (t.length : Int) := by omega
        go_wp2_with fail
        go_ret
        exact ⟨_, t, rfl, htl, HO.out.row, HD.out.belowT⟩
set_option maxRecDepth 20000 in
set_option maxHeartbeats 4000000 in
theorem drawNev_any (a : Option Addr) (len cap : Nat) (zs : List Int) (w : World) (h : IsRow .u8 w a len cap zs) (hl : len ≤ 1099511627776) :
    Calls Try.prog 36 #[.slice a len cap] w (SchDraw w) := by
  have H := Lib.hid h
  clear h
  go_enter Try.func36, Try.ntmps36
  go_wp2_with (first | (go_at_call 24; refine (drawCon_any a len cap zs _ H.out hl).mono ?_; rintro e w1 ⟨v, t, rfl, ht⟩))
  go_ret
  exact ⟨v, t, rfl, ht⟩
end Go.Proofs.Ytenjajcknmfhfaa
