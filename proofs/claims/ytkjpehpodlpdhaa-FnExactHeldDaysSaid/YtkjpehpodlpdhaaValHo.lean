/- slices.Values and slices.Collect at holds: what comes, by the cells of the list. -/
import Derived.RangeFuncNested
import Derived.RangeFuncBox
import Derived.RangeFuncLeaves
import Derived.Shelf.Abstract
import Derived.WalkKit
import Derived.OwnWalkIn
import Derived.TacticsInMore
import Derived.LoopNIn
import Derived.LoopIn
import Derived.Maps.AppendAt
import Derived.Sort.QuietIn
import Derived.Test.YtkjpehpodlpdhaaHpC
namespace Go.Proofs.Ytkjpehpodlpdhaa
set_option linter.unusedVariables false
open Go.RowKit Go.Shelf

attribute [local go_sem] Oper.semAt_some

def encH (x : Hp) : Array Value := #[.agg #[.int .i64 x.1.id, .int .i64 x.1.frm, .int .i64 x.1.til, hpS x.2, .int .i64 x.1.fst, .int .i64 x.1.lst]]
theorem abides_allocH {β : Type} {B : Nat} {J : β → World → Prop} (h : AbidesFrom B J) {x : β} {W : World} (hJ : J x W) (o : Obj) : J x (W.alloc o) :=
  h x W (W.alloc o) none hJ (grownBy_of_below (below_al (Below.refl _ _) o) none) (fun r e => by cases e)

set_option maxRecDepth 100000 in
set_option maxHeartbeats 2000000 in
theorem values1_in (n : Nat) (hn : 1 ≤ n) (l Bs n₀ : Nat) (v : Value) (t : List Hp) (J Jx : List Hp → World → Prop) (w W : World) (hr : HC w v t) (hwW : Below w.heap.size w W) (hn₀ : n₀ = w.heap.size)
    (hJ : AbidesFrom W.heap.size J)
    (hY : ∀ pre x W, J pre W → pre.length < t.length → YieldAt Fence.wide (n - 1) Try.prog l (encH x) W fun e W' =>
      (e = .returned (.bool true) ∧ J (pre ++ [x]) W' ∧ Below n₀ W W') ∨ (e = .returned (.bool false) ∧ Jx (pre ++ [x]) W'))
    (hcs : W.cell? ⟨Bs, 0, none⟩ = some v) (h0 : J [] W) :
    CallsIn Fence.wide n Try.prog 157 #[.func (.yield l) #[] #[], .pointer (some ⟨Bs, 0, none⟩)] W fun e W' => (∃ v, e = .returned v) ∧
      ((∃ ys, ys = t ∧ J ys W') ∨ (∃ pre, True ∧ Jx pre W')) := by
  refine callsIn_of_wp Try.func157 rfl trivial ?_ rfl
  simp only [Try.ntmps157, List.size_toArray, List.length_cons, List.length_nil, Nat.reduceAdd, Nat.reduceSub, Array.replicate_succ, Array.replicate_zero, List.push_toArray, List.append_toArray, List.nil_append, List.cons_append]
  obtain ⟨a1, c1, hv, hl1, hm1, r1⟩ := hr
  have hcap : t.length ≤ maxLen := Nat.le_trans hl1 hm1
  subst hv
  have R1 := Lib.hid r1
  have HY := Lib.hid hY
  have HJA := Lib.hid hJ
  clear hY hJ r1
  unfold maxLen at hm1 hcap
  gi_wp2
  gi_loopw [7] (fun i wr => ∃ k : Nat, k ≤ t.length ∧ i = .int .i64 k ∧ J (t.take k) wr ∧ Below n₀ W wr) (fun i _ => t.length - (intOf i).toNat)
  case atStart => exact ⟨0, Nat.zero_le _, rfl, by simpa using h0, Below.refl _ _⟩
  case round =>
    obtain ⟨k, hk, rfl, hJs, hnx⟩ := hrel
    have HJS := Lib.hid hJs
    clear hJs
    by_cases hlt : k < t.length
    · obtain ⟨b1, o1, hb1, rfl, e1⟩ := R1.out.resolve_left (fun e => by rw [e] at hlt; simp at hlt)
      obtain ⟨⟨⟨x0, x1, x2, x3, x4, x5⟩, ⟨sa, sn, sc⟩⟩, hx⟩ : ∃ s, t.getD k hpD = s := ⟨_, rfl⟩
      have hWr : Below w.heap.size w wr := hwW.trans (by rw [← hn₀]; exact hnx)
      have e2 := e1 k hlt
      rw [hx] at e2
      have f0 := cell_kept (e2 0 _ rfl) hWr
      have f1 := cell_kept (e2 1 _ rfl) hWr
      have f2 := cell_kept (e2 2 _ rfl) hWr
      have f3 := cell_kept (e2 3 _ rfl) hWr
      have f4 := cell_kept (e2 4 _ rfl) hWr
      have f5 := cell_kept (e2 5 _ rfl) hWr
      simp only [hpS, Nat.add_zero] at f0 f1 f2 f3 f4 f5
      have hsucc : t.take (k + 1) = t.take k ++ [(⟨x0, x1, x2, x3, x4, x5⟩, (sa, sn, sc))] := by
        rw [List.take_succ_eq_append_getElem hlt, ← hx, List.getD_eq_getElem?_getD, List.getElem?_eq_getElem hlt]
        rfl
      have HSU := Lib.hid hsucc
      have g0 : (0 : Int) ≤ (k : Int) := by omega
      have g1 : (k : Int) < (t.length : Int) := by omega
      have hnw : n₀ ≤ wr.heap.size := by have := hWr.size; omega
      clear e1 e2 hx hsucc
      obtain ⟨fnn, tmps, assign, body, hy, hR⟩ := HY.out (t.take k) (⟨x0, x1, x2, x3, x4, x5⟩, (sa, sn, sc)) (wr.alloc (.cells #[.int .i64 x0, .int .i64 x1, .int .i64 x2, .slice sa sn sc, .int .i64 x4, .int .i64 x5] 100 (0, 0))) (abides_allocH HJA.out HJS.out _) (by rw [List.length_take]; omega)
      simp only [encH, hpS] at hy
      gi_wp2
      refine hR.mono ?_
      rintro e W3 (⟨rfl, hJ3, hk3⟩ | ⟨rfl, hJx3⟩)
      · have HJ3 := Lib.hid hJ3
        clear hJ3
        gi_wp2
        go_roundw
        case rel => exact ⟨k + 1, by omega, by go_num, by rw [HSU.out]; exact HJ3.out, (hnx.alloc hnw _).trans hk3⟩
        case measure => simp [intOf]; omega
      · gi_wp2
        refine bodyPost_ret (results_none rfl _ _ _) rfl ?_
        exact ⟨⟨_, rfl⟩, .inr ⟨_, trivial, hJx3⟩⟩
    · have hkt : k = t.length := by omega
      have HK := Lib.hid hkt
      have gn : ¬ (k : Int) < (t.length : Int) := by omega
      clear hkt
      gi_wp2
      go_end0
      exact ⟨⟨_, rfl⟩, .inl (by have := HJS.out; rw [HK.out, List.take_length] at this; first | exact this | exact ⟨_, rfl, this⟩)⟩

theorem valuesH_stops (n : Nat) (hn : 1 ≤ n) (Bs : Nat) (v : Value) (t : List Hp) (w w0 : World) (hr : HC w0 v t) (hw0w : Below w0.heap.size w0 w) (hcs : w.cell? ⟨Bs, 0, none⟩ = some v) :
    SeqStopsK Fence.wide n Try.prog 157 #[.pointer (some ⟨Bs, 0, none⟩)] encH (Below w0.heap.size) (fun ys => ys = t) (fun _ => True) t.length w := fun l J Jx W hW hJ _ hY h0 =>
  values1_in n hn l Bs w0.heap.size v t J Jx w0 W hr (hw0w.trans (hW.mono hw0w.size)) rfl hJ hY (cell_kept hcs hW) h0

theorem valuesH_any (a : Option Addr) (m c : Nat) (w : World) :
    Calls Try.prog 115 #[.slice a m c] w fun e w' => e = .returned (.func (.func 157) #[] #[.pointer (some ⟨w.heap.size, 0, none⟩)]) ∧
      w' = w.alloc (.cells #[.slice a m c] 25 (0, 0)) := by
  go_enter Try.func115, Try.ntmps115
  go_wp2
  go_ret
  exact ⟨rfl, rfl⟩

/-- A box of six cells: a hold's variable. -/
def Box6 (W : World) (B : Nat) (x : Hp) : Prop := W.heap[B]? = some (.cells (hpC x).toArray 100 (0, 0))
theorem Box6.lt {W : World} {B : Nat} {f : Hp} (h : Box6 W B f) : B < W.heap.size := (Array.getElem?_eq_some_iff.1 h).1
theorem Box6.kept {W W' : World} {row : Option Nat} {B : Nat} {f : Hp} (h : Box6 W B f) (hg : W.grownBy W' row) (hne : some B ≠ row) : Box6 W' B f := (hg.block B h.lt hne).trans h
def litC (x : Hp) : List Value := hpC x
theorem cell_sixH (W : World) (x : Hp) : ∀ j u, (hpC x)[j]? = some u → (W.alloc (.cells (hpC x).toArray 100 (0, 0))).cell? ((⟨W.heap.size, 0, none⟩ : Addr).add j) = some u := fun j u hj => by
  rw [Addr.add_lit, blk_cell (heap_alloc_new _ _)]
  simpa using hj

def ColH (t : List Hp) (w : World) (e : Ending) (w' : World) : Prop := ∃ v, e = .returned v ∧ w'.ownsRow w.heap.size 100 6 v t.length ((t.map hpC).flatten) ∧ Below w.heap.size w w'

set_option maxRecDepth 100000 in
set_option maxHeartbeats 4000000 in
theorem appendSeqH_in (n : Nat) (hn : 3 ≤ n) (Bs : Nat) (v : Value) (t : List Hp) (w : World) (hr : HC w v t) (hl : t.length ≤ 1048576) (hcs : w.cell? ⟨Bs, 0, none⟩ = some v) :
    CallsIn Fence.wide n Try.prog 178 #[.slice none 0 0, .func (.func 157) #[] #[.pointer (some ⟨Bs, 0, none⟩)]] w (ColH t w) := by
  have h1 : 1 ≤ n := by omega
  obtain ⟨i0, hi, hz0, hz1, hz2⟩ := info_parts Try.info_ho
  refine callsIn_of_wp_marks Try.func178 rfl trivial ?_ rfl
  simp only [Try.ntmps178, List.size_toArray, List.length_cons, List.length_nil, Nat.reduceAdd, Nat.reduceSub, Array.replicate_succ, Array.replicate_zero, List.push_toArray, List.append_toArray, List.nil_append, List.cons_append]
  gi_wp2
  have bO := Boxed.new w 25 (.slice none 0 0)
  have hB0 : Below w.heap.size w (w.alloc (.cells #[.slice none 0 0] 25)) := (Below.refl _ w).alloc (Nat.le_refl _) _
  refine wpIn_rangeFunc_ownH rfl h1 (gf := 157) (lb := #[.pointer (some ⟨Bs, 0, none⟩)]) rfl trivial (enters_of Try.func157 (by kernel_rfl) rfl)
    (valuesH_stops (n - 1) (by omega) Bs v t _ w hr hB0 (cell_kept hcs hB0)) belowK_t (belowK_b (by simp)) (Below.refl _ _) (fun _ => rfl)
    (fun pre W => (∃ v, Boxed W w.heap.size 25 v ∧ W.ownsRow w.heap.size 100 6 v pre.length ((pre.map hpC).flatten) ∧ True) ∧ Below w.heap.size w W)
    (fun _ _ _ => False)
    (OwnFrom.and (Own.from (holdsRow_own w.heap.size w.heap.size 25 100 6 (fun pre : List Hp => pre.length) (fun pre => (pre.map hpC).flatten) (fun _ _ => True)) _) (ownFrom_below (Nat.le_refl _) (by simp)))
    (fun _ _ _ _ _ hs _ _ => hs)
    ⟨⟨_, bO, World.ownsRow_nil _ _ _ _, trivial⟩, hB0⟩
    (fun x a' W => ∃ Bx, w.heap.size < Bx ∧ Box6 W Bx x ∧ a' = { tmps := #[.slice none 0 0, .func (.func 157) #[] #[.pointer (some ⟨Bs, 0, none⟩)], .pointer (some ⟨w.heap.size, 0, none⟩), undef, .slice none 0 0, .pointer (some ⟨Bx, 0, none⟩), .func (.func 157) #[] #[.pointer (some ⟨Bs, 0, none⟩)], .agg (hpC x).toArray, undef, undef, undef, undef, undef], defers := [] })
    (fun y a' _ X Y row hs hg hr => by
      obtain ⟨Bx, h1, h4, h5⟩ := hs
      refine ⟨Bx, h1, h4.kept hg (fun e => ?_), h5⟩
      obtain ⟨_, o, ho, hc⟩ := hr Bx e.symm
      rw [show X.heap[Bx]? = _ from h4] at ho
      cases ho
      cases hc)
    ?assign ?body ?done ?stop
  case assign =>
    rintro l pre ⟨⟨x0, x1, x2, x3, x4, x5⟩, ⟨sa, sn, sc⟩⟩ W K ⟨⟨v, hv, hrow, _⟩, hB⟩ hK
    simp only [encH, hpS, hpC] at hK ⊢
    gi_wp2
    exact hK _ _ ((KeepsOthers.alloc _ _).from _) ((Below.refl _ W).alloc hB.size _) ⟨⟨v, hv.alloc _, hrow.alloc _, trivial⟩, hB.alloc hB.size _⟩ ⟨W.heap.size, hv.lt, heap_alloc_new _ _, rfl⟩
  case body =>
    rintro l pre ⟨⟨x0, x1, x2, x3, x4, x5⟩, ⟨sa, sn, sc⟩⟩ a' W hl' hr' ⟨⟨v, hv, hrow, _⟩, hB⟩ ⟨Bx, hBx, b3, rfl⟩ hlt
    have hc := hv.cell
    have hBsz := hB.size
    unfold Box6 at b3
    simp only [hpC, hpS] at b3 ⊢
    have k0 := box_cell b3 0 rfl
    have k1 := box_cell b3 1 rfl
    have k2 := box_cell b3 2 rfl
    have k3 := box_cell b3 3 rfl
    have k4 := box_cell b3 4 rfl
    have k5 := box_cell b3 5 rfl
    have hl6 : [(.int .i64 x0 : Value), .int .i64 x1, .int .i64 x2, .slice sa sn sc, .int .i64 x4, .int .i64 x5].length = 1 * 6 := rfl
    gi_wp2_with (gi_at_builtin; refine wpListIn_append_own _ rfl _ _ 25 rfl w.heap.size 100 i0 _ 6 64 Try.underlying25 hi hz0 hz1 hz2 rfl (by decide) _ _ _ rfl (hrow.alloc _) ⟨W.heap.size, 0, none⟩ 1 1 [.int .i64 x0, .int .i64 x1, .int .i64 x2, .slice sa sn sc, .int .i64 x4, .int .i64 x5] rfl hl6 (cell_sixH W (⟨x0, x1, x2, x3, x4, x5⟩, (sa, sn, sc))) (by simp [Value.oneCell']) (by unfold maxLen; omega) (by omega) (by simp; omega) ?_; intro v' w1 hown' hgrow _; obtain ⟨g', cap', rfl⟩ := ownsRow_succ hown'; obtain ⟨hv1, hv2, hr2, hk2, hb2⟩ := hv.appended (by decide) hrow hB.size (Nat.le_refl _) hown' hgrow; have hc1 := hv1.cell; have hf1 := hv1.frozen)
    exact ⟨hk2.from _, hb2, ⟨_, hv2, by simpa [hpC, hpS] using hr2, trivial⟩, hB.trans hb2⟩
  case done =>
    rintro D ys W hD rfl ⟨⟨v, hv, hrow, _⟩, hB⟩ hK
    have hc := hv.cell
    gi_wp2
    refine ⟨by simp, .inl ⟨_, _, rfl, run_takeDeferred hK, ?_⟩⟩
    exact ⟨_, results_tmp rfl _ _ _, v, rfl, ownsRow_putObj hrow _ hK rfl, hB.trans (belowK_b (w := w) (Nat.le_refl _) W D _ _ (by simp at hD; omega) hK rfl rfl)⟩
  case stop =>
    rintro D c pre W _ _ h _
    exact h.elim

set_option maxRecDepth 100000 in
set_option maxHeartbeats 1000000 in
theorem collectH_any (Bs : Nat) (v : Value) (t : List Hp) (w : World) (hr : HC w v t) (hl : t.length ≤ 1048576) (hcs : w.cell? ⟨Bs, 0, none⟩ = some v) :
    Calls Try.prog 155 #[.func (.func 157) #[] #[.pointer (some ⟨Bs, 0, none⟩)]] w (ColH t w) := by
  have hcon := callsIn_wide.1 (appendSeqH_in 6 (by omega) Bs v t w hr hl hcs)
  have HCON := Lib.hid hcon
  clear hcon
  go_enter Try.func155, Try.ntmps155
  go_wp2_with fail
  refine HCON.out.mono ?_
  rintro e w' ⟨v, rfl, hrow, hb⟩
  go_wp2_with fail
  go_ret
  exact ⟨v, rfl, hrow, hb⟩
end Go.Proofs.Ytkjpehpodlpdhaa
