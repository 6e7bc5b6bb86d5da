/- slices.Backward at versions: the iterator's word, by the cells of the list. -/
import Derived.RangeFuncNested
import Derived.RangeFuncBox
import Derived.RangeFuncLeaves
import Derived.Shelf.Abstract
import Derived.WalkKit
import Derived.OwnWalkIn
import Derived.TacticsInMore
import Derived.LoopNIn
import Derived.LoopIn
import Derived.Maps.AppendAt
import Derived.Sort.QuietIn
import Derived.Test.YtmjeaciacgeioaaTyVe
import Derived.Test.YtmjeaciacgeioaaCells
import Derived.Test.YtmjeaciacgeioaaIsRec
namespace Go.Proofs.Ytmjeaciacgeioaa
set_option linter.unusedVariables false
open Go.RowKit Go.Shelf Go.Sort

attribute [local go_sem] Oper.semAt_some

/-- A list of versions by its cells. -/
abbrev Vc := Int × (Option Addr × Nat × Nat)
def vD : Vc := (0, (none, 0, 0))
def vS (x : Option Addr × Nat × Nat) : Value := .slice x.1 x.2.1 x.2.2
def slc : Option Value → Option Addr × Nat × Nat
  | some (.slice a n c) => (a, n, c)
  | _ => (none, 0, 0)
def VC (w : World) (v : Value) (es : List Vc) : Prop := ∃ a cap, v = .slice a es.length cap ∧ es.length ≤ cap ∧ cap ≤ maxLen ∧
    (es = [] ∨ ∃ b off, b < w.heap.size ∧ a = some ⟨b, off, none⟩ ∧ ∀ i, i < es.length → w.cell? ⟨b, off + i * 2, none⟩ = some (.int .i64 (es.getD i vD).1) ∧ w.cell? ⟨b, off + i * 2 + 1, none⟩ = some (vS (es.getD i vD).2))
theorem RowR.vcells {w : World} {v : Value} {t : List Ve} (h : RowR 2 rVe w v t) : ∃ es, es.length = t.length ∧ (∀ i, i < t.length → (es.getD i vD).1 = (t.getD i veD).frm) ∧ VC w v es := by
  obtain ⟨a, c, rfl, h1, h2, h3⟩ := h.ves
  rcases h3 with rfl | ⟨b, off, hb, rfl, hc⟩
  · exact ⟨[], rfl, fun i hi => absurd hi (Nat.not_lt_zero _), a, c, rfl, h1, h2, .inl rfl⟩
  · have key : ∀ i, i < t.length → (((List.range t.length).map (fun i => ((t.getD i veD).frm, slc (w.cell? ⟨b, off + i * 2 + 1, none⟩)))).getD i vD) = ((t.getD i veD).frm, slc (w.cell? ⟨b, off + i * 2 + 1, none⟩)) := fun i hi => by
      rw [List.getD_eq_getElem?_getD, List.getElem?_map, List.getElem?_range hi]; rfl
    refine ⟨(List.range t.length).map (fun i => ((t.getD i veD).frm, slc (w.cell? ⟨b, off + i * 2 + 1, none⟩))), by simp, fun i hi => by rw [key i hi], ?_⟩
    refine ⟨_, c, by simp, by simpa using h1, h2, .inr ⟨b, off, hb, rfl, fun i hi => ?_⟩⟩
    have hi2 : i < t.length := by simpa using hi
    obtain ⟨s, e0, e1, hr, _⟩ := hc i hi2
    obtain ⟨sa, sc, rfl, _⟩ := hr
    rw [key i hi2]
    exact ⟨e0, by rw [e1]; rfl⟩

/-- What has come when k rounds are over. -/
def bwdV (t : List Vc) (k : Nat) : List (Int × Vc) := (List.range k).map (fun (j : Nat) => ((t.length : Int) - 1 - (j : Int), t.getD (t.length - 1 - j) vD))
theorem bwdV_succ (t : List Vc) (k : Nat) : bwdV t (k + 1) = bwdV t k ++ [((t.length : Int) - 1 - (k : Int), t.getD (t.length - 1 - k) vD)] := by simp [bwdV, List.range_succ]
theorem bwdV_len (t : List Vc) (k : Nat) : (bwdV t k).length = k := by simp [bwdV]
def encBV (x : Int × Vc) : Array Value := #[.int .i64 x.1, .agg #[.int .i64 x.2.1, vS x.2.2]]

/-- What a round must keep: all that lay below n₀, and the box Bs. -/
def KpBV (n₀ Bs : Nat) (W W' : World) : Prop := Below n₀ W W' ∧ (Bs < W.heap.size → W'.heap[Bs]? = W.heap[Bs]?)
theorem kpBV_refl (n₀ Bs : Nat) (W : World) : KpBV n₀ Bs W W := ⟨Below.refl _ _, fun _ => rfl⟩
theorem kpBV_t {n₀ Bs : Nat} {A B C : World} (h : KpBV n₀ Bs A B) (k : KpBV n₀ Bs B C) : KpBV n₀ Bs A C := ⟨h.1.trans k.1, fun hb => (k.2 (Nat.lt_of_lt_of_le hb h.1.size)).trans (h.2 hb)⟩
theorem kpBV_b {n₀ Bs : Nat} {w : World} (hn : n₀ ≤ w.heap.size) (hBs : Bs < w.heap.size) (W : World) (l : Nat) (o o' : Obj) (hl : w.heap.size ≤ l) (h : W.heap[l]? = some o) (h1 : o.isCells = false) (h2 : o.isWalk = false) : KpBV n₀ Bs W (W.putObj l o') :=
  ⟨belowK_b hn W l o o' hl h h1 h2, fun _ => World.putObj_heap_other (by omega)⟩

set_option maxRecDepth 100000 in
set_option maxHeartbeats 2000000 in
theorem back1V_in (n : Nat) (hn : 1 ≤ n) (l Bs n₀ : Nat) (v : Value) (t : List Vc) (J Jx : List (Int × Vc) → World → Prop) (w W : World) (hr : VC w v t) (hwW : Below w.heap.size w W) (hn₀ : n₀ = w.heap.size)
    (hJ : AbidesFrom W.heap.size J)
    (hY : ∀ pre x W, J pre W → pre.length < t.length → YieldAt Fence.wide (n - 1) Try.prog l (encBV x) W fun e W' =>
      (e = .returned (.bool true) ∧ J (pre ++ [x]) W' ∧ KpBV n₀ Bs W W') ∨ (e = .returned (.bool false) ∧ Jx (pre ++ [x]) W'))
    (hcs : Boxed W Bs 24 v) (h0 : J [] W) :
    CallsIn Fence.wide n Try.prog 101 #[.func (.yield l) #[] #[], .pointer (some ⟨Bs, 0, none⟩)] W fun e W' => (∃ v, e = .returned v) ∧
      ((∃ ys, ys = bwdV t t.length ∧ J ys W') ∨ (∃ pre k, (k < t.length ∧ pre = bwdV t (k + 1)) ∧ Jx pre W')) := by
  refine callsIn_of_wp Try.func101 rfl trivial ?_ rfl
  simp only [Try.ntmps101, List.size_toArray, List.length_cons, List.length_nil, Nat.reduceAdd, Nat.reduceSub, Array.replicate_succ, Array.replicate_zero, List.push_toArray, List.append_toArray, List.nil_append, List.cons_append]
  obtain ⟨a1, c1, hv, hl1, hm1, r1⟩ := hr
  have hcap : t.length ≤ maxLen := Nat.le_trans hl1 hm1
  subst hv
  have R1 := Lib.hid r1
  have HY := Lib.hid hY
  have HJA := Lib.hid hJ
  clear hY hJ r1
  unfold maxLen at hm1 hcap
  have hcs0 := hcs.cell
  gi_wp2
  gi_loopw [3] (fun i wr => ∃ k : Nat, k ≤ t.length ∧ i = .int .i64 ((t.length : Int) - 1 - k) ∧ J (bwdV t k) wr ∧ KpBV n₀ Bs W wr)
    (fun i _ => (intOf i + 1).toNat)
  case atStart => exact ⟨0, Nat.zero_le _, by simp, h0, kpBV_refl _ _ _⟩
  case round =>
    obtain ⟨k, hk, rfl, hJs, hnx⟩ := hrel
    have hc1 := Boxed.cell (show Boxed wr Bs 24 _ from (hnx.2 hcs.lt).trans hcs)
    have HJS := Lib.hid hJs
    clear hJs
    by_cases hlt : k < t.length
    · obtain ⟨b1, o1, hb1, rfl, e1⟩ := R1.out.resolve_left (fun e => by rw [e] at hlt; simp at hlt)
      obtain ⟨j, hj⟩ : ∃ j, j = t.length - 1 - k := ⟨_, rfl⟩
      have hjl : j < t.length := by omega
      have hjz : (t.length : Int) - 1 - k = (j : Int) := by omega
      have hsucc := bwdV_succ t k
      rw [← hj, hjz] at hsucc
      obtain ⟨⟨fi, fa, fn, fc⟩, hx⟩ : ∃ s, t.getD j vD = s := ⟨_, rfl⟩
      obtain ⟨q0, q1⟩ := e1 j hjl
      rw [hx] at q0 q1 hsucc
      simp only [vS] at q0 q1
      have hWr : Below w.heap.size w wr := hwW.trans (by rw [← hn₀]; exact hnx.1)
      have f0 := cell_kept q0 hWr
      have f1 := cell_kept q1 hWr
      have HSU := Lib.hid hsucc
      have g0 : (0 : Int) ≤ (j : Int) := by omega
      have g1 : (j : Int) < (t.length : Int) := by omega
      have HJJ := Lib.hid hj
      clear q0 q1 e1 hx hsucc hj hlt
      obtain ⟨fnn, tmps, assign, body, hy, hR⟩ := HY.out (bwdV t k) ((j : Int), (fi, fa, fn, fc)) wr HJS.out (by rw [bwdV_len]; have := HJJ.out; omega)
      simp only [encBV, vS] at hy
      gi_wp2
      refine hR.mono ?_
      rintro e W3 (⟨rfl, hJ3, hk3⟩ | ⟨rfl, hJx3⟩)
      · have HJ3 := Lib.hid hJ3
        clear hJ3
        gi_wp2
        go_roundw
        case rel => exact ⟨k + 1, by have := HJJ.out; omega, congrArg _ (by have := HJJ.out; omega), by rw [HSU.out]; exact HJ3.out, kpBV_t hnx hk3⟩
        case measure => have := HJJ.out; simp [intOf]; omega
      · gi_wp2
        refine bodyPost_ret (results_none rfl _ _ _) rfl ?_
        exact ⟨⟨_, rfl⟩, .inr ⟨_, k, ⟨by have := HJJ.out; omega, HSU.out.symm⟩, hJx3⟩⟩
    · have hkt : k = t.length := by omega
      have HK := Lib.hid hkt
      have hneg : (t.length : Int) - 1 - k = -1 := by omega
      clear hkt
      gi_wp2
      go_end0
      exact ⟨⟨_, rfl⟩, .inl ⟨_, rfl, by have := HJS.out; rw [HK.out] at this; exact this⟩⟩

theorem backV_stops (n : Nat) (hn : 1 ≤ n) (Bs : Nat) (v : Value) (t : List Vc) (w w0 : World) (hr : VC w0 v t) (hw0w : Below w0.heap.size w0 w) (hBs0 : w0.heap.size ≤ Bs)
    (hcs : Boxed w Bs 24 v) :
    SeqStopsK Fence.wide n Try.prog 101 #[.pointer (some ⟨Bs, 0, none⟩)] encBV (KpBV w0.heap.size Bs) (fun ys => ys = bwdV t t.length) (fun pre => ∃ k, k < t.length ∧ pre = bwdV t (k + 1)) t.length w := fun l J Jx W hW hJ _ hY h0 =>
  (back1V_in n hn l Bs w0.heap.size v t J Jx w0 W hr (hw0w.trans (hW.mono hw0w.size)) rfl hJ hY ((hW.block Bs hcs.lt).trans hcs) h0).mono (fun e W' h => ⟨h.1, h.2.imp id (fun ⟨pre, k, h1, h2⟩ => ⟨pre, ⟨k, h1⟩, h2⟩)⟩)
end Go.Proofs.Ytmjeaciacgeioaa
