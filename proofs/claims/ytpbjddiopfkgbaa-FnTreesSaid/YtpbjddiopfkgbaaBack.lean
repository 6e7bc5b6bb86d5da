/- slices.Backward at functions: the iterator's word, and the program's fold over it. -/
import Derived.RangeFuncNested
import Derived.RangeFuncBox
import Derived.RangeFuncLeaves
import Derived.Shelf.Abstract
import Derived.WalkKit
import Derived.OwnWalkIn
import Derived.TacticsInMore
import Derived.LoopNIn
import Derived.LoopIn
import Derived.Maps.AppendAt
import Derived.Sort.QuietIn
import Derived.Test.YtpbjddiopfkgbaaRevFn
import Derived.Test.YtpbjddiopfkgbaaPlace
namespace Go.Proofs.Ytpbjddiopfkgbaa
set_option linter.unusedVariables false
open Go.RowKit Go.Shelf Go.Sort

attribute [local go_sem] Oper.semAt_some

/-- What has come when k rounds are over. -/
def bwd (t : List Fn) (k : Nat) : List (Int × Fn) := (List.range k).map (fun (j : Nat) => ((t.length : Int) - 1 - (j : Int), t.getD (t.length - 1 - j) fnD))
theorem bwd_succ (t : List Fn) (k : Nat) : bwd t (k + 1) = bwd t k ++ [((t.length : Int) - 1 - (k : Int), t.getD (t.length - 1 - k) fnD)] := by simp [bwd, List.range_succ]
theorem bwd_len (t : List Fn) (k : Nat) : (bwd t k).length = k := by simp [bwd]
def encB (x : Int × Fn) : Array Value := #[.int .i64 x.1, .agg #[.int .i64 x.2.id, .int .i64 x.2.parent, .string x.2.name]]

/-- The program's step: the line so far, and whom it looks for. -/
def stepL (s : List Fn × Int) (x : Int × Fn) : List Fn × Int := if x.2.id = s.2 then (s.1 ++ [x.2], x.2.parent) else s
def foldL (x : Int) (pre : List (Int × Fn)) : List Fn × Int := pre.foldl stepL ([], x)
theorem foldL_nil (x : Int) : foldL x [] = ([], x) := rfl
theorem foldL_snoc (x : Int) (pre : List (Int × Fn)) (y : Int × Fn) : foldL x (pre ++ [y]) = stepL (foldL x pre) y := by simp [foldL, List.foldl_append]
theorem foldL_len (x : Int) (pre : List (Int × Fn)) : (foldL x pre).1.length ≤ pre.length := by
  induction pre using snoc_ind with
  | h0 => simp [foldL_nil]
  | h1 l a ih =>
    rw [foldL_snoc, List.length_append]
    unfold stepL
    split
    · simp; exact ih
    · simp; omega
/-- What the fold over the whole tree gives. -/
theorem foldL_inv {t : List Fn} (h : isTree t = true) {x : Int} (hx : hasF t x = true) : ∀ k, k ≤ t.length → lineF t (foldL x (bwd t k)).2 ++ (foldL x (bwd t k)).1.reverse = lineF t x ∧ ((foldL x (bwd t k)).2 = 0 ∨ ∃ j, j < t.length - k ∧ (t.getD j fnD).id = (foldL x (bwd t k)).2)
  | 0, _ => by
    have hl : placeF t x < t.length := of_decide_eq_true hx
    refine ⟨by simp [bwd, foldL_nil], .inr ⟨placeF t x, by omega, by simpa [bwd, foldL_nil] using placeF_id hx⟩⟩
  | k + 1, hk => by
    obtain ⟨h1, h2⟩ := foldL_inv h hx k (by omega)
    have hj : t.length - 1 - k < t.length := by omega
    have hid := (isFn_iff.1 (tree_fn h hj)).1
    rw [bwd_succ, foldL_snoc]
    obtain ⟨L, cur, hLc⟩ : ∃ L cur, foldL x (bwd t k) = (L, cur) := ⟨_, _, rfl⟩
    rw [hLc] at h1 h2 ⊢
    unfold stepL
    simp only at h1 h2 ⊢
    by_cases he : (t.getD (t.length - 1 - k) fnD).id = cur
    · rw [if_pos he]
      have hhas : hasF t cur = true := by rw [← he]; exact tree_has hj
      have hpl : placeF t cur = t.length - 1 - k := by rw [← he]; exact tree_place h hj
      have hpar : parF t cur = (t.getD (t.length - 1 - k) fnD).parent := by unfold parF; rw [hpl]
      refine ⟨?_, ?_⟩
      · simp only [List.reverse_append, List.reverse_cons, List.reverse_nil, List.nil_append, List.singleton_append]
        rw [← h1, lineF_step h hhas, hpar, hpl]
        simp
      · refine (par_before h hj).imp id fun ⟨j, hj2, e⟩ => ⟨j, by omega, e⟩
    · rw [if_neg he]
      refine ⟨h1, h2.imp id fun ⟨j, hj2, e⟩ => ⟨j, ?_, e⟩⟩
      rcases Nat.lt_or_ge j (t.length - 1 - k) with h' | h'
      · omega
      · obtain rfl : j = t.length - 1 - k := by omega
        exact absurd e he
theorem foldL_none {t : List Fn} {x : Int} (hx : hasF t x = false) : ∀ k, k ≤ t.length → foldL x (bwd t k) = ([], x)
  | 0, _ => by simp [bwd, foldL_nil]
  | k + 1, hk => by
    rw [bwd_succ, foldL_snoc, foldL_none hx k (by omega)]
    unfold stepL
    rw [if_neg]
    intro e
    simp only at e
    have : hasF t x = true := by rw [← e]; exact tree_has (by omega)
    rw [hx] at this
    cases this
theorem foldL_all {t : List Fn} (h : isTree t = true) (x : Int) : (foldL x (bwd t t.length)).1.reverse = (if hasF t x = true then lineF t x else []) := by
  rcases hb : hasF t x with _ | _
  · rw [foldL_none hb _ (Nat.le_refl _)]; rfl
  · obtain ⟨h1, h2⟩ := foldL_inv h hb t.length (Nat.le_refl _)
    have h0 : (foldL x (bwd t t.length)).2 = 0 := h2.resolve_right (fun ⟨j, hj, _⟩ => by omega)
    rw [h0, lineF_zero] at h1
    simpa using h1

/-- What a round must keep: all that lay below n₀, and the box Bs. -/
def KpB (n₀ Bs : Nat) (W W' : World) : Prop := Below n₀ W W' ∧ (Bs < W.heap.size → W'.heap[Bs]? = W.heap[Bs]?)
theorem kpB_refl (n₀ Bs : Nat) (W : World) : KpB n₀ Bs W W := ⟨Below.refl _ _, fun _ => rfl⟩
theorem kpB_t {n₀ Bs : Nat} {A B C : World} (h : KpB n₀ Bs A B) (k : KpB n₀ Bs B C) : KpB n₀ Bs A C := ⟨h.1.trans k.1, fun hb => (k.2 (Nat.lt_of_lt_of_le hb h.1.size)).trans (h.2 hb)⟩
theorem kpB_b {n₀ Bs : Nat} {w : World} (hn : n₀ ≤ w.heap.size) (hBs : Bs < w.heap.size) (W : World) (l : Nat) (o o' : Obj) (hl : w.heap.size ≤ l) (h : W.heap[l]? = some o) (h1 : o.isCells = false) (h2 : o.isWalk = false) : KpB n₀ Bs W (W.putObj l o') :=
  ⟨belowK_b hn W l o o' hl h h1 h2, fun _ => World.putObj_heap_other (by omega)⟩

set_option maxRecDepth 100000 in
set_option maxHeartbeats 2000000 in
theorem back1_in (n : Nat) (hn : 1 ≤ n) (l Bs n₀ : Nat) (v : Value) (t : List Fn) (J Jx : List (Int × Fn) → World → Prop) (w W : World) (hr : RowR 3 rFn w v t) (hwW : Below w.heap.size w W) (hn₀ : n₀ = w.heap.size)
    (hJ : AbidesFrom W.heap.size J)
    (hY : ∀ pre x W, J pre W → pre.length < t.length → YieldAt Fence.wide (n - 1) Try.prog l (encB x) W fun e W' =>
      (e = .returned (.bool true) ∧ J (pre ++ [x]) W' ∧ KpB n₀ Bs W W') ∨ (e = .returned (.bool false) ∧ Jx (pre ++ [x]) W'))
    (hcs : Boxed W Bs 24 v) (h0 : J [] W) :
    CallsIn Fence.wide n Try.prog 98 #[.func (.yield l) #[] #[], .pointer (some ⟨Bs, 0, none⟩)] W fun e W' => (∃ v, e = .returned v) ∧
      ((∃ ys, ys = bwd t t.length ∧ J ys W') ∨ (∃ pre, True ∧ Jx pre W')) := by
  refine callsIn_of_wp Try.func98 rfl trivial ?_ rfl
  simp only [Try.ntmps98, List.size_toArray, List.length_cons, List.length_nil, Nat.reduceAdd, Nat.reduceSub, Array.replicate_succ, Array.replicate_zero, List.push_toArray, List.append_toArray, List.nil_append, List.cons_append]
  have hcap := hr.cap
  obtain ⟨a1, c1, hv, hl1, hm1, r1⟩ := hr.fns
  subst hv
  have R1 := Lib.hid r1
  have HY := Lib.hid hY
  have HJA := Lib.hid hJ
  clear hY hJ r1 hr
  unfold maxLen at hm1
  have hcs0 := hcs.cell
  gi_wp2
  gi_loopw [3] (fun i wr => ∃ k : Nat, k ≤ t.length ∧ i = .int .i64 ((t.length : Int) - 1 - k) ∧ J (bwd t k) wr ∧ KpB n₀ Bs W wr)
    (fun i _ => (intOf i + 1).toNat)
  case atStart => exact ⟨0, Nat.zero_le _, by simp, h0, kpB_refl _ _ _⟩
  case round =>
    obtain ⟨k, hk, rfl, hJs, hnx⟩ := hrel
    have hc1 := Boxed.cell (show Boxed wr Bs 24 _ from (hnx.2 hcs.lt).trans hcs)
    have HJS := Lib.hid hJs
    clear hJs
    by_cases hlt : k < t.length
    · obtain ⟨b1, o1, hb1, rfl, e1⟩ := R1.out.resolve_left (fun e => by rw [e] at hlt; simp at hlt)
      obtain ⟨j, hj⟩ : ∃ j, j = t.length - 1 - k := ⟨_, rfl⟩
      have hjl : j < t.length := by omega
      have hjz : (t.length : Int) - 1 - k = (j : Int) := by omega
      have hsucc := bwd_succ t k
      rw [← hj, hjz] at hsucc
      obtain ⟨⟨fi, fp, fs⟩, hx⟩ : ∃ s, t.getD j fnD = s := ⟨_, rfl⟩
      obtain ⟨q0, q1, q2, _⟩ := e1 j hjl
      rw [hx] at q0 q1 q2 hsucc
      simp only at q0 q1 q2
      have hWr : Below w.heap.size w wr := hwW.trans (by rw [← hn₀]; exact hnx.1)
      have f0 := cell_kept q0 hWr
      have f1 := cell_kept q1 hWr
      have f2 := cell_kept q2 hWr
      have HSU := Lib.hid hsucc
      have g0 : (0 : Int) ≤ (j : Int) := by omega
      have g1 : (j : Int) < (t.length : Int) := by omega
      have HJJ := Lib.hid hj
      clear q0 q1 q2 e1 hx hsucc hj hlt
      obtain ⟨fn, tmps, assign, body, hy, hR⟩ := HY.out (bwd t k) ((j : Int), ⟨fi, fp, fs⟩) wr HJS.out (by rw [bwd_len]; have := HJJ.out; omega)
      simp only [encB] at hy
      gi_wp2
      refine hR.mono ?_
      rintro e W3 (⟨rfl, hJ3, hk3⟩ | ⟨rfl, hJx3⟩)
      · have HJ3 := Lib.hid hJ3
        clear hJ3
        gi_wp2
        go_roundw
        case rel => exact ⟨k + 1, by have := HJJ.out; omega, congrArg _ (by have := HJJ.out; omega), by rw [HSU.out]; exact HJ3.out, kpB_t hnx hk3⟩
        case measure => have := HJJ.out; simp [intOf]; omega
      · gi_wp2
        refine bodyPost_ret (results_none rfl _ _ _) rfl ?_
        exact ⟨⟨_, rfl⟩, .inr ⟨_, trivial, hJx3⟩⟩
    · have hkt : k = t.length := by omega
      have HK := Lib.hid hkt
      have hneg : (t.length : Int) - 1 - k = -1 := by omega
      clear hkt
      gi_wp2
      go_end0
      exact ⟨⟨_, rfl⟩, .inl ⟨_, rfl, by have := HJS.out; rw [HK.out] at this; exact this⟩⟩

theorem back_stops (n : Nat) (hn : 1 ≤ n) (Bs : Nat) (v : Value) (t : List Fn) (w w0 : World) (hr : RowR 3 rFn w0 v t) (hw0w : Below w0.heap.size w0 w) (hBs0 : w0.heap.size ≤ Bs)
    (hcs : Boxed w Bs 24 v) :
    SeqStopsK Fence.wide n Try.prog 98 #[.pointer (some ⟨Bs, 0, none⟩)] encB (KpB w0.heap.size Bs) (fun ys => ys = bwd t t.length) (fun _ => True) t.length w := fun l J Jx W hW hJ _ hY h0 =>
  back1_in n hn l Bs w0.heap.size v t J Jx w0 W hr (hw0w.trans (hW.mono hw0w.size)) rfl hJ hY ((hW.block Bs hcs.lt).trans hcs) h0
end Go.Proofs.Ytpbjddiopfkgbaa
