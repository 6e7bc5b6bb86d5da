/- The program's lineTo: the functions on the path of one. -/
import Derived.Test.YtpbjddiopfkgbaaBack
import Derived.Test.YtpbjddiopfkgbaaAddF
import Derived.OwnWalkIn
namespace Go.Proofs.Ytpbjddiopfkgbaa
set_option linter.unusedVariables false
open Go.RowKit Go.Shelf Go.Sort

attribute [local go_sem] Oper.semAt_some

/-- What lineTo answers. -/
def lineRes (t : List Fn) (x : Int) : List Fn × Bool := if isTree t = true ∧ hasF t x = true then (lineF t x, true) else ([], false)
/-- A function's box. -/
def Box3 (W : World) (B : Nat) (f : Fn) : Prop := W.heap[B]? = some (.cells #[.int .i64 f.id, .int .i64 f.parent, .string f.name] 36 (0, 0))
theorem Box3.lt {W : World} {B : Nat} {f : Fn} (h : Box3 W B f) : B < W.heap.size := (Array.getElem?_eq_some_iff.1 h).1
theorem Box3.kept {W W' : World} {row : Option Nat} {B : Nat} {f : Fn} (h : Box3 W B f) (hg : W.grownBy W' row) (hne : some B ≠ row) : Box3 W' B f := (hg.block B h.lt hne).trans h
theorem Box3.alloc {W : World} {B : Nat} {f : Fn} (h : Box3 W B f) (o : Obj) : Box3 (W.alloc o) B f := h.kept (World.grownBy_alloc W o none) (by simp)
theorem Box3.other {W : World} {B B' : Nat} {f : Fn} (h : Box3 W B f) (hne : B ≠ B') (u : Value) : Box3 (W.setCell ⟨B', 0, none⟩ u) B f := h.kept (grownBy_setCell' W B' u) (fun e => hne (by cases e; rfl))
theorem Box3.c0 {W : World} {B : Nat} {f : Fn} (h : Box3 W B f) : W.cell? ⟨B, 0, none⟩ = some (.int .i64 f.id) := blk_cell h 0
theorem Box3.c1 {W : World} {B : Nat} {f : Fn} (h : Box3 W B f) : W.cell? ⟨B, 1, none⟩ = some (.int .i64 f.parent) := blk_cell h 1
theorem Box3.c2 {W : World} {B : Nat} {f : Fn} (h : Box3 W B f) : W.cell? ⟨B, 2, none⟩ = some (.string f.name) := blk_cell h 2
theorem backward_in (n : Nat) (a : Option Addr) (m c : Nat) (w : World) :
    CallsIn Fence.wide n Try.prog 79 #[.slice a m c] w fun e w' => e = .returned (.func (.func 98) #[] #[.pointer (some ⟨w.heap.size, 0, none⟩)]) ∧
      w' = w.alloc (.cells #[.slice a m c] 24) := by
  refine callsIn_of_wp Try.func79 rfl trivial ?_ rfl
  simp only [Try.ntmps79, List.size_toArray, List.length_cons, List.length_nil, Nat.reduceAdd, Nat.reduceSub, Array.replicate_succ, Array.replicate_zero, List.push_toArray, List.append_toArray, List.nil_append, List.cons_append]
  gi_wp2
  go_ret
  exact ⟨rfl, rfl⟩

set_option maxRecDepth 100000 in
set_option maxHeartbeats 2000000 in
theorem lineTo_yes (n : Nat) (hn : 3 ≤ n) (a1 : Option Addr) (c1 : Nat) (t : List Fn) (x : Int) (w : World) (h : RowR 3 rFn w (.slice a1 t.length c1) t) (ht : isTree t = true) (xs : List Fn) (b : Bool) (hres : lineRes t x = (xs, b)) :
    CallsIn Fence.wide n Try.prog 46 #[.slice a1 t.length c1, .int .i64 x] w fun e w' => ∃ v', e = .returned (.tuple #[v', .bool b]) ∧ FnsO w.heap.size w'.heap.size w' v' xs ∧ Below w.heap.size w w' := by
  have h1 : 1 ≤ n := by omega
  have h15 := tree_len ht
  obtain ⟨i0, hi, hz0, hz1, hz2⟩ := info_parts Try.info_fn
  have H := Lib.hid h
  have HT := Lib.hid ht
  have hfT : Fence.wide.fn 23 := trivial
  have hfB : Fence.wide.fn 79 := trivial
  have hfR : Fence.wide.fn 80 := trivial
  clear h ht
  refine callsIn_of_wp_marks Try.func46 rfl trivial ?_ rfl
  simp only [Try.ntmps46, List.size_toArray, List.length_cons, List.length_nil, Nat.reduceAdd, Nat.reduceSub, Array.replicate_succ, Array.replicate_zero, List.push_toArray, List.append_toArray, List.nil_append, List.cons_append]
  gi_wp2_with (first | (gi_at_call 23; refine (callsIn_wide.2 (implIsTree_any _ t _ (H.out.below rFn_stable (below_al (Below.refl _ _) _)))).mono ?_; rw [HT.out]; rintro e w1 ⟨rfl, b1⟩) | (gi_at_call 79; refine (backward_in (n - 1) _ _ _ _).mono ?_; rintro e w2 ⟨rfl, rfl⟩))
  have hs1 := b1.size
  simp only [World.size_alloc] at hs1
  have bI1 : Boxed w1 w.heap.size 3 (.int .i64 x) := (b1.block w.heap.size (by simp)).trans (Boxed.new w 3 (.int .i64 x))
  have hB1 : Below w.heap.size w w1 := below_chain (below_al (Below.refl _ _) _) b1
  obtain ⟨W0, hW0⟩ : ∃ W0, (w1.alloc (.cells #[.slice none 0 0] 24)).alloc (.cells #[.slice a1 t.length c1] 24) = W0 := ⟨_, rfl⟩
  have bI : Boxed W0 w.heap.size 3 (.int .i64 x) := by rw [← hW0]; exact (bI1.alloc _).alloc _
  have bL : Boxed W0 w1.heap.size 24 (.slice none 0 0) := by rw [← hW0]; exact (Boxed.new w1 24 _).alloc _
  have bS : Boxed W0 (w1.heap.size + 1) 24 (.slice a1 t.length c1) := by
    rw [← hW0]
    have := Boxed.new (w1.alloc (.cells #[.slice none 0 0] 24)) 24 (.slice a1 t.length c1)
    simpa using this
  have hB0 : Below w.heap.size w W0 := by rw [← hW0]; exact below_al (below_al hB1 _) _
  have hsz : W0.heap.size = w1.heap.size + 2 := by rw [← hW0]; simp
  rw [hW0]
  clear hW0 b1 bI1 hB1
  refine wpIn_rangeFunc_ownH rfl h1 (gf := 98) (lb := #[.pointer (some ⟨w1.heap.size + 1, 0, none⟩)]) rfl trivial (enters_of Try.func98 (by kernel_rfl) rfl)
    (back_stops (n - 1) (by omega) (w1.heap.size + 1) _ t W0 w H.out hB0 (by omega) bS) kpB_t (kpB_b (by omega) (by omega)) (Below.refl _ _) (fun _ => rfl)
    (fun pre W => (((∃ v, Boxed W w1.heap.size 24 v ∧ W.ownsRow w.heap.size 36 3 v (foldL x pre).1.length (((foldL x pre).1.map fnC).flatten) ∧ True) ∧ Boxed W w.heap.size 3 (.int .i64 (foldL x pre).2)) ∧ Boxed W (w1.heap.size + 1) 24 (.slice a1 t.length c1)) ∧ Below w.heap.size w W)
    (fun _ _ _ => False)
    (OwnFrom.and (OwnFrom.and (OwnFrom.and (Own.from (holdsRow_own w.heap.size w1.heap.size 24 36 3 (fun pre : List (Int × Fn) => (foldL x pre).1.length) (fun pre => ((foldL x pre).1.map fnC).flatten) (fun _ _ => True)) _) (Own.from (boxed_own w.heap.size 3 (fun pre : List (Int × Fn) => Value.int .i64 (foldL x pre).2)) _)) (Own.from (boxed_own (w1.heap.size + 1) 24 (fun _ : List (Int × Fn) => Value.slice a1 t.length c1)) _)) (ownFrom_below (Nat.le_refl _) (by omega)))
    (fun _ _ _ _ _ hs _ _ => hs)
    ⟨⟨⟨⟨_, bL, World.ownsRow_nil _ _ _ _, trivial⟩, bI⟩, bS⟩, hB0⟩
    (fun y a' W => ∃ Bx v0, w1.heap.size < Bx ∧ Boxed W w1.heap.size 24 v0 ∧ v0.ownBlock ≠ some Bx ∧ Box3 W Bx y.2 ∧ a' = { tmps := #[.slice a1 t.length c1, .int .i64 x, undef, .pointer (some ⟨w.heap.size, 0, none⟩), .slice none 0 0, .bool false, .pointer (some ⟨w1.heap.size, 0, none⟩), undef, .pointer (some ⟨Bx, 0, none⟩), .slice a1 t.length c1, .bool true, .bool false, .slice a1 t.length c1, .func (.func 98) #[] #[.pointer (some ⟨w1.heap.size + 1, 0, none⟩)], .int .i64 y.1, .agg #[.int .i64 y.2.id, .int .i64 y.2.parent, .string y.2.name], undef, undef, undef, undef, undef, undef, undef, undef, undef, undef, undef, undef, undef, undef, undef, undef], defers := [] })
    (fun y a' _ X Y row hs hg hr => by
      obtain ⟨Bx, v0, h1, h2, h3, h4, h5⟩ := hs
      refine ⟨Bx, v0, h1, boxed_own _ 24 (fun (_ : Unit) => v0) () X Y row h2 hg (fun r e => (hr r e).2), h3, h4.kept hg (fun e => ?_), h5⟩
      obtain ⟨_, o, ho, hc⟩ := hr Bx e.symm
      rw [show X.heap[Bx]? = _ from h4] at ho
      cases ho
      cases hc)
    ?assign ?body ?done ?stop
  case assign =>
    rintro l pre ⟨yk, ⟨yi, yp, ys⟩⟩ W K ⟨⟨⟨⟨v, hv, hrow, _⟩, hi1⟩, hS1⟩, hB⟩ hK
    have hne : v.ownBlock ≠ some W.heap.size := fun h => by have := (hrow.lt _ h).2; omega
    simp only [encB]
    gi_wp2
    exact hK _ _ ((KeepsOthers.alloc _ _).from _) ⟨(Below.refl _ W).alloc hB.size _, fun hlt => Below.heap_alloc _ _ _ hlt⟩ ⟨⟨⟨⟨v, hv.alloc _, hrow.alloc _, trivial⟩, hi1.alloc _⟩, hS1.alloc _⟩, hB.alloc hB.size _⟩ ⟨W.heap.size, v, hv.lt, hv.alloc _, hne, heap_alloc_new _ _, rfl⟩
  case body =>
    rintro l pre ⟨yk, ⟨yi, yp, ys⟩⟩ a' W hl hr ⟨⟨⟨⟨v, hv, hrow, _⟩, hi1⟩, hS1⟩, hB⟩ ⟨Bx, v0, hBx, hv0, hne, b3, rfl⟩ hlt
    obtain rfl : v = v0 := by
      have e := (show W.heap[w1.heap.size]? = _ from hv).symm.trans hv0
      simpa using e
    have hfl := foldL_len x pre
    have hsn := foldL_snoc x pre (yk, ⟨yi, yp, ys⟩)
    obtain ⟨L, cur, hLc⟩ : ∃ L cur, foldL x pre = (L, cur) := ⟨_, _, rfl⟩
    rw [hLc] at hrow hi1 hfl hsn
    simp only at hrow hi1 hfl hsn
    unfold stepL at hsn
    simp only at hsn
    have hLn : L.length ≤ 15 := by omega
    have k0 := b3.c0
    have k1 := b3.c1
    have k2 := b3.c2
    have kL := hv.cell
    have kI := hi1.cell
    have fI := hi1.frozen
    have hsW := hB.size
    simp only at k0 k1 k2
    by_cases he : yi = cur
    · have hq : (yi == cur) = true := by simp [he]
      rw [if_pos he] at hsn
      have HSN := Lib.hid hsn
      have HLC := Lib.hid hLc
      clear he hsn hLc
      gi_wp2_with (gi_at_builtin; refine wpListIn_append_own _ rfl _ _ 24 rfl w.heap.size 36 i0 (.agg #[.int .i64 0, .int .i64 0, .string ⟨#[]⟩]) 3 32 Try.underlying24 hi hz0 hz1 hz2 rfl (by decide) _ _ _ rfl (hrow.alloc _) ⟨W.heap.size, 0, none⟩ 1 1 [.int .i64 yi, .int .i64 yp, .string ys] rfl rfl (cells3_new' _ _ _ _ _ rfl) (by simp [Value.oneCell']) (by unfold maxLen; omega) (by omega) (by simp; omega) ?_; intro v' w6 hown' hgrow _; obtain ⟨g', cap', rfl⟩ := ownsRow_succ hown'; obtain ⟨hv1, hv2, hr2, hk2, hb2⟩ := hv.appended (by decide) hrow hB.size (by omega) hown' hgrow; have hc1 := hv1.cell; have hf1 := hv1.frozen; have i6 := (hi1.alloc (.cells #[.int .i64 yi, .int .i64 yp, .string ys] 36)).kept hgrow ((hi1.not_row (by decide) hrow)); have x6 := (b3.alloc (.cells #[.int .i64 yi, .int .i64 yp, .string ys] 36)).kept hgrow (fun e => hne e.symm); have iq := i6.other (B' := w1.heap.size) (by omega) (.slice (some ⟨g', 0, none⟩) (L.length + 1) cap'); have xq := x6.other (B' := w1.heap.size) (by omega) (.slice (some ⟨g', 0, none⟩) (L.length + 1) cap'); have iqc := iq.cell; have iqf := iq.frozen; have xqc := xq.c1; simp only at xqc)
      have iq7 := i6.other (B' := w1.heap.size) (by omega) (.slice (some ⟨g', 0, none⟩) (L.length + 1) cap')
      have s6 := (hS1.alloc (.cells #[.int .i64 yi, .int .i64 yp, .string ys] 36)).kept hgrow (hS1.not_row (by decide) hrow)
      have s8 := (s6.other (B' := w1.heap.size) (by omega) (.slice (some ⟨g', 0, none⟩) (L.length + 1) cap')).other (B' := w.heap.size) (by omega) (.int .i64 yp)
      have r8 := hr2.kept (grownBy_setCell' _ w.heap.size (.int .i64 yp)) (.inr (iq7.not_row (by decide) hr2).symm)
      have b8 := hb2.setCell (p := ⟨w.heap.size, 0, none⟩) (Nat.le_refl _) (.int .i64 yp)
      exact ⟨(hk2.trans (KeepsOthers.setCell _ _ _)).from _, ⟨b8, fun _ => s8.trans hS1.symm⟩, ⟨⟨⟨_, hv2.other (by omega) _, by rw [HSN.out]; simpa [fnC] using r8⟩, by rw [HSN.out]; exact iq7.set _⟩, s8⟩, hB.trans b8⟩
    · have hq : (yi == cur) = false := by simp [he]
      rw [if_neg he] at hsn
      have HSN := Lib.hid hsn
      have HLC := Lib.hid hLc
      clear he hsn hLc
      gi_wp2
      exact ⟨(KeepsOthers.refl W).from _, kpB_refl _ _ _, ⟨⟨⟨v, hv, by rw [HSN.out]; exact hrow⟩, by rw [HSN.out]; exact hi1⟩, hS1⟩, hB⟩
  case done =>
    rintro D ys W hD rfl ⟨⟨⟨⟨v, hv, hrow, _⟩, hi1⟩, hS1⟩, hB⟩ hK
    have hall := foldL_all HT.out x
    have hfl := foldL_len x (bwd t t.length)
    rw [bwd_len] at hfl
    obtain ⟨L, hL⟩ : ∃ L, (foldL x (bwd t t.length)).1 = L := ⟨_, rfl⟩
    rw [hL] at hrow hall hfl
    have hres2 : lineRes t x = (L.reverse, decide (0 < L.length)) := by
      unfold lineRes
      rw [hall]
      rcases hb : hasF t x with _ | _
      · rw [hb] at hall
        have : L = [] := by simpa using hall
        rw [this]
        simp
      · rw [hb] at hall
        have hl : 0 < L.length := by
          have h1 := congrArg List.length hall
          rw [List.length_reverse, if_pos rfl, lineF_step HT.out hb, List.length_append] at h1
          simp only [List.length_cons, List.length_nil] at h1
          omega
        rw [decide_eq_true hl]
        simp [HT.out]
    rw [hres2] at hres
    obtain ⟨rfl, rfl⟩ := Prod.mk.inj hres
    have HOW : Own w.heap.size 36 3 W v (L.map fnC) := ⟨by rw [List.length_map]; exact hrow, fun cs hc => by obtain ⟨z, _, rfl⟩ := List.mem_map.1 hc; rfl⟩
    have hokL : ∀ f ∈ L.reverse, f.ok := by
      intro f hf
      have hokt := H.out.fns_ok
      rw [hall] at hf
      split at hf
      · rename_i hb
        exact hokt f (line_mem HT.out x (.inr hb) f hf).1
      · cases hf
    obtain ⟨va, vn, vc, hvs⟩ := HOW.slice
    have hvn : vn = L.length := by
      have := HOW.row (R := fun _ cs f => cs = fnC f) (xs := L) (by simp) (fun i a b => by simp)
      obtain ⟨a, c, e, _⟩ := this
      rw [hvs] at e
      cases e
      rfl
    subst hvs
    subst hvn
    have hDv : some D ≠ (Value.slice va L.length vc).ownBlock := fun e => by
      rcases hrow.2 with ⟨e2, _⟩ | ⟨g, cap, cur, e2, _, hh, _⟩
      · rw [e2] at e; simp [Value.ownBlock] at e
      · rw [e2] at e
        have : D = g := by simpa [Value.ownBlock] using e
        subst this
        rw [hK] at hh
        cases hh
    have hDl := (Array.getElem?_eq_some_iff.1 hK).1
    have hc := hv.cell
    have HOKL := Lib.hid hokL
    have HHW := Lib.hid HOW
    clear hall hres2 hres hL hokL HOW
    gi_wp2_with (gi_at_call 80; refine (callsIn_wide.2 (reverseFn_any _ L w.heap.size _ HHW.out (by omega) hB.size)).mono ?_; rintro e w5 ⟨rfl, hO5, hg5⟩; have hv5 := hv.kept hg5 (hv.not_row (by decide) hrow); have hc5 := hv5.cell; have hK5 := (hg5.block D hDl hDv).trans hK; have HO5 := Lib.hid hO5; clear hO5)
    gi_quiet (fail)
    have hK6 : (w5.drewN nq).heap[D]? = some (.deferred (some [])) := by simpa using hK5
    gi_wp2
    refine ⟨by simp, .inl ⟨_, _, rfl, run_takeDeferred hK6, ?_⟩⟩
    have hB5 : Below w.heap.size W w5 := (Below.refl _ W).grown hg5 hB.size (fun k hk => (hrow.lt k hk).1)
    have hO6 := HO5.out.below (below_drewN (Below.refl w5.heap.size w5) nq)
    have hO7 : ((w5.drewN nq).putObj D (.deferred none)).ownsRow w.heap.size 36 3 (.slice va L.length vc) L.length ((L.reverse.map fnC).flatten) := by
      have := ownsRow_putObj hO6.1 (.deferred none) hK6 rfl
      simpa using this
    exact ⟨_, results_tmp2 rfl _ _ _, .slice va L.length vc, rfl, FnsO.of_row hO7 (by simp) HOKL.out, hB.trans (hB5.trans ((below_drewN (Below.refl w.heap.size w5) nq).trans (belowK_b (w := w) (Nat.le_refl _) _ D _ _ (by omega) hK6 rfl rfl)))⟩
  case stop =>
    rintro D c pre W _ _ h _
    exact h.elim

set_option maxRecDepth 20000 in
theorem implLineTo_any (v : Value) (t : List Fn) (x : Int) (w : World) (h : RowR 3 rFn w v t) (xs : List Fn) (b : Bool) (hres : lineRes t x = (xs, b)) :
    Calls Try.prog 46 #[v, .int .i64 x] w fun e w' => ∃ v', e = .returned (.tuple #[v', .bool b]) ∧ FnsO w.heap.size w'.heap.size w' v' xs ∧ Below w.heap.size w w' := by
  rcases ht : isTree t with _ | _
  · have H := Lib.hid h
    have HT := Lib.hid ht
    unfold lineRes at hres
    rw [ht, if_neg (by simp)] at hres
    obtain ⟨rfl, rfl⟩ := Prod.mk.inj hres
    clear h ht hres
    go_enter Try.func46, Try.ntmps46
    go_wp2_with (first | (go_at_call 23; refine (implIsTree_any _ t _ (H.out.below rFn_stable (below_al (Below.refl _ _) _))).mono ?_; rw [HT.out]; rintro e w1 ⟨rfl, b1⟩))
    go_ret2
    exact ⟨_, rfl, FnsO.nil _ _ _, below_chain (below_al (Below.refl _ _) _) b1⟩
  · obtain ⟨a1, c1, hv, _⟩ := h.fns
    subst hv
    exact callsIn_wide.1 (lineTo_yes 6 (by omega) a1 c1 t x w h ht xs b hres)
end Go.Proofs.Ytpbjddiopfkgbaa
