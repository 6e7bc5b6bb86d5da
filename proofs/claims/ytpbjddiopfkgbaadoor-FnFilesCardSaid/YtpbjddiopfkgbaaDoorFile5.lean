/- The draw of a file. -/
import Derived.Test.YtpbjddiopfkgbaaDoorCurFi
import Derived.Test.YtpbjddiopfkgbaaDoorSlFi
import Derived.Deep.DeepCutAuto
import Derived.Deep.CutBlock
import Derived.Deep.RegionHeld3
namespace Go.Proofs.YtpbjddiopfkgbaaDoor
set_option linter.unusedVariables false
open Go.RowKit

def tiList : List ByteArray := [⟨#[97, 112, 112, 101, 97, 108, 115]⟩, ⟨#[98, 117, 100, 103, 101, 116]⟩, ⟨#[99, 108, 97, 105, 109, 115]⟩, ⟨#[100, 101, 101, 100, 115]⟩, ⟨#[101, 118, 101, 110, 116, 115]⟩]
theorem ti_short {s : ByteArray} (h : s ∈ tiList) : s.size ≤ 11 := by
  have : ∀ x ∈ tiList, x.size ≤ 11 := by decide
  exact this s h
def baList : List ByteArray := [⟨#[]⟩, ⟨#[65]⟩, ⟨#[97, 98, 99, 100, 101, 102, 103, 104, 105, 106, 107]⟩]
theorem ba_short {s : ByteArray} (h : s ∈ baList) : s.size ≤ 11 := by
  have : ∀ x ∈ baList, x.size ≤ 11 := by decide
  exact this s h
/-- The cursor, behind w0. -/
structure Dc (w0 w : World) (B K : Nat) : Prop where
  cur : Cur w B K
  gr : w0.grownBy w (some B)
theorem Dc.step {w0 w w' : World} {B K K' : Nat} (h : Dc w0 w B K) (hc : Cur w' B K') (hg : w.grownBy w' (some B)) : Dc w0 w' B K' := ⟨hc, grownBy_trans h.gr hg⟩
theorem Dc.al {w0 w : World} {B K : Nat} (h : Dc w0 w B K) (ob : Obj) : Dc w0 (w.alloc ob) B K :=
  h.step (h.cur.later (Below.alloc (Below.refl (B + 1) w) h.cur.lt ob)) (World.grownBy_alloc w ob _)
theorem Dc.le {w0 w : World} {B K K' : Nat} (h : Dc w0 w B K) (hk : K ≤ K') : Dc w0 w B K' := ⟨h.cur.le_K hk, h.gr⟩
theorem Dc.set {w0 w : World} {B K F j : Nat} {u : Value} (h : Dc w0 w B K) (hF : w0.heap.size ≤ F) (hB : B < F) : Dc w0 (w.setCell ⟨F, j, none⟩ u) B K := by
  refine ⟨h.cur.later ((Below.refl (B + 1) w).setCell (p := ⟨F, j, none⟩) hB u), h.gr.os, h.gr.tape, h.gr.output, by simpa using h.gr.size, fun k hk hr => ?_⟩
  exact (Below.heap_setCell w ⟨F, j, none⟩ u k (by simp; omega)).trans (h.gr.block k hk hr)
/-- A file's box beside it. -/
def FBF (w : World) (B F : Nat) (f : Fi) : Prop := w.ownsRow (B + 1) 43 7 (.slice (some ⟨F, 0, none⟩) 1 1) 1 (fiC f)
theorem FBF.new {B : Nat} (w : World) (f : Fi) (hb : B + 1 ≤ w.heap.size) : FBF (w.alloc (.cells (fiC f).toArray 43 (0, 0))) B w.heap.size f :=
  ⟨by simp [fiC], .inr ⟨w.heap.size, 1, _, rfl, hb, heap_alloc_new w _, Nat.le_refl _, by unfold maxLen; omega, rfl, by simp [fiC]⟩⟩
theorem FBF.grown {w w' : World} {B F : Nat} {f : Fi} (h : FBF w B F f) (hg : w.grownBy w' (some B)) : FBF w' B F f :=
  World.ownsRow.kept h hg (.inr fun e => by have := (World.ownsRow.lt h F rfl).1; simp [Value.ownBlock] at e; omega)
theorem FBF.al {w : World} {B F : Nat} {f : Fi} (h : FBF w B F f) (o : Obj) : FBF (w.alloc o) B F f := World.ownsRow.alloc h o
theorem FBF.cell {w : World} {B F : Nat} {f : Fi} (h : FBF w B F f) (j : Nat) (hj : j < 7) : w.cell? ⟨F, j, none⟩ = (fiC f)[j]? := World.ownsRow.cellAt h j (by omega)
theorem FBF.frozen {w : World} {B F : Nat} {f : Fi} (h : FBF w B F f) (j : Nat) : w.frozen? ⟨F, j, none⟩ = false := World.ownsRow.frozenAt h j
theorem FBF.set {w : World} {B F : Nat} {f g : Fi} (j : Nat) (u : Value) (h : FBF w B F f) (he : (fiC f).set j u = fiC g) : FBF (w.setCell ⟨F, j, none⟩ u) B F g := by
  have := (World.ownsRow.stored h j u).1
  rw [he] at this
  exact this
theorem FBF.other {w : World} {B F G j : Nat} {f : Fi} {u : Value} (h : FBF w B F f) (hn : F ≠ G) : FBF (w.setCell ⟨G, j, none⟩ u) B F f := by
  have hg : w.grownBy (w.setCell ⟨G, j, none⟩ u) (some G) := ⟨rfl, rfl, rfl, by simp, fun k _ hk => Below.heap_setCell w ⟨G, j, none⟩ u k (fun e => hk (by rw [e]))⟩
  exact World.ownsRow.kept h hg (.inr fun e => hn (Option.some.inj e))
theorem FBF.cells {w : World} {B F : Nat} {x0 x1 : Int} {x2 : ByteArray} {x3 x4 x5 x6 : Int} (h : FBF w B F ⟨x0, x1, x2, x3, x4, x5, x6⟩) : w.cell? ⟨F, 0, none⟩ = some (.int .i64 x0) ∧ w.cell? ⟨F, 1, none⟩ = some (.int .i64 x1) ∧ w.cell? ⟨F, 2, none⟩ = some (.string x2) ∧ w.cell? ⟨F, 3, none⟩ = some (.int .i64 x3) ∧ w.cell? ⟨F, 4, none⟩ = some (.int .i64 x4) ∧ w.cell? ⟨F, 5, none⟩ = some (.int .i64 x5) ∧ w.cell? ⟨F, 6, none⟩ = some (.int .i64 x6) :=
  ⟨h.cell 0 (by omega), h.cell 1 (by omega), h.cell 2 (by omega), h.cell 3 (by omega), h.cell 4 (by omega), h.cell 5 (by omega), h.cell 6 (by omega)⟩

theorem l1Least_any (a b : Int) (w : World) : Calls Tryd.prog 62 #[.int .i64 a, .int .i64 b] w fun e w' => e = .returned (.int .i64 (min a b)) ∧ w' = w := by
  by_cases h : a < b
  · rw [show min a b = a by omega]
    go_enter Tryd.func62, Tryd.ntmps62
    go_wp2
    go_ret
    exact ⟨rfl, rfl⟩
  · rw [show min a b = b by omega]
    go_enter Tryd.func62, Tryd.ntmps62
    go_wp2
    go_ret
    exact ⟨rfl, rfl⟩
theorem valsD {t : List Fi} {k : Nat} {f : Fi} (ht : areFi t = true) (hk : k < t.length) (hx : t.getD k fiD = f) : isFi f = true := by
  have := fi_mem ht _ (List.getElem_mem hk)
  rwa [← getFi_lt hk, hx] at this
def FileDrawn (w : World) (B K : Nat) (e : Ending) (w' : World) : Prop := ∃ f : Fi, e = .returned (.agg #[.int .i64 f.id, .int .i64 f.series, .string f.title, .int .i64 f.opened, .int .i64 f.closed, .int .i64 f.state, .int .i64 f.pages]) ∧ f.ok ∧ Cur w' B K ∧ w.grownBy w' (some B)

set_option maxRecDepth 20000 in
set_option maxHeartbeats 4000000 in
theorem file5_any (B K : Nat) (id : Int) (w : World) (h : Cur w B K) (hK : K ≤ 100000) (hid : inI id) :
    Calls Tryd.prog 63 #[.pointer (some ⟨B, 0, none⟩), .int .i64 id] w (FileDrawn w B (K + 30)) := by
  have hlt := h.lt
  obtain ⟨R, hR⟩ : ∃ R, w.heap.size = R := ⟨_, rfl⟩
  have HD0 : Hid (Dc w (w.alloc (.cells #[.int .i64 0, .int .i64 0, .string ⟨#[]⟩, .int .i64 0, .int .i64 0, .int .i64 0, .int .i64 0] 43 (0, 0))) B K) := Lib.hid ((⟨h, World.grownBy.refl _ _⟩ : Dc w w B K).al _)
  have HR0 : Hid (FBF (w.alloc (.cells #[.int .i64 0, .int .i64 0, .string ⟨#[]⟩, .int .i64 0, .int .i64 0, .int .i64 0, .int .i64 0] 43 (0, 0))) B R fiD) := Lib.hid (by rw [← hR]; exact FBF.new w fiD hlt)
  clear h
  have HRE := Lib.hid hR
  clear hR
  go_enter Tryd.func63, Tryd.ntmps63
  go_upto_region 1 with fail
  try rw [HRE.out]
  generalize hW0 : w.alloc (.cells #[.int .i64 0, .int .i64 0, .string ⟨#[]⟩, .int .i64 0, .int .i64 0, .int .i64 0, .int .i64 0] 43 (0, 0)) = W0 at *
  have HW0 := Lib.hid hW0
  clear hW0
  go_wp2_with fail
  refine (among_any B (K + 0) W0.heap.size 0 4 4 [1, 1, 2, 99] _ (HD0.out.al (.cells (([1, 1, 2, 99] : List Int).map (Value.int .i64)).toArray 3)).cur (by omega) rfl (by omega) (by omega) (by have := HD0.out.cur.lt; omega) (new_nums W0 [1, 1, 2, 99] 3 _ rfl)).mono ?_
  rintro e w1 ⟨x1, rfl, mx1, hc, hg⟩
  have HD1 := Lib.hid ((HD0.out.al (.cells (([1, 1, 2, 99] : List Int).map (Value.int .i64)).toArray 3)).step hc hg)
  have HR1 := Lib.hid ((HR0.out.al (.cells (([1, 1, 2, 99] : List Int).map (Value.int .i64)).toArray 3)).grown hg)
  have ix1 : inI x1 := by simp at mx1; unfold inI; omega
  clear hc hg HD0 HR0
  go_wp2_with fail
  refine (of_any B (K + 2) w1.heap.size 0 5 5 tiList _ (HD1.out.al (.cells (tiList.map Value.string).toArray 9)).cur (by omega) rfl (by omega) (by omega) (by have := HD1.out.cur.lt; omega) (new_cells w1 tiList 9 _ rfl)).mono ?_
  rintro e w2 ⟨x2, rfl, mx2, hc, hg⟩
  have HD2 := Lib.hid ((HD1.out.al (.cells (tiList.map Value.string).toArray 9)).step hc hg)
  have HR2 := Lib.hid ((HR1.out.al (.cells (tiList.map Value.string).toArray 9)).grown hg)
  have ix2 : x2.size ≤ 11 := ti_short mx2
  clear hc hg HD1 HR1
  go_wp2_with fail
  refine (among_any B (K + 4) w2.heap.size 0 5 5 [0, 10, 10, 500, 20000] _ (HD2.out.al (.cells (([0, 10, 10, 500, 20000] : List Int).map (Value.int .i64)).toArray 3)).cur (by omega) rfl (by omega) (by omega) (by have := HD2.out.cur.lt; omega) (new_nums w2 [0, 10, 10, 500, 20000] 3 _ rfl)).mono ?_
  rintro e w3 ⟨x3, rfl, mx3, hc, hg⟩
  have HD3 := Lib.hid ((HD2.out.al (.cells (([0, 10, 10, 500, 20000] : List Int).map (Value.int .i64)).toArray 3)).step hc hg)
  have HR3 := Lib.hid ((HR2.out.al (.cells (([0, 10, 10, 500, 20000] : List Int).map (Value.int .i64)).toArray 3)).grown hg)
  have ix3 : inI x3 := by simp at mx3; unfold inI; omega
  clear hc hg HD2 HR2
  have b3 : -1 ≤ x3 ∧ x3 ≤ 20001 := by simp at mx3; omega
  go_wp2_with fail
  refine (among_any B (K + 6) w3.heap.size 0 5 5 [0, 0, 1, 1, 2] _ (HD3.out.al (.cells (([0, 0, 1, 1, 2] : List Int).map (Value.int .i64)).toArray 3)).cur (by omega) rfl (by omega) (by omega) (by have := HD3.out.cur.lt; omega) (new_nums w3 [0, 0, 1, 1, 2] 3 _ rfl)).mono ?_
  rintro e w4 ⟨x5, rfl, mx5, hc, hg⟩
  have HD4 := Lib.hid ((HD3.out.al (.cells (([0, 0, 1, 1, 2] : List Int).map (Value.int .i64)).toArray 3)).step hc hg)
  have HR4 := Lib.hid ((HR3.out.al (.cells (([0, 0, 1, 1, 2] : List Int).map (Value.int .i64)).toArray 3)).grown hg)
  have ix5 : inI x5 := by simp at mx5; unfold inI; omega
  clear hc hg HD3 HR3
  go_wp2_with fail
  refine (among_any B (K + 8) w4.heap.size 0 6 6 [0, 1, 2, 300, 4900, 5000] _ (HD4.out.al (.cells (([0, 1, 2, 300, 4900, 5000] : List Int).map (Value.int .i64)).toArray 3)).cur (by omega) rfl (by omega) (by omega) (by have := HD4.out.cur.lt; omega) (new_nums w4 [0, 1, 2, 300, 4900, 5000] 3 _ rfl)).mono ?_
  rintro e w5 ⟨x6, rfl, mx6, hc, hg⟩
  have HD5 := Lib.hid ((HD4.out.al (.cells (([0, 1, 2, 300, 4900, 5000] : List Int).map (Value.int .i64)).toArray 3)).step hc hg)
  have HR5 := Lib.hid ((HR4.out.al (.cells (([0, 1, 2, 300, 4900, 5000] : List Int).map (Value.int .i64)).toArray 3)).grown hg)
  have ix6 : inI x6 := by simp at mx6; unfold inI; omega
  clear hc hg HD4 HR4
  obtain ⟨F, hF⟩ : ∃ F, w5.heap.size = F := ⟨_, rfl⟩
  have hFw : w.heap.size ≤ F := by rw [← hF]; exact HD5.out.gr.size
  have hRF : R < F := by have := (World.ownsRow.lt HR5.out R rfl).2; omega
  have hFB : B < F := by omega
  have HD9 := Lib.hid (HD5.out.al (.cells #[.int .i64 id, .int .i64 x1, .string x2, .int .i64 x3, .int .i64 0, .int .i64 x5, .int .i64 x6] 43 (0, 0)))
  have HR9 := Lib.hid (HR5.out.al (.cells #[.int .i64 id, .int .i64 x1, .string x2, .int .i64 x3, .int .i64 0, .int .i64 x5, .int .i64 x6] 43 (0, 0)))
  have HF9 : Hid (FBF (w5.alloc (.cells #[.int .i64 id, .int .i64 x1, .string x2, .int .i64 x3, .int .i64 0, .int .i64 x5, .int .i64 x6] 43 (0, 0))) B F ⟨id, x1, x2, x3, 0, x5, x6⟩) := Lib.hid (by rw [← hF]; exact FBF.new w5 ⟨id, x1, x2, x3, 0, x5, x6⟩ (by omega))
  clear mx1 mx2 mx3 mx5 mx6 HD5 HR5
  go_upto_if 25 with fail
  try rw [hF]
  have HFE := Lib.hid hF
  clear hF
  generalize hW9 : w5.alloc (.cells #[.int .i64 id, .int .i64 x1, .string x2, .int .i64 x3, .int .i64 0, .int .i64 x5, .int .i64 x6] 43 (0, 0)) = W9 at *
  have HW9 := Lib.hid hW9
  clear hW9
  go_cut [5] from 6 to 78 (fun q wx => q = .pointer (some ⟨F, 0, none⟩) ∧ ∃ y4, inI y4 ∧ Hid (Dc w wx B (K + 12)) ∧ Hid (FBF wx B R fiD) ∧ Hid (FBF wx B F ⟨id, x1, x2, x3, y4, x5, x6⟩))
  case first =>
    by_cases s0 : x5 = 0
    · have s1 : (x5 != 0) = false := by simp [s0]
      subst s0
      go_wp2_with fail
      go_meet
      exact ⟨rfl, 0, by simp [inI], Lib.hid (HD9.out.le (by omega)), HR9, HF9⟩
    · have s1 : (x5 != 0) = true := by simp [s0]
      have HDd : Hid (Dc w W9.drew B (K + 10)) := Lib.hid ⟨HD9.out.cur.later (Below.refl _ _).drew, grownBy_trans HD9.out.gr ⟨rfl, rfl, rfl, Nat.le_refl _, fun _ _ _ => rfl⟩⟩
      have HRd : Hid (FBF W9.drew B R fiD) := HR9
      have HFd : Hid (FBF W9.drew B F ⟨id, x1, x2, x3, 0, x5, x6⟩) := HF9
      have f3 := HFd.out.cells.2.2.2.1
      have lB := HDd.out.cur.lt
      go_upto_region 3 with fail
      go_region_held3 (fun w' => w'.cell? ⟨F, 3, none⟩ = some (.int .i64 x3)) (first | exact f3 | exact g3 | exact below_al_cell f3 _ | exact (cellset_other _ (by simp)).trans g3 | go_keep) (first | (go_at_call 64; refine (among_any B (K + 10) W9.drew.heap.size 0 3 3 [0, 5, 400] _ (HDd.out.al (.cells (([0, 5, 400] : List Int).map (Value.int .i64)).toArray 3)).cur (by omega) rfl (by omega) (by omega) (by omega) (new_nums W9.drew [0, 5, 400] 3 _ rfl)).mono ?_; rintro e wa ⟨r, rfl, mr, hc, hg⟩; have HDa := Lib.hid ((HDd.out.al (.cells (([0, 5, 400] : List Int).map (Value.int .i64)).toArray 3)).step hc hg); have HRa := Lib.hid ((HRd.out.al (.cells (([0, 5, 400] : List Int).map (Value.int .i64)).toArray 3)).grown hg); have HFa := Lib.hid ((HFd.out.al (.cells (([0, 5, 400] : List Int).map (Value.int .i64)).toArray 3)).grown hg); have g3 := HFa.out.cells.2.2.2.1; have g4 := HFa.out.cells.2.2.2.2.1; have gf := HFa.out.frozen 4; have br : 0 ≤ r ∧ r ≤ 400 := (by simp at mr; omega); have hwr : IntKind.i64.wrap (x3 + r) = x3 + r := Go.IntWalk.i64_in _ (by omega); clear hc hg) | (go_at_call 62; refine (l1Least_any _ _ _).mono ?_; rintro e wz ⟨rfl, rfl⟩))
      all_goals
        go_wp2_with fail
        go_meet
        exact ⟨rfl, min 20000 (x3 + r), by unfold inI; omega, Lib.hid (HDa.out.set hFw hFB), Lib.hid (HRa.out.other (by omega)), Lib.hid (HFa.out.set 4 _ rfl)⟩
  case rest =>
    obtain ⟨rfl, y4, iy4, HDc, HRc, HFc⟩ := hcut
    clear HD9 HR9 HF9
    obtain ⟨W10, hW10⟩ : ∃ x, x = wc := ⟨_, rfl⟩
    subst hW10
    go_upto_block 0 with (first | (go_at_call 59; refine (pick_any B (K + 12) 80 _ HDc.out.cur (by omega) (by omega) (by omega)).mono ?_; rintro e w20 ⟨m, rfl, hm0, hm1, hc, hg⟩; have HDs := Lib.hid (HDc.out.step hc hg); have HRs := Lib.hid (HRc.out.grown hg); have HFs := Lib.hid (HFc.out.grown hg); clear hc hg))
    clear HDc HRc HFc
    go_cut [5] from 6 to 78 (fun q wx => q = .pointer (some ⟨F, 0, none⟩) ∧ ∃ f : Fi, f.ok ∧ Hid (Dc w wx B (K + 18)) ∧ Hid (FBF wx B R fiD) ∧ Hid (FBF wx B F f))
    case first =>
      have i3 : inI x3 := by unfold inI; omega
      have i2 : x2.size ≤ maxLen := Nat.le_trans ix2 (by decide)
      by_cases e0 : m = 0
      · subst e0
        go_wp2_with fail
        refine (among_any B (K + 14) w20.heap.size 0 3 3 [0, 999, 1000] _ (HDs.out.al (.cells (([0, 999, 1000] : List Int).map (Value.int .i64)).toArray 3)).cur (by omega) rfl (by omega) (by omega) (by have := HDs.out.cur.lt; omega) (new_nums w20 [0, 999, 1000] 3 _ rfl)).mono ?_
        rintro e w21 ⟨r, rfl, mr, hc, hg⟩
        have HDt := Lib.hid ((HDs.out.al (.cells (([0, 999, 1000] : List Int).map (Value.int .i64)).toArray 3)).step hc hg)
        have HRt := Lib.hid ((HRs.out.al (.cells (([0, 999, 1000] : List Int).map (Value.int .i64)).toArray 3)).grown hg)
        have HFt := Lib.hid ((HFs.out.al (.cells (([0, 999, 1000] : List Int).map (Value.int .i64)).toArray 3)).grown hg)
        have ir : inI r := by simp at mr; unfold inI; omega
        obtain ⟨c0, c1, c2, c3, c4, c5, c6⟩ := HFt.out.cells
        have fc := c0
        have ff := HFt.out.frozen 0
        clear hc hg mr c0 c1 c2 c3 c4 c5 c6
        go_wp2_with fail
        go_meet
        exact ⟨rfl, ⟨r, x1, x2, x3, y4, x5, x6⟩, ⟨ir, ix1, i2, i3, iy4, ix5, ix6⟩, Lib.hid ((HDt.out.set hFw hFB).le (by omega)), Lib.hid (HRt.out.other (by omega)), Lib.hid (HFt.out.set 0 _ rfl)⟩
      · have b0 : (m == 0) = false := beq_eq_false_iff_ne.2 e0
        by_cases e1 : m = 1
        · subst e1
          go_wp2_with fail
          refine (among_any B (K + 14) w20.heap.size 0 2 2 [0, 100] _ (HDs.out.al (.cells (([0, 100] : List Int).map (Value.int .i64)).toArray 3)).cur (by omega) rfl (by omega) (by omega) (by have := HDs.out.cur.lt; omega) (new_nums w20 [0, 100] 3 _ rfl)).mono ?_
          rintro e w21 ⟨r, rfl, mr, hc, hg⟩
          have HDt := Lib.hid ((HDs.out.al (.cells (([0, 100] : List Int).map (Value.int .i64)).toArray 3)).step hc hg)
          have HRt := Lib.hid ((HRs.out.al (.cells (([0, 100] : List Int).map (Value.int .i64)).toArray 3)).grown hg)
          have HFt := Lib.hid ((HFs.out.al (.cells (([0, 100] : List Int).map (Value.int .i64)).toArray 3)).grown hg)
          have ir : inI r := by simp at mr; unfold inI; omega
          obtain ⟨c0, c1, c2, c3, c4, c5, c6⟩ := HFt.out.cells
          have fc := c1
          have ff := HFt.out.frozen 1
          clear hc hg mr c0 c1 c2 c3 c4 c5 c6
          go_wp2_with fail
          go_meet
          exact ⟨rfl, ⟨id, r, x2, x3, y4, x5, x6⟩, ⟨hid, ir, i2, i3, iy4, ix5, ix6⟩, Lib.hid ((HDt.out.set hFw hFB).le (by omega)), Lib.hid (HRt.out.other (by omega)), Lib.hid (HFt.out.set 1 _ rfl)⟩
        · have b1 : (m == 1) = false := beq_eq_false_iff_ne.2 e1
          by_cases e2 : m = 2
          · subst e2
            go_wp2_with fail
            refine (of_any B (K + 14) w20.heap.size 0 3 3 baList _ (HDs.out.al (.cells (baList.map Value.string).toArray 9)).cur (by omega) rfl (by omega) (by omega) (by have := HDs.out.cur.lt; omega) (new_cells w20 baList 9 _ rfl)).mono ?_
            rintro e w21 ⟨r, rfl, mr, hc, hg⟩
            have HDt := Lib.hid ((HDs.out.al (.cells (baList.map Value.string).toArray 9)).step hc hg)
            have HRt := Lib.hid ((HRs.out.al (.cells (baList.map Value.string).toArray 9)).grown hg)
            have HFt := Lib.hid ((HFs.out.al (.cells (baList.map Value.string).toArray 9)).grown hg)
            have ir : r.size ≤ maxLen := Nat.le_trans (ba_short mr) (by decide)
            obtain ⟨c0, c1, c2, c3, c4, c5, c6⟩ := HFt.out.cells
            have fc := c2
            have ff := HFt.out.frozen 2
            clear hc hg mr c0 c1 c2 c3 c4 c5 c6
            go_wp2_with fail
            go_meet
            exact ⟨rfl, ⟨id, x1, r, x3, y4, x5, x6⟩, ⟨hid, ix1, ir, i3, iy4, ix5, ix6⟩, Lib.hid ((HDt.out.set hFw hFB).le (by omega)), Lib.hid (HRt.out.other (by omega)), Lib.hid (HFt.out.set 2 _ rfl)⟩
          · have b2 : (m == 2) = false := beq_eq_false_iff_ne.2 e2
            by_cases e3 : m = 3
            · subst e3
              go_wp2_with fail
              refine (among_any B (K + 14) w20.heap.size 0 2 2 [-1, 20001] _ (HDs.out.al (.cells (([-1, 20001] : List Int).map (Value.int .i64)).toArray 3)).cur (by omega) rfl (by omega) (by omega) (by have := HDs.out.cur.lt; omega) (new_nums w20 [-1, 20001] 3 _ rfl)).mono ?_
              rintro e w21 ⟨r, rfl, mr, hc, hg⟩
              have HDt := Lib.hid ((HDs.out.al (.cells (([-1, 20001] : List Int).map (Value.int .i64)).toArray 3)).step hc hg)
              have HRt := Lib.hid ((HRs.out.al (.cells (([-1, 20001] : List Int).map (Value.int .i64)).toArray 3)).grown hg)
              have HFt := Lib.hid ((HFs.out.al (.cells (([-1, 20001] : List Int).map (Value.int .i64)).toArray 3)).grown hg)
              have ir : inI r := by simp at mr; unfold inI; omega
              obtain ⟨c0, c1, c2, c3, c4, c5, c6⟩ := HFt.out.cells
              have fc := c3
              have ff := HFt.out.frozen 3
              clear hc hg mr c0 c1 c2 c3 c4 c5 c6
              go_wp2_with fail
              go_meet
              exact ⟨rfl, ⟨id, x1, x2, r, y4, x5, x6⟩, ⟨hid, ix1, i2, ir, iy4, ix5, ix6⟩, Lib.hid ((HDt.out.set hFw hFB).le (by omega)), Lib.hid (HRt.out.other (by omega)), Lib.hid (HFt.out.set 3 _ rfl)⟩
            · have b3 : (m == 3) = false := beq_eq_false_iff_ne.2 e3
              by_cases e4 : m = 4
              · subst e4
                go_wp2_with fail
                refine (among_any B (K + 14) w20.heap.size 0 3 3 [-1, 5, 20001] _ (HDs.out.al (.cells (([-1, 5, 20001] : List Int).map (Value.int .i64)).toArray 3)).cur (by omega) rfl (by omega) (by omega) (by have := HDs.out.cur.lt; omega) (new_nums w20 [-1, 5, 20001] 3 _ rfl)).mono ?_
                rintro e w21 ⟨r, rfl, mr, hc, hg⟩
                have HDt := Lib.hid ((HDs.out.al (.cells (([-1, 5, 20001] : List Int).map (Value.int .i64)).toArray 3)).step hc hg)
                have HRt := Lib.hid ((HRs.out.al (.cells (([-1, 5, 20001] : List Int).map (Value.int .i64)).toArray 3)).grown hg)
                have HFt := Lib.hid ((HFs.out.al (.cells (([-1, 5, 20001] : List Int).map (Value.int .i64)).toArray 3)).grown hg)
                have ir : inI r := by simp at mr; unfold inI; omega
                obtain ⟨c0, c1, c2, c3, c4, c5, c6⟩ := HFt.out.cells
                have fc := c4
                have ff := HFt.out.frozen 4
                clear hc hg mr c0 c1 c2 c3 c4 c5 c6
                go_wp2_with fail
                go_meet
                exact ⟨rfl, ⟨id, x1, x2, x3, r, x5, x6⟩, ⟨hid, ix1, i2, i3, ir, ix5, ix6⟩, Lib.hid ((HDt.out.set hFw hFB).le (by omega)), Lib.hid (HRt.out.other (by omega)), Lib.hid (HFt.out.set 4 _ rfl)⟩
              · have b4 : (m == 4) = false := beq_eq_false_iff_ne.2 e4
                by_cases e5 : m = 5
                · subst e5
                  go_wp2_with fail
                  refine (among_any B (K + 14) w20.heap.size 0 2 2 [-1, 3] _ (HDs.out.al (.cells (([-1, 3] : List Int).map (Value.int .i64)).toArray 3)).cur (by omega) rfl (by omega) (by omega) (by have := HDs.out.cur.lt; omega) (new_nums w20 [-1, 3] 3 _ rfl)).mono ?_
                  rintro e w21 ⟨r, rfl, mr, hc, hg⟩
                  have HDt := Lib.hid ((HDs.out.al (.cells (([-1, 3] : List Int).map (Value.int .i64)).toArray 3)).step hc hg)
                  have HRt := Lib.hid ((HRs.out.al (.cells (([-1, 3] : List Int).map (Value.int .i64)).toArray 3)).grown hg)
                  have HFt := Lib.hid ((HFs.out.al (.cells (([-1, 3] : List Int).map (Value.int .i64)).toArray 3)).grown hg)
                  have ir : inI r := by simp at mr; unfold inI; omega
                  obtain ⟨c0, c1, c2, c3, c4, c5, c6⟩ := HFt.out.cells
                  have fc := c5
                  have ff := HFt.out.frozen 5
                  clear hc hg mr c0 c1 c2 c3 c4 c5 c6
                  go_wp2_with fail
                  go_meet
                  exact ⟨rfl, ⟨id, x1, x2, x3, y4, r, x6⟩, ⟨hid, ix1, i2, i3, iy4, ir, ix6⟩, Lib.hid ((HDt.out.set hFw hFB).le (by omega)), Lib.hid (HRt.out.other (by omega)), Lib.hid (HFt.out.set 5 _ rfl)⟩
                · have b5 : (m == 5) = false := beq_eq_false_iff_ne.2 e5
                  by_cases e6 : m = 6
                  · subst e6
                    go_wp2_with fail
                    refine (among_any B (K + 14) w20.heap.size 0 2 2 [-1, 5001] _ (HDs.out.al (.cells (([-1, 5001] : List Int).map (Value.int .i64)).toArray 3)).cur (by omega) rfl (by omega) (by omega) (by have := HDs.out.cur.lt; omega) (new_nums w20 [-1, 5001] 3 _ rfl)).mono ?_
                    rintro e w21 ⟨r, rfl, mr, hc, hg⟩
                    have HDt := Lib.hid ((HDs.out.al (.cells (([-1, 5001] : List Int).map (Value.int .i64)).toArray 3)).step hc hg)
                    have HRt := Lib.hid ((HRs.out.al (.cells (([-1, 5001] : List Int).map (Value.int .i64)).toArray 3)).grown hg)
                    have HFt := Lib.hid ((HFs.out.al (.cells (([-1, 5001] : List Int).map (Value.int .i64)).toArray 3)).grown hg)
                    have ir : inI r := by simp at mr; unfold inI; omega
                    obtain ⟨c0, c1, c2, c3, c4, c5, c6⟩ := HFt.out.cells
                    have fc := c6
                    have ff := HFt.out.frozen 6
                    clear hc hg mr c0 c1 c2 c3 c4 c5 c6
                    go_wp2_with fail
                    go_meet
                    exact ⟨rfl, ⟨id, x1, x2, x3, y4, x5, r⟩, ⟨hid, ix1, i2, i3, iy4, ix5, ir⟩, Lib.hid ((HDt.out.set hFw hFB).le (by omega)), Lib.hid (HRt.out.other (by omega)), Lib.hid (HFt.out.set 6 _ rfl)⟩
                  · have b6 : (m == 6) = false := beq_eq_false_iff_ne.2 e6
                    go_wp2_with fail
                    go_meet
                    exact ⟨rfl, ⟨id, x1, x2, x3, y4, x5, x6⟩, ⟨hid, ix1, i2, i3, iy4, ix5, ix6⟩, Lib.hid (HDs.out.le (by omega)), HRs, HFs⟩
    case rest =>
      obtain ⟨rfl, ⟨z0, z1, z2, z3, z4, z5, z6⟩, hok, HD, HR, HF⟩ := hcut
      clear HDs HRs HFs
      obtain ⟨W11, hW11⟩ : ∃ x, x = wc := ⟨_, rfl⟩
      subst hW11
      have hwR : w.heap.size ≤ R := Nat.le_of_eq HRE.out
      have hBR : B < R := by omega
      obtain ⟨f0, f1, f2, f3, f4, f5, f6⟩ := HF.out.cells
      obtain ⟨r0, r1, r2, r3, r4, r5, r6⟩ := HR.out.cells
      have t0 := HR.out.frozen 0
      have t1 := HR.out.frozen 1
      have t2 := HR.out.frozen 2
      have t3 := HR.out.frozen 3
      have t4 := HR.out.frozen 4
      have t5 := HR.out.frozen 5
      have t6 := HR.out.frozen 6
      have hok2 := Lib.hid hok
      clear hok
      go_wp2_with fail
      refine bodyPost_ret (v := .agg #[.int .i64 z0, .int .i64 z1, .string z2, .int .i64 z3, .int .i64 z4, .int .i64 z5, .int .i64 z6]) (by simp [results, Tryd.results63, go_sem, r0, r1, r2, r3, r4, r5, r6]) rfl ?_
      have hD := (((((((HD.out.set (F := R) (j := 0) (u := .int .i64 z0) hwR hBR).set (F := R) (j := 1) (u := .int .i64 z1) hwR hBR).set (F := R) (j := 2) (u := .string z2) hwR hBR).set (F := R) (j := 3) (u := .int .i64 z3) hwR hBR).set (F := R) (j := 4) (u := .int .i64 z4) hwR hBR).set (F := R) (j := 5) (u := .int .i64 z5) hwR hBR).set (F := R) (j := 6) (u := .int .i64 z6) hwR hBR)
      exact ⟨⟨z0, z1, z2, z3, z4, z5, z6⟩, rfl, hok2.out, hD.cur.le_K (by omega), hD.gr⟩
end Go.Proofs.YtpbjddiopfkgbaaDoor
