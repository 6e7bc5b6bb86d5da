/- File5, Files5, DrawFi, DrawFi2, ReadF, FilesM, ArgBytes, in one text. -/
import Derived.Test.YtpbjddiopfkgbaaDoorCurFi
import Derived.Test.YtpbjddiopfkgbaaDoorSlFi
import Derived.Deep.DeepCutAuto
import Derived.Deep.CutBlock
import Derived.Deep.RegionHeld3
import Derived.Test.YtpbjddiopfkgbaaDoorAreFiS
import Derived.Test.YtpbjddiopfkgbaaDoorSinceC
import Derived.Test.YtpbjddiopfkgbaaDoorInSer1
import Derived.Test.YtpbjddiopfkgbaaDoorInts
import Derived.Test.YtpbjddiopfkgbaaDoorToFi
import Derived.Test.YtpbjddiopfkgbaaDoorBytesNe
import Derived.BigQuiet
import Derived.Lib.QuietBelow
import Derived.Test.YtpbjddiopfkgbaaDoorStepM
import Derived.Test.YtpbjddiopfkgbaaDoorSerM
import Derived.Test.YtpbjddiopfkgbaaDoorArg
namespace Go.Proofs.YtpbjddiopfkgbaaDoor
set_option linter.unusedVariables false
open Go.RowKit

def tiList : List ByteArray := [⟨#[97, 112, 112, 101, 97, 108, 115]⟩, ⟨#[98, 117, 100, 103, 101, 116]⟩, ⟨#[99, 108, 97, 105, 109, 115]⟩, ⟨#[100, 101, 101, 100, 115]⟩, ⟨#[101, 118, 101, 110, 116, 115]⟩]
theorem ti_short {s : ByteArray} (h : s ∈ tiList) : s.size ≤ 11 := by
  have : ∀ x ∈ tiList, x.size ≤ 11 := by decide
  exact this s h
def baList : List ByteArray := [⟨#[]⟩, ⟨#[65]⟩, ⟨#[97, 98, 99, 100, 101, 102, 103, 104, 105, 106, 107]⟩]
theorem ba_short {s : ByteArray} (h : s ∈ baList) : s.size ≤ 11 := by
  have : ∀ x ∈ baList, x.size ≤ 11 := by decide
  exact this s h
structure Dc (w0 w : World) (B K : Nat) : Prop where
  cur : Cur w B K
  gr : w0.grownBy w (some B)
theorem Dc.step {w0 w w' : World} {B K K' : Nat} (h : Dc w0 w B K) (hc : Cur w' B K') (hg : w.grownBy w' (some B)) : Dc w0 w' B K' := ⟨hc, grownBy_trans h.gr hg⟩
theorem Dc.al {w0 w : World} {B K : Nat} (h : Dc w0 w B K) (ob : Obj) : Dc w0 (w.alloc ob) B K :=
  h.step (h.cur.later (Below.alloc (Below.refl (B + 1) w) h.cur.lt ob)) (World.grownBy_alloc w ob _)
theorem Dc.le {w0 w : World} {B K K' : Nat} (h : Dc w0 w B K) (hk : K ≤ K') : Dc w0 w B K' := ⟨h.cur.le_K hk, h.gr⟩
theorem Dc.set {w0 w : World} {B K F j : Nat} {u : Value} (h : Dc w0 w B K) (hF : w0.heap.size ≤ F) (hB : B < F) : Dc w0 (w.setCell ⟨F, j, none⟩ u) B K := by
  refine ⟨h.cur.later ((Below.refl (B + 1) w).setCell (p := ⟨F, j, none⟩) hB u), h.gr.os, h.gr.tape, h.gr.output, by simpa using h.gr.size, fun k hk hr => ?_⟩
  exact (Below.heap_setCell w ⟨F, j, none⟩ u k (by simp; omega)).trans (h.gr.block k hk hr)
def FBF (w : World) (B F : Nat) (f : Fi) : Prop := w.ownsRow (B + 1) 43 7 (.slice (some ⟨F, 0, none⟩) 1 1) 1 (fiC f)
theorem FBF.new {B : Nat} (w : World) (f : Fi) (hb : B + 1 ≤ w.heap.size) : FBF (w.alloc (.cells (fiC f).toArray 43 (0, 0))) B w.heap.size f :=
  ⟨by simp [fiC], .inr ⟨w.heap.size, 1, _, rfl, hb, heap_alloc_new w _, Nat.le_refl _, by unfold maxLen; omega, rfl, by simp [fiC]⟩⟩
theorem FBF.grown {w w' : World} {B F : Nat} {f : Fi} (h : FBF w B F f) (hg : w.grownBy w' (some B)) : FBF w' B F f :=
  World.ownsRow.kept h hg (.inr fun e => by have := (World.ownsRow.lt h F rfl).1; simp [Value.ownBlock] at e; omega)
theorem FBF.al {w : World} {B F : Nat} {f : Fi} (h : FBF w B F f) (o : Obj) : FBF (w.alloc o) B F f := World.ownsRow.alloc h o
theorem FBF.cell {w : World} {B F : Nat} {f : Fi} (h : FBF w B F f) (j : Nat) (hj : j < 7) : w.cell? ⟨F, j, none⟩ = (fiC f)[j]? := World.ownsRow.cellAt h j (by omega)
theorem FBF.frozen {w : World} {B F : Nat} {f : Fi} (h : FBF w B F f) (j : Nat) : w.frozen? ⟨F, j, none⟩ = false := World.ownsRow.frozenAt h j
theorem FBF.set {w : World} {B F : Nat} {f g : Fi} (j : Nat) (u : Value) (h : FBF w B F f) (he : (fiC f).set j u = fiC g) : FBF (w.setCell ⟨F, j, none⟩ u) B F g := by
  have := (World.ownsRow.stored h j u).1
  rw [he] at this
  exact this
theorem FBF.other {w : World} {B F G j : Nat} {f : Fi} {u : Value} (h : FBF w B F f) (hn : F ≠ G) : FBF (w.setCell ⟨G, j, none⟩ u) B F f := by
  have hg : w.grownBy (w.setCell ⟨G, j, none⟩ u) (some G) := ⟨rfl, rfl, rfl, by simp, fun k _ hk => Below.heap_setCell w ⟨G, j, none⟩ u k (fun e => hk (by rw [e]))⟩
  exact World.ownsRow.kept h hg (.inr fun e => hn (Option.some.inj e))
theorem FBF.cells {w : World} {B F : Nat} {x0 x1 : Int} {x2 : ByteArray} {x3 x4 x5 x6 : Int} (h : FBF w B F ⟨x0, x1, x2, x3, x4, x5, x6⟩) : w.cell? ⟨F, 0, none⟩ = some (.int .i64 x0) ∧ w.cell? ⟨F, 1, none⟩ = some (.int .i64 x1) ∧ w.cell? ⟨F, 2, none⟩ = some (.string x2) ∧ w.cell? ⟨F, 3, none⟩ = some (.int .i64 x3) ∧ w.cell? ⟨F, 4, none⟩ = some (.int .i64 x4) ∧ w.cell? ⟨F, 5, none⟩ = some (.int .i64 x5) ∧ w.cell? ⟨F, 6, none⟩ = some (.int .i64 x6) :=
  ⟨h.cell 0 (by omega), h.cell 1 (by omega), h.cell 2 (by omega), h.cell 3 (by omega), h.cell 4 (by omega), h.cell 5 (by omega), h.cell 6 (by omega)⟩

theorem l1Least_any (a b : Int) (w : World) : Calls Tryd.prog 62 #[.int .i64 a, .int .i64 b] w fun e w' => e = .returned (.int .i64 (min a b)) ∧ w' = w := by
  by_cases h : a < b
  · rw [show min a b = a by omega]
    go_enter Tryd.func62, Tryd.ntmps62
    go_wp2
    go_ret
    exact ⟨rfl, rfl⟩
  · rw [show min a b = b by omega]
    go_enter Tryd.func62, Tryd.ntmps62
    go_wp2
    go_ret
    exact ⟨rfl, rfl⟩
theorem valsD {t : List Fi} {k : Nat} {f : Fi} (ht : areFi t = true) (hk : k < t.length) (hx : t.getD k fiD = f) : isFi f = true := by
  have := fi_mem ht _ (List.getElem_mem hk)
  rwa [← getFi_lt hk, hx] at this
def FileDrawn (w : World) (B K : Nat) (e : Ending) (w' : World) : Prop := ∃ f : Fi, e = .returned (.agg #[.int .i64 f.id, .int .i64 f.series, .string f.title, .int .i64 f.opened, .int .i64 f.closed, .int .i64 f.state, .int .i64 f.pages]) ∧ f.ok ∧ Cur w' B K ∧ w.grownBy w' (some B)

set_option maxRecDepth 20000 in
set_option maxHeartbeats 4000000 in
theorem file5_any (B K : Nat) (id : Int) (w : World) (h : Cur w B K) (hK : K ≤ 100000) (hid : inI id) :
    Calls Tryd.prog 63 #[.pointer (some ⟨B, 0, none⟩), .int .i64 id] w (FileDrawn w B (K + 30)) := by
  have hlt := h.lt
  obtain ⟨R, hR⟩ : ∃ R, w.heap.size = R := ⟨_, rfl⟩
  have HD0 : Hid (Dc w (w.alloc (.cells #[.int .i64 0, .int .i64 0, .string ⟨#[]⟩, .int .i64 0, .int .i64 0, .int .i64 0, .int .i64 0] 43 (0, 0))) B K) := Lib.hid ((⟨h, World.grownBy.refl _ _⟩ : Dc w w B K).al _)
  have HR0 : Hid (FBF (w.alloc (.cells #[.int .i64 0, .int .i64 0, .string ⟨#[]⟩, .int .i64 0, .int .i64 0, .int .i64 0, .int .i64 0] 43 (0, 0))) B R fiD) := Lib.hid (by rw [← hR]; exact FBF.new w fiD hlt)
  clear h
  have HRE := Lib.hid hR
  clear hR
  go_enter Tryd.func63, Tryd.ntmps63
  go_upto_region 1 with fail
  try rw [HRE.out]
  generalize hW0 : w.alloc (.cells #[.int .i64 0, .int .i64 0, .string ⟨#[]⟩, .int .i64 0, .int .i64 0, .int .i64 0, .int .i64 0] 43 (0, 0)) = W0 at *
  have HW0 := Lib.hid hW0
  clear hW0
  go_wp2_with fail
  refine (among_any B (K + 0) W0.heap.size 0 4 4 [1, 1, 2, 99] _ (HD0.out.al (.cells (([1, 1, 2, 99] : List Int).map (Value.int .i64)).toArray 3)).cur (by omega) rfl (by omega) (by omega) (by have := HD0.out.cur.lt; omega) (new_nums W0 [1, 1, 2, 99] 3 _ rfl)).mono ?_
  rintro e w1 ⟨x1, rfl, mx1, hc, hg⟩
  have HD1 := Lib.hid ((HD0.out.al (.cells (([1, 1, 2, 99] : List Int).map (Value.int .i64)).toArray 3)).step hc hg)
  have HR1 := Lib.hid ((HR0.out.al (.cells (([1, 1, 2, 99] : List Int).map (Value.int .i64)).toArray 3)).grown hg)
  have ix1 : inI x1 := by simp at mx1; unfold inI; omega
  clear hc hg HD0 HR0
  go_wp2_with fail
  refine (of_any B (K + 2) w1.heap.size 0 5 5 tiList _ (HD1.out.al (.cells (tiList.map Value.string).toArray 9)).cur (by omega) rfl (by omega) (by omega) (by have := HD1.out.cur.lt; omega) (new_cells w1 tiList 9 _ rfl)).mono ?_
  rintro e w2 ⟨x2, rfl, mx2, hc, hg⟩
  have HD2 := Lib.hid ((HD1.out.al (.cells (tiList.map Value.string).toArray 9)).step hc hg)
  have HR2 := Lib.hid ((HR1.out.al (.cells (tiList.map Value.string).toArray 9)).grown hg)
  have ix2 : x2.size ≤ 11 := ti_short mx2
  clear hc hg HD1 HR1
  go_wp2_with fail
  refine (among_any B (K + 4) w2.heap.size 0 5 5 [0, 10, 10, 500, 20000] _ (HD2.out.al (.cells (([0, 10, 10, 500, 20000] : List Int).map (Value.int .i64)).toArray 3)).cur (by omega) rfl (by omega) (by omega) (by have := HD2.out.cur.lt; omega) (new_nums w2 [0, 10, 10, 500, 20000] 3 _ rfl)).mono ?_
  rintro e w3 ⟨x3, rfl, mx3, hc, hg⟩
  have HD3 := Lib.hid ((HD2.out.al (.cells (([0, 10, 10, 500, 20000] : List Int).map (Value.int .i64)).toArray 3)).step hc hg)
  have HR3 := Lib.hid ((HR2.out.al (.cells (([0, 10, 10, 500, 20000] : List Int).map (Value.int .i64)).toArray 3)).grown hg)
  have ix3 : inI x3 := by simp at mx3; unfold inI; omega
  clear hc hg HD2 HR2
  have b3 : -1 ≤ x3 ∧ x3 ≤ 20001 := by simp at mx3; omega
  go_wp2_with fail
  refine (among_any B (K + 6) w3.heap.size 0 5 5 [0, 0, 1, 1, 2] _ (HD3.out.al (.cells (([0, 0, 1, 1, 2] : List Int).map (Value.int .i64)).toArray 3)).cur (by omega) rfl (by omega) (by omega) (by have := HD3.out.cur.lt; omega) (new_nums w3 [0, 0, 1, 1, 2] 3 _ rfl)).mono ?_
  rintro e w4 ⟨x5, rfl, mx5, hc, hg⟩
  have HD4 := Lib.hid ((HD3.out.al (.cells (([0, 0, 1, 1, 2] : List Int).map (Value.int .i64)).toArray 3)).step hc hg)
  have HR4 := Lib.hid ((HR3.out.al (.cells (([0, 0, 1, 1, 2] : List Int).map (Value.int .i64)).toArray 3)).grown hg)
  have ix5 : inI x5 := by simp at mx5; unfold inI; omega
  clear hc hg HD3 HR3
  go_wp2_with fail
  refine (among_any B (K + 8) w4.heap.size 0 6 6 [0, 1, 2, 300, 4900, 5000] _ (HD4.out.al (.cells (([0, 1, 2, 300, 4900, 5000] : List Int).map (Value.int .i64)).toArray 3)).cur (by omega) rfl (by omega) (by omega) (by have := HD4.out.cur.lt; omega) (new_nums w4 [0, 1, 2, 300, 4900, 5000] 3 _ rfl)).mono ?_
  rintro e w5 ⟨x6, rfl, mx6, hc, hg⟩
  have HD5 := Lib.hid ((HD4.out.al (.cells (([0, 1, 2, 300, 4900, 5000] : List Int).map (Value.int .i64)).toArray 3)).step hc hg)
  have HR5 := Lib.hid ((HR4.out.al (.cells (([0, 1, 2, 300, 4900, 5000] : List Int).map (Value.int .i64)).toArray 3)).grown hg)
  have ix6 : inI x6 := by simp at mx6; unfold inI; omega
  clear hc hg HD4 HR4
  obtain ⟨F, hF⟩ : ∃ F, w5.heap.size = F := ⟨_, rfl⟩
  have hFw : w.heap.size ≤ F := by rw [← hF]; exact HD5.out.gr.size
  have hRF : R < F := by have := (World.ownsRow.lt HR5.out R rfl).2; omega
  have hFB : B < F := by omega
  have HD9 := Lib.hid (HD5.out.al (.cells #[.int .i64 id, .int .i64 x1, .string x2, .int .i64 x3, .int .i64 0, .int .i64 x5, .int .i64 x6] 43 (0, 0)))
  have HR9 := Lib.hid (HR5.out.al (.cells #[.int .i64 id, .int .i64 x1, .string x2, .int .i64 x3, .int .i64 0, .int .i64 x5, .int .i64 x6] 43 (0, 0)))
  have HF9 : Hid (FBF (w5.alloc (.cells #[.int .i64 id, .int .i64 x1, .string x2, .int .i64 x3, .int .i64 0, .int .i64 x5, .int .i64 x6] 43 (0, 0))) B F ⟨id, x1, x2, x3, 0, x5, x6⟩) := Lib.hid (by rw [← hF]; exact FBF.new w5 ⟨id, x1, x2, x3, 0, x5, x6⟩ (by omega))
  clear mx1 mx2 mx3 mx5 mx6 HD5 HR5
  go_upto_if 25 with fail
  try rw [hF]
  have HFE := Lib.hid hF
  clear hF
  generalize hW9 : w5.alloc (.cells #[.int .i64 id, .int .i64 x1, .string x2, .int .i64 x3, .int .i64 0, .int .i64 x5, .int .i64 x6] 43 (0, 0)) = W9 at *
  have HW9 := Lib.hid hW9
  clear hW9
  go_cut [5] from 6 to 78 (fun q wx => q = .pointer (some ⟨F, 0, none⟩) ∧ ∃ y4, inI y4 ∧ Hid (Dc w wx B (K + 12)) ∧ Hid (FBF wx B R fiD) ∧ Hid (FBF wx B F ⟨id, x1, x2, x3, y4, x5, x6⟩))
  case first =>
    by_cases s0 : x5 = 0
    · have s1 : (x5 != 0) = false := by simp [s0]
      subst s0
      go_wp2_with fail
      go_meet
      exact ⟨rfl, 0, by simp [inI], Lib.hid (HD9.out.le (by omega)), HR9, HF9⟩
    · have s1 : (x5 != 0) = true := by simp [s0]
      have HDd : Hid (Dc w W9.drew B (K + 10)) := Lib.hid ⟨HD9.out.cur.later (Below.refl _ _).drew, grownBy_trans HD9.out.gr ⟨rfl, rfl, rfl, Nat.le_refl _, fun _ _ _ => rfl⟩⟩
      have HRd : Hid (FBF W9.drew B R fiD) := HR9
      have HFd : Hid (FBF W9.drew B F ⟨id, x1, x2, x3, 0, x5, x6⟩) := HF9
      have f3 := HFd.out.cells.2.2.2.1
      have lB := HDd.out.cur.lt
      go_upto_region 3 with fail
      go_region_held3 (fun w' => w'.cell? ⟨F, 3, none⟩ = some (.int .i64 x3)) (first | exact f3 | exact g3 | exact below_al_cell f3 _ | exact (cellset_other _ (by simp)).trans g3 | go_keep) (first | (go_at_call 64; refine (among_any B (K + 10) W9.drew.heap.size 0 3 3 [0, 5, 400] _ (HDd.out.al (.cells (([0, 5, 400] : List Int).map (Value.int .i64)).toArray 3)).cur (by omega) rfl (by omega) (by omega) (by omega) (new_nums W9.drew [0, 5, 400] 3 _ rfl)).mono ?_; rintro e wa ⟨r, rfl, mr, hc, hg⟩; have HDa := Lib.hid ((HDd.out.al (.cells (([0, 5, 400] : List Int).map (Value.int .i64)).toArray 3)).step hc hg); have HRa := Lib.hid ((HRd.out.al (.cells (([0, 5, 400] : List Int).map (Value.int .i64)).toArray 3)).grown hg); have HFa := Lib.hid ((HFd.out.al (.cells (([0, 5, 400] : List Int).map (Value.int .i64)).toArray 3)).grown hg); have g3 := HFa.out.cells.2.2.2.1; have g4 := HFa.out.cells.2.2.2.2.1; have gf := HFa.out.frozen 4; have br : 0 ≤ r ∧ r ≤ 400 := (by simp at mr; omega); have hwr : IntKind.i64.wrap (x3 + r) = x3 + r := Go.IntWalk.i64_in _ (by omega); clear hc hg) | (go_at_call 62; refine (l1Least_any _ _ _).mono ?_; rintro e wz ⟨rfl, rfl⟩))
      all_goals
        go_wp2_with fail
        go_meet
        exact ⟨rfl, min 20000 (x3 + r), by unfold inI; omega, Lib.hid (HDa.out.set hFw hFB), Lib.hid (HRa.out.other (by omega)), Lib.hid (HFa.out.set 4 _ rfl)⟩
  case rest =>
    obtain ⟨rfl, y4, iy4, HDc, HRc, HFc⟩ := hcut
    clear HD9 HR9 HF9
    obtain ⟨W10, hW10⟩ : ∃ x, x = wc := ⟨_, rfl⟩
    subst hW10
    go_upto_block 0 with (first | (go_at_call 59; refine (pick_any B (K + 12) 80 _ HDc.out.cur (by omega) (by omega) (by omega)).mono ?_; rintro e w20 ⟨m, rfl, hm0, hm1, hc, hg⟩; have HDs := Lib.hid (HDc.out.step hc hg); have HRs := Lib.hid (HRc.out.grown hg); have HFs := Lib.hid (HFc.out.grown hg); clear hc hg))
    clear HDc HRc HFc
    go_cut [5] from 6 to 78 (fun q wx => q = .pointer (some ⟨F, 0, none⟩) ∧ ∃ f : Fi, f.ok ∧ Hid (Dc w wx B (K + 18)) ∧ Hid (FBF wx B R fiD) ∧ Hid (FBF wx B F f))
    case first =>
      have i3 : inI x3 := by unfold inI; omega
      have i2 : x2.size ≤ maxLen := Nat.le_trans ix2 (by decide)
      by_cases e0 : m = 0
      · subst e0
        go_wp2_with fail
        refine (among_any B (K + 14) w20.heap.size 0 3 3 [0, 999, 1000] _ (HDs.out.al (.cells (([0, 999, 1000] : List Int).map (Value.int .i64)).toArray 3)).cur (by omega) rfl (by omega) (by omega) (by have := HDs.out.cur.lt; omega) (new_nums w20 [0, 999, 1000] 3 _ rfl)).mono ?_
        rintro e w21 ⟨r, rfl, mr, hc, hg⟩
        have HDt := Lib.hid ((HDs.out.al (.cells (([0, 999, 1000] : List Int).map (Value.int .i64)).toArray 3)).step hc hg)
        have HRt := Lib.hid ((HRs.out.al (.cells (([0, 999, 1000] : List Int).map (Value.int .i64)).toArray 3)).grown hg)
        have HFt := Lib.hid ((HFs.out.al (.cells (([0, 999, 1000] : List Int).map (Value.int .i64)).toArray 3)).grown hg)
        have ir : inI r := by simp at mr; unfold inI; omega
        obtain ⟨c0, c1, c2, c3, c4, c5, c6⟩ := HFt.out.cells
        have fc := c0
        have ff := HFt.out.frozen 0
        clear hc hg mr c0 c1 c2 c3 c4 c5 c6
        go_wp2_with fail
        go_meet
        exact ⟨rfl, ⟨r, x1, x2, x3, y4, x5, x6⟩, ⟨ir, ix1, i2, i3, iy4, ix5, ix6⟩, Lib.hid ((HDt.out.set hFw hFB).le (by omega)), Lib.hid (HRt.out.other (by omega)), Lib.hid (HFt.out.set 0 _ rfl)⟩
      · have b0 : (m == 0) = false := beq_eq_false_iff_ne.2 e0
        by_cases e1 : m = 1
        · subst e1
          go_wp2_with fail
          refine (among_any B (K + 14) w20.heap.size 0 2 2 [0, 100] _ (HDs.out.al (.cells (([0, 100] : List Int).map (Value.int .i64)).toArray 3)).cur (by omega) rfl (by omega) (by omega) (by have := HDs.out.cur.lt; omega) (new_nums w20 [0, 100] 3 _ rfl)).mono ?_
          rintro e w21 ⟨r, rfl, mr, hc, hg⟩
          have HDt := Lib.hid ((HDs.out.al (.cells (([0, 100] : List Int).map (Value.int .i64)).toArray 3)).step hc hg)
          have HRt := Lib.hid ((HRs.out.al (.cells (([0, 100] : List Int).map (Value.int .i64)).toArray 3)).grown hg)
          have HFt := Lib.hid ((HFs.out.al (.cells (([0, 100] : List Int).map (Value.int .i64)).toArray 3)).grown hg)
          have ir : inI r := by simp at mr; unfold inI; omega
          obtain ⟨c0, c1, c2, c3, c4, c5, c6⟩ := HFt.out.cells
          have fc := c1
          have ff := HFt.out.frozen 1
          clear hc hg mr c0 c1 c2 c3 c4 c5 c6
          go_wp2_with fail
          go_meet
          exact ⟨rfl, ⟨id, r, x2, x3, y4, x5, x6⟩, ⟨hid, ir, i2, i3, iy4, ix5, ix6⟩, Lib.hid ((HDt.out.set hFw hFB).le (by omega)), Lib.hid (HRt.out.other (by omega)), Lib.hid (HFt.out.set 1 _ rfl)⟩
        · have b1 : (m == 1) = false := beq_eq_false_iff_ne.2 e1
          by_cases e2 : m = 2
          · subst e2
            go_wp2_with fail
            refine (of_any B (K + 14) w20.heap.size 0 3 3 baList _ (HDs.out.al (.cells (baList.map Value.string).toArray 9)).cur (by omega) rfl (by omega) (by omega) (by have := HDs.out.cur.lt; omega) (new_cells w20 baList 9 _ rfl)).mono ?_
            rintro e w21 ⟨r, rfl, mr, hc, hg⟩
            have HDt := Lib.hid ((HDs.out.al (.cells (baList.map Value.string).toArray 9)).step hc hg)
            have HRt := Lib.hid ((HRs.out.al (.cells (baList.map Value.string).toArray 9)).grown hg)
            have HFt := Lib.hid ((HFs.out.al (.cells (baList.map Value.string).toArray 9)).grown hg)
            have ir : r.size ≤ maxLen := Nat.le_trans (ba_short mr) (by decide)
            obtain ⟨c0, c1, c2, c3, c4, c5, c6⟩ := HFt.out.cells
            have fc := c2
            have ff := HFt.out.frozen 2
            clear hc hg mr c0 c1 c2 c3 c4 c5 c6
            go_wp2_with fail
            go_meet
            exact ⟨rfl, ⟨id, x1, r, x3, y4, x5, x6⟩, ⟨hid, ix1, ir, i3, iy4, ix5, ix6⟩, Lib.hid ((HDt.out.set hFw hFB).le (by omega)), Lib.hid (HRt.out.other (by omega)), Lib.hid (HFt.out.set 2 _ rfl)⟩
          · have b2 : (m == 2) = false := beq_eq_false_iff_ne.2 e2
            by_cases e3 : m = 3
            · subst e3
              go_wp2_with fail
              refine (among_any B (K + 14) w20.heap.size 0 2 2 [-1, 20001] _ (HDs.out.al (.cells (([-1, 20001] : List Int).map (Value.int .i64)).toArray 3)).cur (by omega) rfl (by omega) (by omega) (by have := HDs.out.cur.lt; omega) (new_nums w20 [-1, 20001] 3 _ rfl)).mono ?_
              rintro e w21 ⟨r, rfl, mr, hc, hg⟩
              have HDt := Lib.hid ((HDs.out.al (.cells (([-1, 20001] : List Int).map (Value.int .i64)).toArray 3)).step hc hg)
              have HRt := Lib.hid ((HRs.out.al (.cells (([-1, 20001] : List Int).map (Value.int .i64)).toArray 3)).grown hg)
              have HFt := Lib.hid ((HFs.out.al (.cells (([-1, 20001] : List Int).map (Value.int .i64)).toArray 3)).grown hg)
              have ir : inI r := by simp at mr; unfold inI; omega
              obtain ⟨c0, c1, c2, c3, c4, c5, c6⟩ := HFt.out.cells
              have fc := c3
              have ff := HFt.out.frozen 3
              clear hc hg mr c0 c1 c2 c3 c4 c5 c6
              go_wp2_with fail
              go_meet
              exact ⟨rfl, ⟨id, x1, x2, r, y4, x5, x6⟩, ⟨hid, ix1, i2, ir, iy4, ix5, ix6⟩, Lib.hid ((HDt.out.set hFw hFB).le (by omega)), Lib.hid (HRt.out.other (by omega)), Lib.hid (HFt.out.set 3 _ rfl)⟩
            · have b3 : (m == 3) = false := beq_eq_false_iff_ne.2 e3
              by_cases e4 : m = 4
              · subst e4
                go_wp2_with fail
                refine (among_any B (K + 14) w20.heap.size 0 3 3 [-1, 5, 20001] _ (HDs.out.al (.cells (([-1, 5, 20001] : List Int).map (Value.int .i64)).toArray 3)).cur (by omega) rfl (by omega) (by omega) (by have := HDs.out.cur.lt; omega) (new_nums w20 [-1, 5, 20001] 3 _ rfl)).mono ?_
                rintro e w21 ⟨r, rfl, mr, hc, hg⟩
                have HDt := Lib.hid ((HDs.out.al (.cells (([-1, 5, 20001] : List Int).map (Value.int .i64)).toArray 3)).step hc hg)
                have HRt := Lib.hid ((HRs.out.al (.cells (([-1, 5, 20001] : List Int).map (Value.int .i64)).toArray 3)).grown hg)
                have HFt := Lib.hid ((HFs.out.al (.cells (([-1, 5, 20001] : List Int).map (Value.int .i64)).toArray 3)).grown hg)
                have ir : inI r := by simp at mr; unfold inI; omega
                obtain ⟨c0, c1, c2, c3, c4, c5, c6⟩ := HFt.out.cells
                have fc := c4
                have ff := HFt.out.frozen 4
                clear hc hg mr c0 c1 c2 c3 c4 c5 c6
                go_wp2_with fail
                go_meet
                exact ⟨rfl, ⟨id, x1, x2, x3, r, x5, x6⟩, ⟨hid, ix1, i2, i3, ir, ix5, ix6⟩, Lib.hid ((HDt.out.set hFw hFB).le (by omega)), Lib.hid (HRt.out.other (by omega)), Lib.hid (HFt.out.set 4 _ rfl)⟩
              · have b4 : (m == 4) = false := beq_eq_false_iff_ne.2 e4
                by_cases e5 : m = 5
                · subst e5
                  go_wp2_with fail
                  refine (among_any B (K + 14) w20.heap.size 0 2 2 [-1, 3] _ (HDs.out.al (.cells (([-1, 3] : List Int).map (Value.int .i64)).toArray 3)).cur (by omega) rfl (by omega) (by omega) (by have := HDs.out.cur.lt; omega) (new_nums w20 [-1, 3] 3 _ rfl)).mono ?_
                  rintro e w21 ⟨r, rfl, mr, hc, hg⟩
                  have HDt := Lib.hid ((HDs.out.al (.cells (([-1, 3] : List Int).map (Value.int .i64)).toArray 3)).step hc hg)
                  have HRt := Lib.hid ((HRs.out.al (.cells (([-1, 3] : List Int).map (Value.int .i64)).toArray 3)).grown hg)
                  have HFt := Lib.hid ((HFs.out.al (.cells (([-1, 3] : List Int).map (Value.int .i64)).toArray 3)).grown hg)
                  have ir : inI r := by simp at mr; unfold inI; omega
                  obtain ⟨c0, c1, c2, c3, c4, c5, c6⟩ := HFt.out.cells
                  have fc := c5
                  have ff := HFt.out.frozen 5
                  clear hc hg mr c0 c1 c2 c3 c4 c5 c6
                  go_wp2_with fail
                  go_meet
                  exact ⟨rfl, ⟨id, x1, x2, x3, y4, r, x6⟩, ⟨hid, ix1, i2, i3, iy4, ir, ix6⟩, Lib.hid ((HDt.out.set hFw hFB).le (by omega)), Lib.hid (HRt.out.other (by omega)), Lib.hid (HFt.out.set 5 _ rfl)⟩
                · have b5 : (m == 5) = false := beq_eq_false_iff_ne.2 e5
                  by_cases e6 : m = 6
                  · subst e6
                    go_wp2_with fail
                    refine (among_any B (K + 14) w20.heap.size 0 2 2 [-1, 5001] _ (HDs.out.al (.cells (([-1, 5001] : List Int).map (Value.int .i64)).toArray 3)).cur (by omega) rfl (by omega) (by omega) (by have := HDs.out.cur.lt; omega) (new_nums w20 [-1, 5001] 3 _ rfl)).mono ?_
                    rintro e w21 ⟨r, rfl, mr, hc, hg⟩
                    have HDt := Lib.hid ((HDs.out.al (.cells (([-1, 5001] : List Int).map (Value.int .i64)).toArray 3)).step hc hg)
                    have HRt := Lib.hid ((HRs.out.al (.cells (([-1, 5001] : List Int).map (Value.int .i64)).toArray 3)).grown hg)
                    have HFt := Lib.hid ((HFs.out.al (.cells (([-1, 5001] : List Int).map (Value.int .i64)).toArray 3)).grown hg)
                    have ir : inI r := by simp at mr; unfold inI; omega
                    obtain ⟨c0, c1, c2, c3, c4, c5, c6⟩ := HFt.out.cells
                    have fc := c6
                    have ff := HFt.out.frozen 6
                    clear hc hg mr c0 c1 c2 c3 c4 c5 c6
                    go_wp2_with fail
                    go_meet
                    exact ⟨rfl, ⟨id, x1, x2, x3, y4, x5, r⟩, ⟨hid, ix1, i2, i3, iy4, ix5, ir⟩, Lib.hid ((HDt.out.set hFw hFB).le (by omega)), Lib.hid (HRt.out.other (by omega)), Lib.hid (HFt.out.set 6 _ rfl)⟩
                  · have b6 : (m == 6) = false := beq_eq_false_iff_ne.2 e6
                    go_wp2_with fail
                    go_meet
                    exact ⟨rfl, ⟨id, x1, x2, x3, y4, x5, x6⟩, ⟨hid, ix1, i2, i3, iy4, ix5, ix6⟩, Lib.hid (HDs.out.le (by omega)), HRs, HFs⟩
    case rest =>
      obtain ⟨rfl, ⟨z0, z1, z2, z3, z4, z5, z6⟩, hok, HD, HR, HF⟩ := hcut
      clear HDs HRs HFs
      obtain ⟨W11, hW11⟩ : ∃ x, x = wc := ⟨_, rfl⟩
      subst hW11
      have hwR : w.heap.size ≤ R := Nat.le_of_eq HRE.out
      have hBR : B < R := by omega
      obtain ⟨f0, f1, f2, f3, f4, f5, f6⟩ := HF.out.cells
      obtain ⟨r0, r1, r2, r3, r4, r5, r6⟩ := HR.out.cells
      have t0 := HR.out.frozen 0
      have t1 := HR.out.frozen 1
      have t2 := HR.out.frozen 2
      have t3 := HR.out.frozen 3
      have t4 := HR.out.frozen 4
      have t5 := HR.out.frozen 5
      have t6 := HR.out.frozen 6
      have hok2 := Lib.hid hok
      clear hok
      go_wp2_with fail
      refine bodyPost_ret (v := .agg #[.int .i64 z0, .int .i64 z1, .string z2, .int .i64 z3, .int .i64 z4, .int .i64 z5, .int .i64 z6]) (by simp [results, Tryd.results63, go_sem, r0, r1, r2, r3, r4, r5, r6]) rfl ?_
      have hD := (((((((HD.out.set (F := R) (j := 0) (u := .int .i64 z0) hwR hBR).set (F := R) (j := 1) (u := .int .i64 z1) hwR hBR).set (F := R) (j := 2) (u := .string z2) hwR hBR).set (F := R) (j := 3) (u := .int .i64 z3) hwR hBR).set (F := R) (j := 4) (u := .int .i64 z4) hwR hBR).set (F := R) (j := 5) (u := .int .i64 z5) hwR hBR).set (F := R) (j := 6) (u := .int .i64 z6) hwR hBR)
      exact ⟨⟨z0, z1, z2, z3, z4, z5, z6⟩, rfl, hok2.out, hD.cur.le_K (by omega), hD.gr⟩
end Go.Proofs.YtpbjddiopfkgbaaDoor

namespace Go.Proofs.YtpbjddiopfkgbaaDoor
set_option linter.unusedVariables false
open Go.RowKit

structure DrF (w0 w : World) (B K : Nat) (o : Value) (t : List Fi) : Prop where
  cur : Cur w B K
  out : FisO (B + 1) w.heap.size w o t
  gr : w0.grownBy w (some B)
theorem DrF.step {w0 w w' : World} {B K K' : Nat} {o : Value} {t : List Fi} (h : DrF w0 w B K o t) (hc : Cur w' B K') (hg : w.grownBy w' (some B)) : DrF w0 w' B K' o t :=
  ⟨hc, (h.out.grown hg (by omega)).wide (Nat.le_refl _) hg.size, grownBy_trans h.gr hg⟩
theorem DrF.al {w0 w : World} {B K : Nat} {o : Value} {t : List Fi} (h : DrF w0 w B K o t) (ob : Obj) : DrF w0 (w.alloc ob) B K o t :=
  h.step (h.cur.later (Below.alloc (Below.refl (B + 1) w) h.cur.lt ob)) (World.grownBy_alloc w ob _)
theorem DrF.below {w0 w w' : World} {B K : Nat} {o : Value} {t : List Fi} (h : DrF w0 w B K o t) (hb : Below w.heap.size w w') : DrF w0 w' B K o t :=
  h.step (h.cur.later (hb.mono h.cur.lt)) ⟨hb.os, hb.tape, hb.output, hb.size, fun k hk _ => hb.block k hk⟩
theorem gr_appF {w w3 w4 : World} {B : Nat} {ob : Obj} {v : Value} (h : w.grownBy w3 (some B)) (hg : (w3.alloc ob).grownBy w4 v.ownBlock) (hv : ∀ k, v.ownBlock = some k → w.heap.size ≤ k) : w.grownBy w4 (some B) := by
  have h2 := grownBy_trans h (World.grownBy_alloc w3 ob (some B))
  have hs := h2.size
  refine ⟨hg.os.trans h2.os, hg.tape.trans h2.tape, hg.output.trans h2.output, Nat.le_trans hs hg.size, fun k hk hr => ?_⟩
  exact (hg.block k (Nat.lt_of_lt_of_le hk hs) (fun e => by have := hv k e.symm; omega)).trans (h2.block k hk hr)

theorem lit_okF (k : Nat) (h : k ≤ 16) : (⟨(k : Int) + 1, (k : Int) + 1, ⟨#[120]⟩, 0, 0, 0, 9⟩ : Fi).ok :=
  ⟨by simp only [inI]; omega, by simp only [inI]; omega, (by decide : (1 : Nat) ≤ maxLen), by simp [inI], by simp [inI], by simp [inI], by simp [inI]⟩

set_option maxRecDepth 20000 in
set_option maxHeartbeats 2000000 in
theorem files5_any (B K : Nat) (w : World) (h : Cur w B K) (hK : K ≤ 1000) :
    Calls Tryd.prog 48 #[.pointer (some ⟨B, 0, none⟩)] w fun e w' => ∃ v t, e = .returned v ∧ t.length ≤ 12 ∧ (∃ ad c, v = .slice (some ad) t.length c) ∧ DrF w w' B (K + 1000) v t := by
  obtain ⟨i0, hi, hz0, hz1, hz2⟩ := info_parts Tryd.info_fi
  have hlt := h.lt
  have H0 : Hid (DrF w (w.alloc (.cells #[] 43 (0, 0))) B K (.slice (some ⟨w.heap.size, 0, none⟩) 0 0) []) := Lib.hid ⟨h.later (Below.alloc (Below.refl (B + 1) w) hlt _), FisO.empty (lo := B + 1) w hlt, World.grownBy_alloc w _ _⟩
  clear h
  go_enter Tryd.func48, Tryd.ntmps48
  go_wp2_with fail
  refine (pick_any B K 8 _ H0.out.cur (by omega) (by omega) (by omega)).mono ?_
  rintro e w1 ⟨n0, rfl, hn0, hn1, hc1, hg1⟩
  obtain ⟨N, rfl⟩ := Int.eq_ofNat_of_zero_le hn0
  have hN : N ≤ 7 := by omega
  have H1 := Lib.hid (H0.out.step hc1 hg1)
  clear hc1 hg1 hn0 hn1 H0
  go_wp2_with fail
  go_loopw [3, 4, 5] (fun o d n wr => ∃ (ob : Nat) (oc : Nat) (t : List Fi) (id : Int) (k : Nat), k ≤ N ∧ n = .int .i64 k ∧ d = .int .i64 id ∧ 0 ≤ id ∧ id ≤ 3 * ((N : Int) - k) ∧ o = .slice (some ⟨ob, 0, none⟩) t.length oc ∧ t.length + k ≤ N ∧ Hid (DrF w wr B (K + 2 + 40 * (N - k)) (.slice (some ⟨ob, 0, none⟩) t.length oc) t)) (fun _ _ n _ => (intOf n).toNat)
  case atStart => exact ⟨_, _, [], 0, N, Nat.le_refl _, rfl, rfl, by omega, by omega, rfl, by simp, Lib.hid ⟨H1.out.cur.le_K (by omega), H1.out.out, H1.out.gr⟩⟩
  case round =>
    clear H1
    obtain ⟨ob, oc, t, id, k, hk, rfl, rfl, hi0, hi1, rfl, htl, HD⟩ := hrel
    obtain ⟨M, hM⟩ : ∃ M, K + 2 + 40 * (N - k) = M := ⟨_, rfl⟩
    rw [hM] at HD
    by_cases hpos : 0 < k
    · have gk : (0 : Int) < (k : Int) := by omega
      have gk2 : decide ((0 : Int) < (k : Int)) = true := decide_eq_true gk
      have hid0 : IntKind.i64.wrap (id + 1) = id + 1 := Go.IntWalk.i64_in _ (by omega)
      go_wp2_with fail
      refine (pick_any B M 3 _ HD.out.cur (by omega) (by omega) (by omega)).mono ?_
      rintro e w2 ⟨d, rfl, hd0, hd1, hc2, hg2⟩
      have HD2 := Lib.hid (HD.out.step hc2 hg2)
      have hl2 : B < w2.heap.size := hc2.lt
      clear hc2 hg2 HD
      have hid2 : IntKind.i64.wrap (id + 1 + d) = id + 1 + d := Go.IntWalk.i64_in _ (by omega)
      obtain ⟨I, hI⟩ : ∃ I, id + 1 + d = I := ⟨_, rfl⟩
      have hI9 : 0 ≤ I ∧ I ≤ 3 * ((N : Int) - k) + 3 := by omega
      have hII : inI I := by unfold inI; omega
      have HS2 : w.heap.size ≤ w2.heap.size := HD2.out.gr.size
      have hob : ob < w2.heap.size := HD2.out.out.2.2 ob rfl
      have hcells := fis_cells HD2.out.out.row
      obtain ⟨NEWS, hN2⟩ : ∃ N, (t.map fiC).flatten = N := ⟨_, rfl⟩
      have HL : Hid (NEWS.length = t.length * 7) := Lib.hid (by rw [← hN2]; exact flat_map_len fiC_len t)
      have HO : Hid (∀ u ∈ NEWS, u.oneCell' = true) := Lib.hid (by rw [← hN2]; exact flat_one fiC_one _)
      have HC : Hid (∀ W, Below w2.heap.size w2 W → ∀ j u, NEWS[j]? = some u → W.cell? ((⟨ob, 0, none⟩ : Addr).add j) = some u) := Lib.hid (by rw [← hN2]; exact hcells)
      have HNE := Lib.hid hN2
      have hkw : IntKind.i64.wrap ((k : Int) - 1) = ((k - 1 : Nat) : Int) := by
        rw [Go.IntWalk.i64_in _ (by omega)]
        omega
      clear hN2 hcells
      go_wp2_with (first | (at_builtin; refine wpList_append_own _ rfl _ _ 24 rfl w2.heap.size 43 i0 (.agg #[.int .i64 0, .int .i64 0, .string ⟨#[]⟩, .int .i64 0, .int .i64 0, .int .i64 0, .int .i64 0]) 7 64 Tryd.underlying24 hi hz0 hz1 hz2 rfl (by decide) (.slice (some ⟨w2.heap.size, 0, none⟩) 0 0) 0 [] rfl (World.ownsRow_made w2 #[] 0 (Nat.le_refl _) (Nat.zero_le _) rfl) ⟨ob, 0, none⟩ t.length oc NEWS rfl HL.out (HC.out _ (below_al (Below.refl _ w2) _)) HO.out (by unfold maxLen; omega) (by omega) (by simp) ?_; intro v3 w3 hown3 hgrow3 _))
      have b3 : Below w2.heap.size w2 w3 := (below_al (Below.refl _ w2) _).grown hgrow3 (by simp) (fun k hk => Nat.le_of_eq (by simpa [Value.ownBlock] using hk))
      have HD3 := Lib.hid (HD2.out.below b3)
      have HO3 : Hid (w3.ownsRow w2.heap.size 43 7 v3 t.length NEWS) := Lib.hid (by simpa using hown3)
      have s3 := b3.size
      clear hown3 hgrow3 b3 HD2 HC HO
      go_wp2_with fail
      try rw [hid2]
      try rw [hI]
      refine (file5_any B (M + 2) I _ HD3.out.cur (by omega) hII).mono ?_
      rintro e w4 ⟨⟨x0, x1, x2, x3, x4, x5, x6⟩, rfl, hok, hc4, hg4⟩
      have HD4 := Lib.hid (HD3.out.step hc4 hg4)
      have HO4 : Hid (w4.ownsRow w2.heap.size 43 7 v3 t.length NEWS) := Lib.hid (HO3.out.kept hg4 (by
        rcases hv : v3.ownBlock with _ | kk
        · exact .inl rfl
        · exact .inr fun e => by have := (HO3.out.lt kk hv).1; cases e; omega))
      have s4 := hg4.size
      have HOK := Lib.hid hok
      clear hc4 hg4 HD3 HO3 hok
      simp only
      go_wp2_with (first | (at_builtin; refine wpList_append_own _ rfl _ _ 24 rfl w2.heap.size 43 i0 (.agg #[.int .i64 0, .int .i64 0, .string ⟨#[]⟩, .int .i64 0, .int .i64 0, .int .i64 0, .int .i64 0]) 7 64 Tryd.underlying24 hi hz0 hz1 hz2 rfl (by decide) v3 t.length NEWS rfl (HO4.out.alloc _) ⟨w4.heap.size, 0, none⟩ 1 1 [.int .i64 x0, .int .i64 x1, .string x2, .int .i64 x3, .int .i64 x4, .int .i64 x5, .int .i64 x6] rfl rfl (cells7_new' _ _ _ _ _ _ _ _ _ rfl) (by simp [Value.oneCell']) (by unfold maxLen; omega) (by omega) (by simp; omega) ?_; intro v5 w5 hown5 hgrow5 _))
      have hlo5 := fun kk hk => (HO4.out.lt kk hk).1
      have hb5 : Below (B + 1) w4 w5 := Below.grown (Below.alloc (Below.refl (B + 1) w4) HD4.out.cur.lt _) hgrow5 (by simp; have := HD4.out.cur.lt; omega) (fun kk hk => by have := hlo5 kk hk; omega)
      have HD5 : Hid (DrF w w5 B (M + 32) (.slice (some ⟨ob, 0, none⟩) t.length oc) t) := Lib.hid ⟨HD4.out.cur.later hb5, ⟨⟨(World.ownsRow.alloc HD4.out.out.1.1 _).kept hgrow5 (.inr fun e => by have := hlo5 ob e.symm; omega), HD4.out.out.1.2⟩, HD4.out.out.2.1, fun g hg => by have e : ob = g := (by simpa [Value.ownBlock] using hg); have := hb5.size; omega⟩, gr_appF HD4.out.gr hgrow5 (fun kk hk => by have := hlo5 kk hk; have := HD4.out.gr.size; omega)⟩
      have HX5 : Hid (FisO (B + 1) w5.heap.size w5 v5 (t ++ [⟨x0, x1, x2, x3, x4, x5, x6⟩])) := Lib.hid (FisO.of_row (n := t.length + 1) (by
        have e : ((t ++ [(⟨x0, x1, x2, x3, x4, x5, x6⟩ : Fi)]).map fiC).flatten = (NEWS ++ [.int .i64 x0, .int .i64 x1, .string x2, .int .i64 x3, .int .i64 x4, .int .i64 x5, .int .i64 x6] : List Value) := by
          rw [List.map_append, List.flatten_append, HNE.out]
          simp [fiC]
        rw [e]; exact ownsRow_base_a' hown5 (by omega)) (by simp) (fun f hf => by
        rcases List.mem_append.1 hf with h | h
        · exact HD4.out.out.2.1 f h
        · rw [List.mem_singleton.1 h]; exact HOK.out))
      obtain ⟨na, nc, rfl⟩ := own_formF hown5 (Nat.succ_pos _)
      obtain ⟨bA, hbA⟩ : ∃ b, areFi (t ++ [⟨x0, x1, x2, x3, x4, x5, x6⟩]) = b := ⟨_, rfl⟩
      have HBA := Lib.hid hbA
      clear hbA hown5 hgrow5 hlo5 hb5 HD4 HO4 HL HNE HOK
      go_wp2_with fail
      refine (l5Good_any _ (t ++ [⟨x0, x1, x2, x3, x4, x5, x6⟩]) _ HX5.out.row).mono ?_
      rw [HBA.out]
      rintro e w13 ⟨rfl, b13⟩
      have HD13 := Lib.hid (HD5.out.below b13)
      have HX13 := Lib.hid ((HX5.out.below b13).wide (Nat.le_refl _) b13.size)
      clear b13 HD5 HX5
      have hM2 : M = K + 2 + 40 * (N - k) := hM.symm
      clear hM
      cases bA
      · go_wp2_with fail
        refine (one_any B (M + 32) 40 _ HD13.out.cur (by omega) (by omega) (by omega)).mono ?_
        rintro e w14 ⟨r, rfl, hc14, hg14⟩
        have HD14 := Lib.hid (HD13.out.step hc14 hg14)
        have HX14 := Lib.hid ((HX13.out.grown hg14 (by omega)).wide (Nat.le_refl _) hg14.size)
        clear hc14 hg14 HD13 HX13
        have HE14 : Hid (DrF w w14 B (M + 34) (.slice (some ⟨na, 0, none⟩) (t.length + 1) nc) (t ++ [⟨x0, x1, x2, x3, x4, x5, x6⟩])) := Lib.hid ⟨HD14.out.cur, HX14.out, HD14.out.gr⟩
        cases r
        · go_wp2_with fail
          go_roundw
          case rel => exact ⟨ob, oc, t, I, k - 1, by omega, rfl, rfl, hI9.1, by omega, rfl, by omega, Lib.hid ⟨HD14.out.cur.le_K (by omega), HD14.out.out, HD14.out.gr⟩⟩
          case measure => simp [intOf]; omega
        · go_wp2_with fail
          go_roundw
          case rel => exact ⟨na, nc, t ++ [⟨x0, x1, x2, x3, x4, x5, x6⟩], I, k - 1, by omega, rfl, rfl, hI9.1, by omega, by simp, (by simp only [List.length_append, List.length_singleton]; omega), Lib.hid (by simp only [List.length_append, List.length_singleton]; exact ⟨HE14.out.cur.le_K (by omega), HE14.out.out, HE14.out.gr⟩)⟩
          case measure => simp [intOf]; omega
      · have HE13 : Hid (DrF w w13 B (M + 32) (.slice (some ⟨na, 0, none⟩) (t.length + 1) nc) (t ++ [⟨x0, x1, x2, x3, x4, x5, x6⟩])) := Lib.hid ⟨HD13.out.cur, HX13.out, HD13.out.gr⟩
        go_wp2_with fail
        go_roundw
        case rel => exact ⟨na, nc, t ++ [⟨x0, x1, x2, x3, x4, x5, x6⟩], I, k - 1, by omega, rfl, rfl, hI9.1, by omega, by simp, (by simp only [List.length_append, List.length_singleton]; omega), Lib.hid (by simp only [List.length_append, List.length_singleton]; exact ⟨HE13.out.cur.le_K (by omega), HE13.out.out, HE13.out.gr⟩)⟩
        case measure => simp [intOf]; omega
    · obtain rfl : k = 0 := by omega
      clear hpos
      have HL := Lib.hid htl
      clear hk
      go_wp2_with fail
      refine (one_any B M 24 _ HD.out.cur (by omega) (by omega) (by omega)).mono ?_
      rintro e w2 ⟨r, rfl, hc2, hg2⟩
      have HD2 := Lib.hid (HD.out.step hc2 hg2)
      clear hc2 hg2 HD
      have hM2 : M ≤ K + 362 := by omega
      clear hM
      cases r
      · go_wp2_with fail
        go_ret
        exact ⟨_, t, rfl, by omega, ⟨⟨ob, 0, none⟩, oc, rfl⟩, HD2.out.cur.le_K (by omega), HD2.out.out, HD2.out.gr⟩
      · have HD3 : Hid (DrF w (w2.alloc (.cells #[] 43 (0, 0))) B (M + 2) (.slice (some ⟨w2.heap.size, 0, none⟩) 0 0) []) := Lib.hid ⟨(HD2.out.al _).cur, FisO.empty (lo := B + 1) w2 HD2.out.cur.lt, (HD2.out.al _).gr⟩
        have HF3 : Hid (FisO w.heap.size (w2.alloc (.cells #[] 43 (0, 0))).heap.size (w2.alloc (.cells #[] 43 (0, 0))) (.slice (some ⟨w2.heap.size, 0, none⟩) 0 0) []) := Lib.hid (FisO.empty (lo := w.heap.size) w2 HD2.out.gr.size)
        clear HD2 htl HL
        go_wp2_with fail
        obtain ⟨wo, hwo⟩ : ∃ x, x = wr := ⟨_, rfl⟩
        subst hwo
        go_loopw [3, 7] (fun o n wr => ∃ (v : Value) (k : Nat) (t : List Fi), k ≤ 11 ∧ n = .int .i64 k ∧ v = o ∧ t.length = k ∧ Hid (FisO w.heap.size wr.heap.size wr v t) ∧ Hid (DrF w wr B (M + 2 + 2 * k) v t)) (fun _ n _ => 12 - (intOf n).toNat)
        case atStart => exact ⟨_, 0, [], by omega, rfl, rfl, rfl, HF3, HD3⟩
        case round =>
          clear HD3 HF3
          obtain ⟨v, k, t, hk, rfl, rfl, htk, HF, HD⟩ := hrel
          have hkp : IntKind.i64.wrap ((k : Int) + 1) = (k : Int) + 1 := Go.IntWalk.i64_in _ (by omega)
          go_wp2_with fail
          refine (pick_any B (M + 2 + 2 * k) 2 _ HD.out.cur (by omega) (by omega) (by omega)).mono ?_
          rintro e w3 ⟨d, rfl, hd0, hd1, hc3, hg3⟩
          have HD3 := Lib.hid (HD.out.step hc3 hg3)
          have HF3 := Lib.hid ((HF.out.grown hg3 hlt).wide (Nat.le_refl _) hg3.size)
          clear hc3 hg3 HD HF
          have hw : IntKind.i64.wrap (10 + d) = 10 + d := Go.IntWalk.i64_in _ (by omega)
          by_cases hq : (k : Int) < 10 + d
          · have hO : w3.ownsRow w.heap.size 43 7 v k ((t.map fiC).flatten) := by
              have := HF3.out.1.1
              rw [List.length_map, htk] at this
              exact this
            have hlt2 : decide ((k : Int) < 10 + d) = true := decide_eq_true hq
            have HOK := Lib.hid HD3.out.out.2.1
            have hl3 := HD3.out.cur.lt
            go_wp2_with (first | (at_builtin; refine wpList_append_own _ rfl _ _ 24 rfl w.heap.size 43 i0 (.agg #[.int .i64 0, .int .i64 0, .string ⟨#[]⟩, .int .i64 0, .int .i64 0, .int .i64 0, .int .i64 0]) 7 64 Tryd.underlying24 hi hz0 hz1 hz2 rfl (by decide) v k ((t.map fiC).flatten) rfl (hO.alloc _) ⟨w3.heap.size, 0, none⟩ 1 1 [.int .i64 ((k : Int) + 1), .int .i64 ((k : Int) + 1), .string ⟨#[120]⟩, .int .i64 0, .int .i64 0, .int .i64 0, .int .i64 9] rfl rfl (cells7_new' _ _ _ _ _ _ _ _ _ rfl) (by simp [Value.oneCell']) (by unfold maxLen; omega) (by omega) (by simp; have := HD3.out.gr.size; omega) ?_; intro v' w4 hown' hgrow _))
            have HX : Hid (FisO w.heap.size w4.heap.size w4 v' (t ++ [⟨(k : Int) + 1, (k : Int) + 1, ⟨#[120]⟩, 0, 0, 0, 9⟩])) := Lib.hid (FisO.of_row (n := k + 1) (by
              have e : ((t ++ [(⟨(k : Int) + 1, (k : Int) + 1, ⟨#[120]⟩, 0, 0, 0, 9⟩ : Fi)]).map fiC).flatten = ((t.map fiC).flatten ++ [.int .i64 ((k : Int) + 1), .int .i64 ((k : Int) + 1), .string ⟨#[120]⟩, .int .i64 0, .int .i64 0, .int .i64 0, .int .i64 9] : List Value) := by
                rw [List.map_append, List.flatten_append]
                simp [fiC]
              rw [e]; exact hown') (by simp [htk]) (fun f hf => by
              rcases List.mem_append.1 hf with h | h
              · exact HOK.out f h
              · rw [List.mem_singleton.1 h]; exact lit_okF k (by omega)))
            have hb4 : Below (B + 1) w3 w4 := Below.grown (Below.alloc (Below.refl (B + 1) w3) hl3 _) hgrow (by simp; omega) (fun kk hk => by have := (hO.lt kk hk).1; omega)
            have hb5 : w.grownBy w4 (some B) := gr_appF HD3.out.gr hgrow (fun kk hk => (hO.lt kk hk).1)
            have HE : Hid (DrF w w4 B (M + 2 + 2 * k + 2) v' (t ++ [⟨(k : Int) + 1, (k : Int) + 1, ⟨#[120]⟩, 0, 0, 0, 9⟩])) := Lib.hid ⟨HD3.out.cur.later hb4, HX.out.wide hlt (Nat.le_refl _), hb5⟩
            clear hown' hgrow hO hb4 hb5 HD3 HF3 HOK
            go_wp2_with fail
            go_roundw
            case rel => exact ⟨v', k + 1, t ++ [⟨(k : Int) + 1, (k : Int) + 1, ⟨#[120]⟩, 0, 0, 0, 9⟩], by omega, by go_num, rfl, by simp [htk], HX, Lib.hid ⟨HE.out.cur.le_K (by omega), HE.out.out, HE.out.gr⟩⟩
            case measure => simp [intOf]; omega
          · have hlt2 : decide ((k : Int) < 10 + d) = false := decide_eq_false hq
            go_wp2_with fail
            go_ret
            exact ⟨_, t, rfl, by omega, (by obtain ⟨g, c, hg⟩ := own_formF HD3.out.out.1.1 (by rw [List.length_map]; omega); exact ⟨_, c, by rw [List.length_map] at hg; exact hg⟩), HD3.out.cur.le_K (by omega), HD3.out.out, HD3.out.gr⟩
end Go.Proofs.YtpbjddiopfkgbaaDoor

namespace Go.Proofs.YtpbjddiopfkgbaaDoor
set_option linter.unusedVariables false
open Go.RowKit

theorem DrF.app {w0 w w' : World} {B K lo : Nat} {v : Value} {t : List Fi} {ob : Obj} {row : Option Nat} (h : DrF w0 w B K v t) (hg : (w.alloc ob).grownBy w' row) (hrow : ∀ k, row = some k → lo ≤ k) (hv : ∀ g, v.ownBlock = some g → g < lo) (hB : B < lo) (hl0 : w0.heap.size ≤ lo) : DrF w0 w' B K v t := by
  have hs : w.heap.size ≤ w'.heap.size := by have := hg.size; simp at this; omega
  have hb : Below (B + 1) w w' := Below.grown (Below.alloc (Below.refl (B + 1) w) h.cur.lt ob) hg (by have := h.cur.lt; simp; omega) (fun k hk => by have := hrow k hk; omega)
  refine ⟨h.cur.later hb, ⟨⟨(World.ownsRow.alloc h.out.1.1 ob).kept hg ?_, h.out.1.2⟩, h.out.2.1, h.out.2.2.up hs⟩, ?_⟩
  · rcases hvv : v.ownBlock with _ | k
    · exact .inl rfl
    · exact .inr fun e => by have := hv k hvv; have := hrow k e.symm; omega
  · have h2 := grownBy_trans h.gr (World.grownBy_alloc w ob (some B))
    have hs2 := h2.size
    refine ⟨hg.os.trans h2.os, hg.tape.trans h2.tape, hg.output.trans h2.output, Nat.le_trans hs2 hg.size, fun k hk hr => ?_⟩
    exact (hg.block k (Nat.lt_of_lt_of_le hk hs2) (fun e => by have := hrow k e.symm; omega)).trans (h2.block k hk hr)
theorem DrF.le {w0 w : World} {B K K' : Nat} {v : Value} {t : List Fi} (h : DrF w0 w B K v t) (hk : K ≤ K') : DrF w0 w B K' v t := ⟨h.cur.le_K hk, h.out, h.gr⟩

def FidDrawn (w0 : World) (B K : Nat) (v : Value) (t : List Fi) (e : Ending) (w' : World) : Prop := ∃ n : Int, e = .returned (.int .i64 n) ∧ inI n ∧ DrF w0 w' B K v t
set_option maxRecDepth 20000 in
set_option maxHeartbeats 2000000 in
theorem fileId_any (w0 : World) (B K : Nat) (v : Value) (t : List Fi) (st : Int) (w : World) (h : DrF w0 w B K v t) (hn : t.length ≤ 12) (hK : K ≤ 100000) :
    Calls Tryd.prog 49 #[.pointer (some ⟨B, 0, none⟩), v, .int .i64 st] w (FidDrawn w0 B (K + 30) v t) := by
  obtain ⟨j0, hj, hy0, hy1, hy2⟩ := info_parts Tryd.info_intI
  have HD0 := Lib.hid (h.al (.cells #[] 3 (0, 0)))
  have hv0 : ∀ g, v.ownBlock = some g → g < w.heap.size := fun g hg => h.out.2.2 g hg
  have hg0 := h.gr.size
  have hlt := h.cur.lt
  have HV := Lib.hid hv0
  have hO0 : (w.alloc (.cells #[] 3 (0, 0))).ownsRow w.heap.size 3 1 (.slice (some ⟨w.heap.size, 0, none⟩) 0 0) 0 [] := World.ownsRow_made w #[] 0 (Nat.le_refl _) (Nat.zero_le _) rfl
  have HO0 := Lib.hid hO0
  obtain ⟨aV, cV, hv, hlV, hmV, _⟩ := h.out.row.fis
  subst hv
  unfold maxLen at hmV
  clear h hv0 hO0
  go_enter Tryd.func49, Tryd.ntmps49
  go_wp2_with fail
  go_loopw [7, 8] (fun o i wr => ∃ (k n : Nat) (xs : List Int), k ≤ t.length ∧ i = .int .i64 k ∧ xs.length = n ∧ n ≤ k ∧ Hid (∀ x ∈ xs, inI x) ∧ w.heap.size ≤ wr.heap.size ∧ Hid (wr.ownsRow w.heap.size 3 1 o n (xs.map vI)) ∧ Hid (DrF w0 wr B (K + 2 * k) (.slice aV t.length cV) t)) (fun _ i _ => t.length - (intOf i).toNat)
  case atStart => exact ⟨0, 0, [], Nat.zero_le _, rfl, rfl, Nat.le_refl _, Lib.hid (by simp), by simp, HO0, HD0⟩
  case round =>
    clear HO0 HD0
    obtain ⟨k, n, xs, hk, rfl, hxn, hnk, HI, hsz, HO, HD⟩ := hrel
    by_cases hkt : k < t.length
    · obtain ⟨a2, c2, e2, _, hm2, r2⟩ := HD.out.out.row.fis
      simp only [Value.slice.injEq] at e2
      obtain ⟨rfl, _, rfl⟩ := e2
      obtain ⟨bb, oo, _, had, e1⟩ := r2.resolve_left (fun e => by rw [e] at hkt; simp at hkt)
      subst had
      obtain ⟨q0, q1, q2, q3, q4, q5, q6, hok⟩ := e1 k hkt
      obtain ⟨⟨x0, x1, x2, x3, x4, x5, x6⟩, hx⟩ : ∃ s, t.getD k fiD = s := ⟨_, rfl⟩
      rw [hx] at q0 q5 hok
      simp only at q0 q5
      have hi0 : inI x0 := hok.1
      have HI0 := Lib.hid hi0
      have g0 : (0 : Int) ≤ (k : Int) := by omega
      have g1 : (k : Int) < (t.length : Int) := by omega
      have hkp : IntKind.i64.wrap ((k : Int) + 1) = (k : Int) + 1 := Go.IntWalk.i64_in _ (by omega)
      have Q0 := Lib.hid q0
      clear q1 q2 q3 q4 q6 hok e1 hx r2 hm2 hi0
      by_cases hs : x5 = st
      · have hq : (x5 == st) = true := by simp [hs]
        clear hs
        go_wp2_with (first | (at_builtin; refine wpList_append_own _ rfl _ _ 31 rfl w.heap.size 3 j0 (.int .i64 0) 1 8 Tryd.underlying31 hj hy0 hy1 hy2 rfl (by decide) u7 n (xs.map vI) rfl (HO.out.alloc _) ⟨wr.heap.size, 0, none⟩ 1 1 [.int .i64 x0] rfl rfl (cell_oneI _ _ _ (by simp)) (by simp [Value.oneCell']) (by unfold maxLen; omega) (by omega) (by simp; omega) ?_; intro v' w4 hown' hgrow _))
        have HON : Hid (w4.ownsRow w.heap.size 3 1 v' (n + 1) ((xs ++ [x0]).map vI)) := Lib.hid (by rw [List.map_append]; exact hown')
        have HDN := Lib.hid (HD.out.app hgrow (fun kk hk => (HO.out.lt kk hk).1) HV.out hlt hg0)
        have HIN : Hid (∀ x ∈ xs ++ [x0], inI x) := Lib.hid (fun x hx => (List.mem_append.1 hx).elim (HI.out x) (fun h => by rw [List.mem_singleton.1 h]; exact HI0.out))
        have hsN : w.heap.size ≤ w4.heap.size := by have := hgrow.size; simp at this; omega
        clear hown' hgrow
        go_wp2_with fail
        go_roundw
        case rel => exact ⟨k + 1, n + 1, xs ++ [x0], by omega, by go_num, by simp [hxn], by omega, HIN, hsN, HON, Lib.hid (HDN.out.le (by omega))⟩
        case measure => simp [intOf]; omega
      · have hq : (x5 == st) = false := by simp [hs]
        clear hs
        go_wp2_with fail
        refine (one_any B (K + 2 * k) 6 _ HD.out.cur (by omega) (by omega) (by omega)).mono ?_
        rintro e w2 ⟨r, rfl, hc2, hg2⟩
        have HE := Lib.hid (HD.out.step hc2 hg2)
        have HO2 : Hid (w2.ownsRow w.heap.size 3 1 u7 n (xs.map vI)) := Lib.hid (HO.out.kept hg2 (by
          rcases hv : Value.ownBlock _ with _ | kk
          · exact .inl rfl
          · exact .inr fun e => by have := (HO.out.lt kk hv).1; cases e; omega))
        have hsz2 : w.heap.size ≤ w2.heap.size := Nat.le_trans hsz hg2.size
        have q0w := hg2.cell q0 (by have := HD.out.out.1.ge bb rfl; simp; omega)
        clear hc2 hg2
        cases r
        · go_wp2_with fail
          go_roundw
          case rel => exact ⟨k + 1, n, xs, by omega, by go_num, hxn, by omega, HI, hsz2, HO2, Lib.hid (HE.out.le (by omega))⟩
          case measure => simp [intOf]; omega
        · go_wp2_with (first | (at_builtin; refine wpList_append_own _ rfl _ _ 31 rfl w.heap.size 3 j0 (.int .i64 0) 1 8 Tryd.underlying31 hj hy0 hy1 hy2 rfl (by decide) u7 n (xs.map vI) rfl (HO2.out.alloc _) ⟨w2.heap.size, 0, none⟩ 1 1 [.int .i64 x0] rfl rfl (cell_oneI _ _ _ (by simp)) (by simp [Value.oneCell']) (by unfold maxLen; omega) (by omega) (by simp; omega) ?_; intro v' w4 hown' hgrow _))
          have HON : Hid (w4.ownsRow w.heap.size 3 1 v' (n + 1) ((xs ++ [x0]).map vI)) := Lib.hid (by rw [List.map_append]; exact hown')
          have HDN := Lib.hid (HE.out.app hgrow (fun kk hk => (HO2.out.lt kk hk).1) HV.out hlt hg0)
          have HIN : Hid (∀ x ∈ xs ++ [x0], inI x) := Lib.hid (fun x hx => (List.mem_append.1 hx).elim (HI.out x) (fun h => by rw [List.mem_singleton.1 h]; exact HI0.out))
          have hsN : w.heap.size ≤ w4.heap.size := by have := hgrow.size; simp at this; omega
          clear hown' hgrow
          go_wp2_with fail
          go_roundw
          case rel => exact ⟨k + 1, n + 1, xs ++ [x0], by omega, by go_num, by simp [hxn], by omega, HIN, hsN, HON, Lib.hid (HDN.out.le (by omega))⟩
          case measure => simp [intOf]; omega
    · obtain rfl : k = t.length := by omega
      obtain ⟨aI, cI, eI, hlI, hmI, rI⟩ := RowOf.of_owns HO.out
      subst eI
      rw [hxn]
      unfold maxLen at hmI
      have RI := Lib.hid rI
      clear rI
      by_cases hz : n = 0
      · have hz1 : ((n : Int) == 0) = true := by simp [hz]
        have hz2 : decide ((n : Int) = 0) = true := decide_eq_true (by omega)
        have hz3 : decide (n = 0) = true := decide_eq_true hz
        have HZ := Lib.hid hz
        clear hz
        go_wp2_with fail
        refine (among_any B (K + 2 * t.length) wr.heap.size 0 4 4 [0, 1, 2, 500] _ (HD.out.al (.cells (([0, 1, 2, 500] : List Int).map (Value.int .i64)).toArray 3)).cur (by omega) rfl (by omega) (by omega) (by have := HD.out.cur.lt; omega) (new_nums wr [0, 1, 2, 500] 3 _ rfl)).mono ?_
        rintro e w3 ⟨r, rfl, mr, hc, hg⟩
        have HE := Lib.hid ((HD.out.al (.cells (([0, 1, 2, 500] : List Int).map (Value.int .i64)).toArray 3)).step hc hg)
        have ir : inI r := by simp at mr; unfold inI; omega
        clear hc hg mr
        go_wp2_with fail
        go_ret
        exact ⟨r, rfl, ir, HE.out.le (by omega)⟩
      · have hz1 : ((n : Int) == 0) = false := by simp [hz]
        have hz2 : decide ((n : Int) = 0) = false := decide_eq_false (by omega)
        have hz3 : decide (n = 0) = false := decide_eq_false hz
        have HZ := Lib.hid hz
        have hz4 : 1 ≤ n := by omega
        clear hz
        go_wp2_with fail
        refine (pick_any B (K + 2 * t.length) n _ HD.out.cur (by omega) (by omega) (by omega)).mono ?_
        rintro e w3 ⟨r, rfl, hr0, hr1, hc, hg⟩
        obtain ⟨j, rfl⟩ := Int.eq_ofNat_of_zero_le hr0
        have hj2 : j < xs.length := by omega
        obtain ⟨bI, oI, hbI, rfl, eI⟩ := RI.out.resolve_left (fun e => by rw [e] at hj2; simp at hj2)
        have q := eI j hj2
        have q3 := hg.cell q (by have := (HO.out.lt bI (by simp [Value.ownBlock])).1; simp; omega)
        simp only [vI] at q3
        have HE := Lib.hid (HD.out.step hc hg)
        have ir : inI xs[j] := HI.out _ (List.getElem_mem hj2)
        obtain ⟨y, hy⟩ : ∃ y, xs[j] = y := ⟨_, rfl⟩
        rw [hy] at q3 ir
        have g0 : (0 : Int) ≤ (j : Int) := by omega
        have g1 : (j : Int) < (n : Int) := by omega
        have HIR := Lib.hid ir
        clear hc hg eI q ir hr0 hr1
        go_wp2_with fail
        go_ret
        exact ⟨y, rfl, HIR.out, HE.out.le (by omega)⟩
theorem amongCut_any (B K g cap m n : Nat) (xs : List Int) (w : World) (h : Cur w B K) (hK : K ≤ 549755813888) (hm : n ≤ xs.length) (h0 : 0 < n) (hn1 : n ≤ 1099511627776) (hgB : g ≠ B)
    (hc : ∀ i (hi : i < xs.length), w.cell? ⟨g, 0 + i, none⟩ = some (.int .i64 xs[i])) :
    Calls Tryd.prog 64 #[.pointer (some ⟨B, 0, none⟩), .slice (some ⟨g, 0, none⟩) n cap] w (CurNum w B (K + 2) xs) := by
  refine (among_any B K g 0 cap n (xs.take n) w h hK (by rw [List.length_take]; omega) h0 hn1 hgB (fun i hi => ?_)).mono ?_
  · rw [List.length_take] at hi
    rw [List.getElem_take]
    exact hc i (by omega)
  · rintro e w' ⟨r, h1, h2, h3, h4⟩
    exact ⟨r, h1, List.mem_of_mem_take h2, h3, h4⟩
def dayList : List Int := [0, 1, 10, 14, 501, 20000, -1, 20001]
theorem day_in {r : Int} (h : r ∈ dayList) : inI r := by
  simp [dayList] at h; unfold inI; omega
theorem quo_nat (R d : Nat) : Int.tdiv (R : Int) (d : Int) = ((R / d : Nat) : Int) := by simp [Int.tdiv]
set_option maxRecDepth 20000 in
set_option maxHeartbeats 2000000 in
theorem day5_any (w0 : World) (B K : Nat) (v : Value) (t : List Fi) (w : World) (h : DrF w0 w B K v t) (hK : K ≤ 100000) :
    Calls Tryd.prog 50 #[.pointer (some ⟨B, 0, none⟩)] w (FidDrawn w0 B (K + 4) v t) := by
  have HD0 := Lib.hid (h.al (.cells (dayList.map (Value.int .i64)).toArray 3 (0, 0)))
  have HN := Lib.hid (new_nums w dayList 3 _ rfl)
  have hlt := h.cur.lt
  clear h
  go_enter Tryd.func50, Tryd.ntmps50
  go_wp2_with fail
  refine (pick_any B K 24 _ HD0.out.cur (by omega) (by omega) (by omega)).mono ?_
  rintro e w1 ⟨r, rfl, hr0, hr1, hc, hg⟩
  obtain ⟨R, rfl⟩ := Int.eq_ofNat_of_zero_le hr0
  have HD1 := Lib.hid (HD0.out.step hc hg)
  have HC : Hid (∀ i (hi : i < dayList.length), w1.cell? ⟨w.heap.size, 0 + i, none⟩ = some (.int .i64 dayList[i])) := Lib.hid (fun i hi => hg.cell (HN.out i hi) (by simp; omega))
  have hR : R < 24 := by omega
  obtain ⟨q, hq⟩ : ∃ q, R / 11 = q := ⟨_, rfl⟩
  have hq2 : q ≤ 2 := by omega
  have hd : Int.tdiv (R : Int) 11 = (q : Int) := by rw [← hq]; exact quo_nat R 11
  have hw1 : IntKind.i64.wrap (q : Int) = (q : Int) := Go.IntWalk.i64_in _ (by omega)
  have hw2 : IntKind.i64.wrap (6 + (q : Int)) = 6 + (q : Int) := Go.IntWalk.i64_in _ (by omega)
  have hw3 : (0 : Int) ≤ 6 + (q : Int) := by omega
  have hw4 : 6 + (q : Int) ≤ 8 := by omega
  have hw5 : (6 + (q : Int)).toNat = 6 + q := by omega
  clear hc hg hq hr0 hr1 HD0 HN
  go_wp2_with fail
  refine (amongCut_any B (K + 2) w.heap.size 8 8 (6 + q) dayList _ HD1.out.cur (by omega) (by simp [dayList]; omega) (by omega) (by omega) (by omega) HC.out).mono ?_
  rintro e w2 ⟨n, rfl, hm, hc2, hg2⟩
  have HD2 := Lib.hid (HD1.out.step hc2 hg2)
  have hn := day_in hm
  clear hc2 hg2 hm
  go_wp2_with fail
  go_ret
  exact ⟨n, rfl, hn, HD2.out.le (by omega)⟩

end Go.Proofs.YtpbjddiopfkgbaaDoor

namespace Go.Proofs.YtpbjddiopfkgbaaDoor
set_option linter.unusedVariables false
open Go.RowKit

def FilesIs (w w' : World) (v : Value) (t : List Fi) : Prop := t.length ≤ 12 ∧ (∃ ad c, v = .slice (some ad) t.length c) ∧ FisO w.heap.size w'.heap.size w' v t ∧ Below w.heap.size w w'
theorem DrF.drawn {w w1 : World} {ob : Obj} {K : Nat} {v : Value} {t : List Fi} (h : DrF (w.alloc ob) w1 w.heap.size K v t) (hl : t.length ≤ 12) (hsm : ∃ ad c, v = .slice (some ad) t.length c) : FilesIs w w1 v t :=
  ⟨hl, hsm, h.out.wide (Nat.le_succ _) (Nat.le_refl _), ((Below.refl w.heap.size w).alloc (Nat.le_refl _) ob).trans (below_of_cur h.gr (by simp))⟩
theorem isRow_afterF {k : IntKind} {w w' : World} {a : Option Addr} {len cap : Nat} {zs : List Int} (h : IsRow k w a len cap zs) (hb : Below w.heap.size w w') : IsRow k w' a len cap zs := by
  refine h.imp id ?_
  rintro ⟨x, rfl, hl, hm, hz, hc, hw⟩
  refine ⟨x, rfl, hl, hm, hz, fun i hi => ?_, hw⟩
  have := hc i hi
  exact (hb.cell (World.block_lt_of_cell? w _ this)).trans this
def FilesDrawn (w : World) (e : Ending) (w' : World) : Prop := ∃ v t, e = .returned v ∧ FilesIs w w' v t
def FilesIdDrawn (w : World) (e : Ending) (w' : World) : Prop := ∃ v t n, e = .returned (.tuple #[v, .int .i64 n]) ∧ inI n ∧ FilesIs w w' v t
def FilesTwoDrawn (w : World) (e : Ending) (w' : World) : Prop := ∃ v t n m, e = .returned (.tuple #[v, .int .i64 n, .int .i64 m]) ∧ inI n ∧ inI m ∧ FilesIs w w' v t
def FilesBoolDrawn (w : World) (e : Ending) (w' : World) : Prop := ∃ v t n b, e = .returned (.tuple #[v, .int .i64 n, .bool b]) ∧ inI n ∧ FilesIs w w' v t
def FilesSplitDrawn (w : World) (e : Ending) (w' : World) : Prop := ∃ v t n m s, e = .returned (.tuple #[v, .int .i64 n, .int .i64 m, .string s]) ∧ inI n ∧ inI m ∧ s.size ≤ 11 ∧ FilesIs w w' v t
def moList : List ByteArray := [⟨#[109, 111, 114, 101]⟩, ⟨#[114, 101, 115, 116]⟩, ⟨#[98, 117, 100, 103, 101, 116]⟩, ⟨#[]⟩, ⟨#[65]⟩]
theorem mo_short {s : ByteArray} (h : s ∈ moList) : s.size ≤ 11 := by
  have : ∀ x ∈ moList, x.size ≤ 11 := by decide
  exact this s h
theorem inI_small {r : Int} {xs : List Int} (h : r ∈ xs) (hx : ∀ x ∈ xs, -100000 ≤ x ∧ x ≤ 100000) : inI r := by have := hx r h; unfold inI; omega
set_option maxRecDepth 20000 in
set_option maxHeartbeats 2000000 in
theorem drawAreFiles_any (a : Option Addr) (len cap : Nat) (zs : List Int) (w : World) (h : IsRow .u8 w a len cap zs) (hl : len ≤ 1099511627776) :
    Calls Tryd.prog 75 #[.slice a len cap] w (FilesDrawn w) := by
  have HC := Lib.hid (cur_new h hl 67)
  clear h
  go_enter Tryd.func75, Tryd.ntmps75
  go_wp2_with fail
  refine (files5_any w.heap.size 0 _ HC.out (by omega)).mono ?_
  rintro e w1 ⟨v, t, rfl, hn, hsm, hd⟩
  have HSM := Lib.hid hsm
  clear hsm
  have HD := Lib.hid hd
  clear hd HC
  go_wp2_with fail
  go_ret
  exact ⟨v, t, rfl, HD.out.drawn hn HSM.out⟩
set_option maxRecDepth 20000 in
set_option maxHeartbeats 2000000 in
theorem drawSeries_any (a : Option Addr) (len cap : Nat) (zs : List Int) (w : World) (h : IsRow .u8 w a len cap zs) (hl : len ≤ 1099511627776) :
    Calls Tryd.prog 40 #[.slice a len cap] w (FilesDrawn w) := by
  have H := Lib.hid h
  clear h
  go_enter Tryd.func40, Tryd.ntmps40
  go_wp2_with (first | (go_at_call 75; refine (drawAreFiles_any a len cap zs _ H.out hl).mono ?_; rintro e w1 ⟨v, t, rfl, ht⟩))
  go_ret
  exact ⟨v, t, rfl, ht⟩
set_option maxRecDepth 20000 in
set_option maxHeartbeats 2000000 in
theorem drawReopen_any (a : Option Addr) (len cap : Nat) (zs : List Int) (w : World) (h : IsRow .u8 w a len cap zs) (hl : len ≤ 1099511627776) :
    Calls Tryd.prog 21 #[.slice a len cap] w (FilesIdDrawn w) := by
  have HC := Lib.hid (cur_new h hl 67)
  clear h
  go_enter Tryd.func21, Tryd.ntmps21
  go_wp2_with fail
  refine (files5_any w.heap.size 0 _ HC.out (by omega)).mono ?_
  rintro e w1 ⟨v, t, rfl, hn, hsm, hd⟩
  have HSM := Lib.hid hsm
  clear hsm
  have HD := Lib.hid hd
  clear hd HC
  go_wp2_with fail
  refine (fileId_any _ w.heap.size 1000 v t 1 _ HD.out hn (by omega)).mono ?_
  rintro e w2 ⟨n, rfl, jn, hd⟩
  have HD2 := Lib.hid hd
  clear hd HD
  go_wp2_with fail
  go_ret2
  exact ⟨v, t, n, rfl, jn, HD2.out.drawn hn HSM.out⟩
set_option maxRecDepth 20000 in
set_option maxHeartbeats 2000000 in
theorem drawClose_any (a : Option Addr) (len cap : Nat) (zs : List Int) (w : World) (h : IsRow .u8 w a len cap zs) (hl : len ≤ 1099511627776) :
    Calls Tryd.prog 11 #[.slice a len cap] w (FilesTwoDrawn w) := by
  have HC := Lib.hid (cur_new h hl 67)
  clear h
  go_enter Tryd.func11, Tryd.ntmps11
  go_wp2_with fail
  refine (files5_any w.heap.size 0 _ HC.out (by omega)).mono ?_
  rintro e w1 ⟨v, t, rfl, hn, hsm, hd⟩
  have HSM := Lib.hid hsm
  clear hsm
  have HD := Lib.hid hd
  clear hd HC
  go_wp2_with fail
  refine (fileId_any _ w.heap.size 1000 v t 0 _ HD.out hn (by omega)).mono ?_
  rintro e w2 ⟨n, rfl, jn, hd⟩
  have HD2 := Lib.hid hd
  clear hd HD
  go_wp2_with fail
  refine (day5_any _ w.heap.size 1030 v t _ HD2.out (by omega)).mono ?_
  rintro e w3 ⟨m, rfl, im, hd⟩
  have HD3 := Lib.hid hd
  clear hd HD2
  go_wp2_with fail
  go_ret3
  exact ⟨v, t, n, m, rfl, jn, im, HD3.out.drawn hn HSM.out⟩
set_option maxRecDepth 20000 in
set_option maxHeartbeats 2000000 in
theorem drawDays_any (a : Option Addr) (len cap : Nat) (zs : List Int) (w : World) (h : IsRow .u8 w a len cap zs) (hl : len ≤ 1099511627776) :
    Calls Tryd.prog 23 #[.slice a len cap] w (FilesTwoDrawn w) := by
  have HC := Lib.hid (cur_new h hl 67)
  clear h
  go_enter Tryd.func23, Tryd.ntmps23
  go_wp2_with fail
  refine (files5_any w.heap.size 0 _ HC.out (by omega)).mono ?_
  rintro e w1 ⟨v, t, rfl, hn, hsm, hd⟩
  have HSM := Lib.hid hsm
  clear hsm
  have HD := Lib.hid hd
  clear hd HC
  go_wp2_with fail
  refine (pick_any w.heap.size 1000 3 _ HD.out.cur (by omega) (by omega) (by omega)).mono ?_
  rintro e w2 ⟨s, rfl, hs0, hs1, hc, hg⟩
  have HD2 := Lib.hid (HD.out.step hc hg)
  clear hc hg HD
  go_wp2_with fail
  refine (fileId_any _ w.heap.size 1002 v t s _ HD2.out hn (by omega)).mono ?_
  rintro e w3 ⟨n, rfl, jn, hd⟩
  have HD3 := Lib.hid hd
  clear hd HD2
  go_wp2_with fail
  refine (day5_any _ w.heap.size 1032 v t _ HD3.out (by omega)).mono ?_
  rintro e w4 ⟨m, rfl, im, hd⟩
  have HD4 := Lib.hid hd
  clear hd HD3
  go_wp2_with fail
  go_ret3
  exact ⟨v, t, n, m, rfl, jn, im, HD4.out.drawn hn HSM.out⟩
set_option maxRecDepth 20000 in
set_option maxHeartbeats 2000000 in
theorem drawLend_any (a : Option Addr) (len cap : Nat) (zs : List Int) (w : World) (h : IsRow .u8 w a len cap zs) (hl : len ≤ 1099511627776) :
    Calls Tryd.prog 18 #[.slice a len cap] w (FilesBoolDrawn w) := by
  have HC := Lib.hid (cur_new h hl 67)
  clear h
  go_enter Tryd.func18, Tryd.ntmps18
  go_wp2_with fail
  refine (files5_any w.heap.size 0 _ HC.out (by omega)).mono ?_
  rintro e w1 ⟨v, t, rfl, hn, hsm, hd⟩
  have HSM := Lib.hid hsm
  clear hsm
  have HD := Lib.hid hd
  clear hd HC
  go_wp2_with fail
  refine (one_any w.heap.size 1000 2 _ HD.out.cur (by omega) (by omega) (by omega)).mono ?_
  rintro e w2 ⟨b, rfl, hc, hg⟩
  have HD2 := Lib.hid (HD.out.step hc hg)
  clear hc hg HD
  cases b
  · go_wp2_with fail
    refine (fileId_any _ w.heap.size 1002 v t 1 _ HD2.out hn (by omega)).mono ?_
    rintro e w3 ⟨n, rfl, jn, hd⟩
    have HD3 := Lib.hid hd
    clear hd HD2
    go_wp2_with fail
    go_ret3
    exact ⟨v, t, n, false, rfl, jn, HD3.out.drawn hn HSM.out⟩
  · go_wp2_with fail
    refine (fileId_any _ w.heap.size 1002 v t 2 _ HD2.out hn (by omega)).mono ?_
    rintro e w3 ⟨n, rfl, jn, hd⟩
    have HD3 := Lib.hid hd
    clear hd HD2
    go_wp2_with fail
    go_ret3
    exact ⟨v, t, n, true, rfl, jn, HD3.out.drawn hn HSM.out⟩
set_option maxRecDepth 20000 in
set_option maxHeartbeats 2000000 in
theorem drawPages_any (a : Option Addr) (len cap : Nat) (zs : List Int) (w : World) (h : IsRow .u8 w a len cap zs) (hl : len ≤ 1099511627776) :
    Calls Tryd.prog 37 #[.slice a len cap] w (FilesTwoDrawn w) := by
  have HC := Lib.hid (cur_new h hl 67)
  clear h
  go_enter Tryd.func37, Tryd.ntmps37
  go_wp2_with fail
  refine (files5_any w.heap.size 0 _ HC.out (by omega)).mono ?_
  rintro e w1 ⟨v, t, rfl, hn, hsm, hd⟩
  have HSM := Lib.hid hsm
  clear hsm
  have HD := Lib.hid hd
  clear hd HC
  go_wp2_with fail
  refine (fileId_any _ w.heap.size 1000 v t 0 _ HD.out hn (by omega)).mono ?_
  rintro e w2 ⟨n, rfl, jn, hd⟩
  have HD2 := Lib.hid hd
  clear hd HD
  have HN := Lib.hid (new_nums w2 [1, 100, 101, 500, 0, 501] 3 _ rfl)
  have hlc := HD2.out.cur.lt
  go_wp2_with fail
  refine (pick_any w.heap.size 1030 24 _ (HD2.out.al (.cells (([1, 100, 101, 500, 0, 501] : List Int).map (Value.int .i64)).toArray 3)).cur (by omega) (by omega) (by omega)).mono ?_
  rintro e w3 ⟨r, rfl, hr0, hr1, hc, hg⟩
  have HD3 := Lib.hid ((HD2.out.al (.cells (([1, 100, 101, 500, 0, 501] : List Int).map (Value.int .i64)).toArray 3)).step hc hg)
  obtain ⟨R, rfl⟩ := Int.eq_ofNat_of_zero_le hr0
  have HCC : Hid (∀ i (hi : i < ([1, 100, 101, 500, 0, 501] : List Int).length), w3.cell? ⟨w2.heap.size, 0 + i, none⟩ = some (.int .i64 ([1, 100, 101, 500, 0, 501] : List Int)[i])) := Lib.hid (fun i hi => hg.cell (HN.out i hi) (by simp; omega))
  obtain ⟨q, hq⟩ : ∃ q, R / 11 = q := ⟨_, rfl⟩
  have hq2 : q ≤ 2 := by omega
  have hd : Int.tdiv (R : Int) 11 = (q : Int) := by rw [← hq]; exact quo_nat R 11
  have hw1 : IntKind.i64.wrap (q : Int) = (q : Int) := Go.IntWalk.i64_in _ (by omega)
  have hw2 : IntKind.i64.wrap (4 + (q : Int)) = 4 + (q : Int) := Go.IntWalk.i64_in _ (by omega)
  have hw3 : (0 : Int) ≤ 4 + (q : Int) := by omega
  have hw4 : 4 + (q : Int) ≤ 6 := by omega
  have hw5 : (4 + (q : Int)).toNat = 4 + q := by omega
  clear hc hg hq hr0 hr1 HD2 HN
  go_wp2_with fail
  refine (amongCut_any w.heap.size 1032 w2.heap.size 6 6 (4 + q) [1, 100, 101, 500, 0, 501] _ HD3.out.cur (by omega) (by simp; omega) (by omega) (by omega) (by omega) HCC.out).mono ?_
  rintro e w4 ⟨m, rfl, mm, hc, hg⟩
  have HD4 := Lib.hid (HD3.out.step hc hg)
  have im : inI m := inI_small mm (by decide)
  clear hc hg mm HD3
  go_wp2_with fail
  go_ret3
  exact ⟨v, t, n, m, rfl, jn, im, HD4.out.drawn hn HSM.out⟩
set_option maxRecDepth 20000 in
set_option maxHeartbeats 2000000 in
theorem drawSince_any (a : Option Addr) (len cap : Nat) (zs : List Int) (w : World) (h : IsRow .u8 w a len cap zs) (hl : len ≤ 1099511627776) :
    Calls Tryd.prog 34 #[.slice a len cap] w (FilesTwoDrawn w) := by
  have HC := Lib.hid (cur_new h hl 67)
  clear h
  go_enter Tryd.func34, Tryd.ntmps34
  go_wp2_with fail
  refine (files5_any w.heap.size 0 _ HC.out (by omega)).mono ?_
  rintro e w1 ⟨v, t, rfl, hn, hsm, hd⟩
  have HSM := Lib.hid hsm
  clear hsm
  have HD := Lib.hid hd
  clear hd HC
  go_wp2_with fail
  refine (among_any w.heap.size 1000 w1.heap.size 0 6 6 [0, 0, 10, 11, 20000, -1] _ (HD.out.al (.cells (([0, 0, 10, 11, 20000, -1] : List Int).map (Value.int .i64)).toArray 3)).cur (by omega) rfl (by omega) (by omega) (by have := HD.out.cur.lt; omega) (new_nums w1 [0, 0, 10, 11, 20000, -1] 3 _ rfl)).mono ?_
  rintro e w2 ⟨n, rfl, mn, hc, hg⟩
  have HD2 := Lib.hid ((HD.out.al (.cells (([0, 0, 10, 11, 20000, -1] : List Int).map (Value.int .i64)).toArray 3)).step hc hg)
  have jn : inI n := inI_small mn (by decide)
  clear hc hg mn HD
  have HN := Lib.hid (new_nums w2 [15, 20000, 20000, 20000, 410, 20001] 3 _ rfl)
  have hlc := HD2.out.cur.lt
  go_wp2_with fail
  refine (pick_any w.heap.size 1002 24 _ (HD2.out.al (.cells (([15, 20000, 20000, 20000, 410, 20001] : List Int).map (Value.int .i64)).toArray 3)).cur (by omega) (by omega) (by omega)).mono ?_
  rintro e w3 ⟨r, rfl, hr0, hr1, hc, hg⟩
  have HD3 := Lib.hid ((HD2.out.al (.cells (([15, 20000, 20000, 20000, 410, 20001] : List Int).map (Value.int .i64)).toArray 3)).step hc hg)
  obtain ⟨R, rfl⟩ := Int.eq_ofNat_of_zero_le hr0
  have HCC : Hid (∀ i (hi : i < ([15, 20000, 20000, 20000, 410, 20001] : List Int).length), w3.cell? ⟨w2.heap.size, 0 + i, none⟩ = some (.int .i64 ([15, 20000, 20000, 20000, 410, 20001] : List Int)[i])) := Lib.hid (fun i hi => hg.cell (HN.out i hi) (by simp; omega))
  obtain ⟨q, hq⟩ : ∃ q, R / 23 = q := ⟨_, rfl⟩
  have hq2 : q ≤ 1 := by omega
  have hd : Int.tdiv (R : Int) 23 = (q : Int) := by rw [← hq]; exact quo_nat R 23
  have hw1 : IntKind.i64.wrap (q : Int) = (q : Int) := Go.IntWalk.i64_in _ (by omega)
  have hw2 : IntKind.i64.wrap (5 + (q : Int)) = 5 + (q : Int) := Go.IntWalk.i64_in _ (by omega)
  have hw3 : (0 : Int) ≤ 5 + (q : Int) := by omega
  have hw4 : 5 + (q : Int) ≤ 6 := by omega
  have hw5 : (5 + (q : Int)).toNat = 5 + q := by omega
  clear hc hg hq hr0 hr1 HD2 HN
  go_wp2_with fail
  refine (amongCut_any w.heap.size 1004 w2.heap.size 6 6 (5 + q) [15, 20000, 20000, 20000, 410, 20001] _ HD3.out.cur (by omega) (by simp; omega) (by omega) (by omega) (by omega) HCC.out).mono ?_
  rintro e w4 ⟨m, rfl, mm, hc, hg⟩
  have HD4 := Lib.hid (HD3.out.step hc hg)
  have im : inI m := inI_small mm (by decide)
  clear hc hg mm HD3
  go_wp2_with fail
  go_ret3
  exact ⟨v, t, n, m, rfl, jn, im, HD4.out.drawn hn HSM.out⟩
set_option maxRecDepth 20000 in
set_option maxHeartbeats 2000000 in
theorem drawSplit_any (a : Option Addr) (len cap : Nat) (zs : List Int) (w : World) (h : IsRow .u8 w a len cap zs) (hl : len ≤ 1099511627776) :
    Calls Tryd.prog 29 #[.slice a len cap] w (FilesSplitDrawn w) := by
  have HC := Lib.hid (cur_new h hl 67)
  clear h
  go_enter Tryd.func29, Tryd.ntmps29
  go_wp2_with fail
  refine (files5_any w.heap.size 0 _ HC.out (by omega)).mono ?_
  rintro e w1 ⟨v, t, rfl, hn, hsm, hd⟩
  have HSM := Lib.hid hsm
  clear hsm
  have HD := Lib.hid hd
  clear hd HC
  go_wp2_with fail
  refine (fileId_any _ w.heap.size 1000 v t 0 _ HD.out hn (by omega)).mono ?_
  rintro e w2 ⟨n, rfl, jn, hd⟩
  have HD2 := Lib.hid hd
  clear hd HD
  go_wp2_with fail
  refine (among_any w.heap.size 1030 w2.heap.size 0 5 5 [1, 2, 299, 4999, 0] _ (HD2.out.al (.cells (([1, 2, 299, 4999, 0] : List Int).map (Value.int .i64)).toArray 3)).cur (by omega) rfl (by omega) (by omega) (by have := HD2.out.cur.lt; omega) (new_nums w2 [1, 2, 299, 4999, 0] 3 _ rfl)).mono ?_
  rintro e w3 ⟨m, rfl, mm, hc, hg⟩
  have HD3 := Lib.hid ((HD2.out.al (.cells (([1, 2, 299, 4999, 0] : List Int).map (Value.int .i64)).toArray 3)).step hc hg)
  have im : inI m := inI_small mm (by decide)
  clear hc hg mm HD2
  go_wp2_with fail
  refine (of_any w.heap.size 1032 w3.heap.size 0 5 5 moList _ (HD3.out.al (.cells (moList.map Value.string).toArray 9)).cur (by omega) rfl (by omega) (by omega) (by have := HD3.out.cur.lt; omega) (new_cells w3 moList 9 _ rfl)).mono ?_
  rintro e w4 ⟨s, rfl, ms, hc, hg⟩
  have HD4 := Lib.hid ((HD3.out.al (.cells (moList.map Value.string).toArray 9)).step hc hg)
  have is := mo_short ms
  clear hc hg ms HD3
  go_wp2_with fail
  refine bodyPost_ret (v := .tuple #[v, .int .i64 n, .int .i64 m, .string s]) (by simp [results, Tryd.results29, go_sem]) rfl ?_
  exact ⟨v, t, n, m, s, rfl, jn, im, is, HD4.out.drawn hn HSM.out⟩
def FileDraw (w : World) (e : Ending) (w' : World) : Prop := ∃ f : Fi, e = .returned (.agg #[.int .i64 f.id, .int .i64 f.series, .string f.title, .int .i64 f.opened, .int .i64 f.closed, .int .i64 f.state, .int .i64 f.pages]) ∧ f.ok ∧ Below w.heap.size w w'
set_option maxRecDepth 20000 in
set_option maxHeartbeats 2000000 in
theorem drawIsFile_any (a : Option Addr) (len cap : Nat) (zs : List Int) (w : World) (h : IsRow .u8 w a len cap zs) (hl : len ≤ 1099511627776) :
    Calls Tryd.prog 26 #[.slice a len cap] w (FileDraw w) := by
  obtain ⟨W0, hW0⟩ : ∃ x, x = w.alloc (.cells #[.int .i64 0, .int .i64 0, .string ⟨#[]⟩, .int .i64 0, .int .i64 0, .int .i64 0, .int .i64 0] 43 (0, 0)) := ⟨_, rfl⟩
  have hs0 : W0.heap.size = w.heap.size + 1 := by rw [hW0]; simp
  have b0 : Below w.heap.size w W0 := by rw [hW0]; exact below_al (Below.refl _ _) _
  have z0 : ∀ j v, (#[.int .i64 0, .int .i64 0, .string ⟨#[]⟩, .int .i64 0, .int .i64 0, .int .i64 0, .int .i64 0] : Array Value)[j]? = some v → W0.cell? ⟨w.heap.size, j, none⟩ = some v := fun j v hj => by rw [hW0]; exact cell_new w _ _ j hj
  have z3 : ∀ j, W0.frozen? ⟨w.heap.size, j, none⟩ = false := by intro j; rw [hW0]; simp [World.frozen?_alloc_mark]
  have Z : Hid (∀ W, Below W0.heap.size W0 W → (∀ j v, (#[.int .i64 0, .int .i64 0, .string ⟨#[]⟩, .int .i64 0, .int .i64 0, .int .i64 0, .int .i64 0] : Array Value)[j]? = some v → W.cell? ⟨w.heap.size, j, none⟩ = some v) ∧ ∀ j, W.frozen? ⟨w.heap.size, j, none⟩ = false) := Lib.hid fun W hW =>
    ⟨fun j v hj => cell_kept (z0 j v hj) hW, fun j => (hW.frozen (p := ⟨w.heap.size, j, none⟩) (by show w.heap.size < W0.heap.size; omega)).trans (z3 j)⟩
  have hc0 := cur_new (isRow_afterF h b0) hl 67
  obtain ⟨W1, hW1⟩ : ∃ x, x = W0.alloc (.cells #[.slice a len cap, .int .i64 0, .int .u64 0] 67 (0, 0)) := ⟨_, rfl⟩
  have b1 : Below W0.heap.size W0 W1 := by rw [hW1]; exact below_al (Below.refl _ _) _
  have hc1 : Cur W1 W0.heap.size 0 := by rw [hW1]; exact hc0
  have HC := Lib.hid hc1
  have HW0 := Lib.hid hW0
  have HW1 := Lib.hid hW1
  have HS0 := Lib.hid hs0
  have HB0 := Lib.hid b0
  have HB1 := Lib.hid b1
  clear h z0 z3 hs0 b0 hW0 hc0 hW1 b1 hc1
  go_enter Tryd.func26, Tryd.ntmps26
  go_upto_region 2 with fail
  try rw [← HW0.out]
  try rw [← HS0.out]
  try rw [← HW1.out]
  go_wp2_with fail
  refine (among_any W0.heap.size 0 W1.heap.size 0 3 3 [1, 42, 999] _ (HC.out.later (Below.alloc (Below.refl (W0.heap.size + 1) W1) HC.out.lt (.cells (([1, 42, 999] : List Int).map (Value.int .i64)).toArray 3))) (by omega) rfl (by omega) (by omega) (by have := HC.out.lt; omega) (new_nums W1 [1, 42, 999] 3 _ rfl)).mono ?_
  rintro e w2 ⟨id, rfl, mid, hc2, hg2⟩
  have hid : inI id := inI_small mid (by decide)
  have HC2 := Lib.hid hc2
  have HB2 : Hid (Below W0.heap.size W0 w2) := Lib.hid ((HB1.out.alloc (by have := HB1.out.size; omega) _).trans (below_of_cur hg2 (by have := HC.out.lt; simp; omega)))
  clear hc2 hg2 mid HC
  go_wp2_with fail
  refine (file5_any W0.heap.size 2 id _ HC2.out (by omega) hid).mono ?_
  rintro e w3 ⟨⟨x0, x1, x2, x3, x4, x5, x6⟩, rfl, hok, hc3, hg3⟩
  have HB3 : Hid (Below W0.heap.size W0 w3) := Lib.hid (HB2.out.trans (below_of_cur hg3 (by have := HC2.out.lt; omega)))
  have HOK := Lib.hid hok
  obtain ⟨zz, zf⟩ := Z.out w3 HB3.out
  have r0 := zz 0 _ rfl
  have r1 := zz 1 _ rfl
  have r2 := zz 2 _ rfl
  have r3 := zz 3 _ rfl
  have r4 := zz 4 _ rfl
  have r5 := zz 5 _ rfl
  have r6 := zz 6 _ rfl
  have t0 := zf 0
  have t1 := zf 1
  have t2 := zf 2
  have t3 := zf 3
  have t4 := zf 4
  have t5 := zf 5
  have t6 := zf 6
  simp only
  clear hc3 hg3 hok zz zf Z
  go_wp2_with fail
  refine bodyPost_ret (v := .agg #[.int .i64 x0, .int .i64 x1, .string x2, .int .i64 x3, .int .i64 x4, .int .i64 x5, .int .i64 x6]) (by simp [results, Tryd.results26, go_sem, r0, r1, r2, r3, r4, r5, r6]) rfl ?_
  refine ⟨⟨x0, x1, x2, x3, x4, x5, x6⟩, rfl, HOK.out, ?_⟩
  exact (((((((HB0.out.trans (HB3.out.mono HB0.out.size)).setCell (p := ⟨w.heap.size, 0, none⟩) (Nat.le_refl _) _).setCell (p := ⟨w.heap.size, 1, none⟩) (Nat.le_refl _) _).setCell (p := ⟨w.heap.size, 2, none⟩) (Nat.le_refl _) _).setCell (p := ⟨w.heap.size, 3, none⟩) (Nat.le_refl _) _).setCell (p := ⟨w.heap.size, 4, none⟩) (Nat.le_refl _) _).setCell (p := ⟨w.heap.size, 5, none⟩) (Nat.le_refl _) _).setCell (p := ⟨w.heap.size, 6, none⟩) (Nat.le_refl _) _
end Go.Proofs.YtpbjddiopfkgbaaDoor

namespace Go.Proofs.YtpbjddiopfkgbaaDoor
set_option linter.unusedVariables false
open Go.RowKit Go.Sort

set_option maxHeartbeats 1000000 in
theorem rHas_any (v : Value) (xs : List Int) (x : Int) (w : World) (h : RowOf vI w v xs) :
    Calls Tryd.prog 17 #[v, .int .i64 x] w fun e w' => e = .returned (.bool (decide (x ∈ xs))) ∧ Below w.heap.size w w' := by
  have hcap := h.cap
  obtain ⟨a1, c1, rfl, hl1, hm1, r1⟩ := h
  have R1 := Lib.hid r1
  clear r1
  unfold maxLen at hm1
  go_enter Tryd.func17, Tryd.ntmps17
  go_wp2
  go_loopw [5] (fun i wr => ∃ k : Nat, k ≤ xs.length ∧ i = .int .i64 k ∧ Hid (¬ x ∈ xs.take k) ∧ Below w.heap.size w wr) (fun i _ => xs.length - (intOf i).toNat)
  case atStart => exact ⟨0, Nat.zero_le _, rfl, Lib.hid (by simp), Below.refl _ _⟩
  case round =>
    obtain ⟨k, hk, rfl, HN, hb⟩ := hrel
    by_cases hlt : k < xs.length
    · obtain ⟨b1, o1, hb1, rfl, e1⟩ := R1.out.resolve_left (fun e => by rw [e] at hlt; simp at hlt)
      obtain ⟨y, hy⟩ : ∃ s, xs[k] = s := ⟨_, rfl⟩
      have f1 := (hb.cell (p := ⟨b1, o1 + k, none⟩) hb1).trans (e1 k hlt)
      rw [hy] at f1
      simp only [vI] at f1
      have HY := Lib.hid hy
      have g0 : (0 : Int) ≤ (k : Int) := by omega
      have g1 : (k : Int) < (xs.length : Int) := by omega
      clear e1 hy
      by_cases he : y = x
      · have hq : (y == x) = true := by simp [he]
        have HE : Hid (x ∈ xs) := by rw [← he, ← HY.out]; exact List.getElem_mem hlt
        clear he
        go_wp2
        go_ret
        exact ⟨ret_bool (Eq.symm (decide_eq_true HE.out)), hb⟩
      · have hq : (y == x) = false := by simp [he]
        have HE : Hid (¬ x ∈ xs.take (k + 1)) := fun h => by
          rw [List.take_succ_eq_append_getElem hlt, List.mem_append, List.mem_singleton, HY.out] at h
          exact h.elim HN.out (fun h => he h.symm)
        clear he
        go_wp2
        go_roundw
        case rel => exact ⟨k + 1, by omega, by go_num, HE, hb⟩
        case measure => simp [intOf]; omega
    · have hkl : k = xs.length := by omega
      have HE : Hid (¬ x ∈ xs) := by have := HN.out; rwa [hkl, List.take_length] at this
      clear hkl
      go_wp2
      go_ret
      exact ⟨ret_bool (Eq.symm (decide_eq_false HE.out)), hb⟩

set_option maxHeartbeats 1000000 in
theorem rInts_any (v1 v2 : Value) (xs ys : List Int) (w : World) (h1 : RowOf vI w v1 xs) (h2 : RowOf vI w v2 ys) :
    Calls Tryd.prog 36 #[v1, v2] w fun e w' => e = .returned (.bool (decide (xs = ys))) ∧ Below w.heap.size w w' := by
  have hx := h1.cap
  have hy := h2.cap
  obtain ⟨a1, c1, rfl, hl1, hm1, r1⟩ := h1
  obtain ⟨a2, c2, rfl, hl2, hm2, r2⟩ := h2
  by_cases hlen : xs.length = ys.length
  · have hLen := Lib.hid hlen
    have hne : (((xs.length : Nat) : Int) != (xs.length : Int)) = false := by simp
    rw [← hlen]
    clear hlen
    have R1 := Lib.hid r1
    have R2 := Lib.hid r2
    clear r1 r2
    go_enter Tryd.func36, Tryd.ntmps36
    go_wp2
    go_loopw [5] (fun i wr => ∃ k : Nat, k ≤ xs.length ∧ i = .int .i64 k ∧ Hid (∀ j (h : j < k) (h1 : j < xs.length) (h2 : j < ys.length), xs[j] = ys[j]) ∧ Below w.heap.size w wr) (fun i _ => xs.length - (intOf i).toNat)
    case atStart => exact ⟨0, Nat.zero_le _, rfl, Lib.hid (fun j h => by omega), Below.refl _ _⟩
    case round =>
      obtain ⟨k, hk, rfl, HJ, hb⟩ := hrel
      by_cases hlt : k < xs.length
      · obtain ⟨b1, o1, hb1, rfl, e1⟩ := R1.out.resolve_left (fun e => by rw [e] at hlt; simp at hlt)
        obtain ⟨b2, o2, hb2, rfl, e2⟩ := R2.out.resolve_left (fun e => by have := hLen.out; rw [e] at this; simp at this; rw [this] at hlt; simp at hlt)
        obtain ⟨x, hx⟩ : ∃ s, xs[k] = s := ⟨_, rfl⟩
        obtain ⟨y, hy⟩ : ∃ s, ys[k]'(by have := hLen.out; omega) = s := ⟨_, rfl⟩
        have f1 := (hb.cell (p := ⟨b1, o1 + k, none⟩) hb1).trans (e1 k hlt)
        have f2 := (hb.cell (p := ⟨b2, o2 + k, none⟩) hb2).trans (e2 k (by have := hLen.out; omega))
        rw [hx] at f1
        rw [hy] at f2
        simp only [vI] at f1 f2
        have HX := Lib.hid hx
        have HY := Lib.hid hy
        have g0 : (0 : Int) ≤ (k : Int) := by omega
        have g1 : (k : Int) < (xs.length : Int) := by omega
        clear e1 e2 hx hy
        by_cases he : x = y
        · have hq : (x != y) = false := by simp [he]
          have HE := Lib.hid he
          clear he
          go_wp2
          go_quiet (fail)
          go_wp2
          go_roundw
          case rel =>
            refine ⟨k + 1, by omega, by go_num, Lib.hid (fun j h a b => ?_), below_drewN hb _⟩
            rcases Nat.lt_or_ge j k with h' | h'
            · exact HJ.out j h' a b
            · obtain rfl : j = k := by omega
              rw [HX.out, HY.out]
              exact HE.out
          case measure => simp [intOf]; omega
        · have hq : (x != y) = true := by simp [he]
          have HE := Lib.hid he
          clear he
          go_wp2
          go_quiet (fail)
          go_wp2
          go_ret
          exact ⟨ret_bool (Eq.symm (decide_eq_false (fun e => HE.out (by subst e; exact HX.out.symm.trans HY.out)))), below_drewN hb _⟩
      · go_wp2
        go_ret
        refine ⟨ret_bool (Eq.symm (decide_eq_true ?_)), hb⟩
        exact List.ext_getElem hLen.out fun i a b => HJ.out i (by omega) a b
  · have hne : (((xs.length : Nat) : Int) != (ys.length : Int)) = true := by simp; omega
    rw [decide_eq_false (fun e => hlen (by rw [e]))]
    go_enter Tryd.func36, Tryd.ntmps36
    go_wp2
    go_ret
    exact ⟨rfl, Below.refl _ _⟩

set_option maxRecDepth 20000 in
set_option maxHeartbeats 1000000 in
theorem rFiles_same (v1 v2 : Value) (xs : List Fi) (w : World) (h1 : RowR 7 rFi w v1 xs) (h2 : RowR 7 rFi w v2 xs) :
    Calls Tryd.prog 14 #[v1, v2] w fun e w' => e = .returned (.bool true) ∧ Below w.heap.size w w' := by
  have hx := h1.cap
  have hy := h2.cap
  obtain ⟨a1, c1, rfl, hl1, hm1, r1⟩ := h1
  obtain ⟨a2, c2, rfl, hl2, hm2, r2⟩ := h2
  have hne : (((xs.length : Nat) : Int) != (xs.length : Int)) = false := by simp
  have R1 := Lib.hid r1
  have R2 := Lib.hid r2
  clear r1 r2
  go_enter Tryd.func14, Tryd.ntmps14
  go_wp2
  go_loopw [5] (fun i wr => ∃ k : Nat, k ≤ xs.length ∧ i = .int .i64 k ∧ Below w.heap.size w wr) (fun i _ => xs.length - (intOf i).toNat)
  case atStart => exact ⟨0, Nat.zero_le _, rfl, Below.refl _ _⟩
  case round =>
    obtain ⟨k, hk, rfl, hb⟩ := hrel
    by_cases hlt : k < xs.length
    · obtain ⟨b1, o1, hb1, rfl, e1⟩ := R1.out.resolve_left (fun e => by rw [e] at hlt; simp at hlt)
      obtain ⟨b2, o2, hb2, rfl, e2⟩ := R2.out.resolve_left (fun e => by rw [e] at hlt; simp at hlt)
      obtain ⟨⟨x0, x1, x2, x3, x4, x5, x6⟩, hx⟩ : ∃ s, xs[k] = s := ⟨_, rfl⟩
      obtain ⟨cs1, hcl1, hcs1, hre1⟩ := e1 k hlt
      obtain ⟨cs2, hcl2, hcs2, hre2⟩ := e2 k hlt
      rw [hx] at hre1 hre2
      obtain ⟨rfl, hok1⟩ := hre1
      obtain ⟨rfl, hok2⟩ := hre2
      have fa0 := (hb.cell (p := ⟨b1, o1 + k * 7, none⟩) hb1).trans (hcs1 0 (by simp only [fiC, List.length_cons, List.length_nil]; omega))
      have fa1 := (hb.cell (p := ⟨b1, o1 + k * 7 + 1, none⟩) hb1).trans (hcs1 1 (by simp only [fiC, List.length_cons, List.length_nil]; omega))
      have fa2 := (hb.cell (p := ⟨b1, o1 + k * 7 + 2, none⟩) hb1).trans (hcs1 2 (by simp only [fiC, List.length_cons, List.length_nil]; omega))
      have fa3 := (hb.cell (p := ⟨b1, o1 + k * 7 + 3, none⟩) hb1).trans (hcs1 3 (by simp only [fiC, List.length_cons, List.length_nil]; omega))
      have fa4 := (hb.cell (p := ⟨b1, o1 + k * 7 + 4, none⟩) hb1).trans (hcs1 4 (by simp only [fiC, List.length_cons, List.length_nil]; omega))
      have fa5 := (hb.cell (p := ⟨b1, o1 + k * 7 + 5, none⟩) hb1).trans (hcs1 5 (by simp only [fiC, List.length_cons, List.length_nil]; omega))
      have fa6 := (hb.cell (p := ⟨b1, o1 + k * 7 + 6, none⟩) hb1).trans (hcs1 6 (by simp only [fiC, List.length_cons, List.length_nil]; omega))
      have fb0 := (hb.cell (p := ⟨b2, o2 + k * 7, none⟩) hb2).trans (hcs2 0 (by simp only [fiC, List.length_cons, List.length_nil]; omega))
      have fb1 := (hb.cell (p := ⟨b2, o2 + k * 7 + 1, none⟩) hb2).trans (hcs2 1 (by simp only [fiC, List.length_cons, List.length_nil]; omega))
      have fb2 := (hb.cell (p := ⟨b2, o2 + k * 7 + 2, none⟩) hb2).trans (hcs2 2 (by simp only [fiC, List.length_cons, List.length_nil]; omega))
      have fb3 := (hb.cell (p := ⟨b2, o2 + k * 7 + 3, none⟩) hb2).trans (hcs2 3 (by simp only [fiC, List.length_cons, List.length_nil]; omega))
      have fb4 := (hb.cell (p := ⟨b2, o2 + k * 7 + 4, none⟩) hb2).trans (hcs2 4 (by simp only [fiC, List.length_cons, List.length_nil]; omega))
      have fb5 := (hb.cell (p := ⟨b2, o2 + k * 7 + 5, none⟩) hb2).trans (hcs2 5 (by simp only [fiC, List.length_cons, List.length_nil]; omega))
      have fb6 := (hb.cell (p := ⟨b2, o2 + k * 7 + 6, none⟩) hb2).trans (hcs2 6 (by simp only [fiC, List.length_cons, List.length_nil]; omega))
      simp [fiC] at fa0 fa1 fa2 fa3 fa4 fa5 fa6 fb0 fb1 fb2 fb3 fb4 fb5 fb6
      have g0 : (0 : Int) ≤ (k : Int) := by omega
      have g1 : (k : Int) < (xs.length : Int) := by omega
      clear hcs1 hcs2 hcl1 hcl2 e1 e2 hx R1 R2 hok1 hok2
      go_wp2_with fail
      go_quiet (fail)
      go_wp2
      go_roundw
      case rel => exact ⟨k + 1, by omega, by go_num, below_drewN hb _⟩
      case measure => simp [intOf]; omega
    · go_wp2
      go_ret
      exact ⟨rfl, hb⟩
theorem rBig_any (a : Option Addr) (len cap : Nat) (w : World) (b : Bool) (hb : decide ((65536 : Int) < (len : Int)) = b) (hl : len ≤ 9223372036854775807) :
    Calls Tryd.prog 10 #[.slice a len cap] w fun e w' => e = .returned (.bool b) ∧ w = w' := by
  have HB := Lib.hid hb
  clear hb
  go_enter Tryd.func10, Tryd.ntmps10
  go_wp2
  go_ret
  exact ⟨ret_bool HB.out, rfl⟩
theorem isRow_len {k : IntKind} {w : World} {a : Option Addr} {len cap : Nat} {zs : List Int} (h : IsRow k w a len cap zs) : len ≤ 9223372036854775807 := by
  rcases h with ⟨rfl, rfl, rfl, rfl⟩ | ⟨x, rfl, hl, hm, _⟩
  · omega
  · unfold maxLen at hm; omega
theorem rInts_same (v1 v2 : Value) (xs : List Int) (w : World) (h1 : RowOf vI w v1 xs) (h2 : RowOf vI w v2 xs) :
    Calls Tryd.prog 36 #[v1, v2] w fun e w' => e = .returned (.bool true) ∧ Below w.heap.size w w' :=
  (rInts_any v1 v2 xs xs w h1 h2).mono fun e w' ⟨h, b⟩ => ⟨by rw [h, decide_eq_true rfl], b⟩
end Go.Proofs.YtpbjddiopfkgbaaDoor

namespace Go.Proofs.YtpbjddiopfkgbaaDoor
set_option linter.unusedVariables false

theorem with_yes {t : List Fi} {k : Nat} {f : Fi} {ys : List Fi} (h : withFi t k f = (ys, true)) : areFi (t.set k f) = true ∧ ys = t.set k f := by
  unfold withFi at h
  split at h
  · rename_i hh; exact ⟨hh, (Prod.mk.inj h).1.symm⟩
  · cases (Prod.mk.inj h).2
theorem find_hit {t : List Fi} {x st : Int} (h0 : 0 ≤ st) (h : ¬ findFi t x st < 0) : ∃ k, k < t.length ∧ placeFi t x st = k ∧ areFi t = true ∧ (t.getD k fiD).id = x ∧ (t.getD k fiD).state = st := by
  rcases findFi_cases t x st with hk | ⟨k, hkl, hk, hpl, ht, hhit⟩
  · omega
  · obtain ⟨h1, h2⟩ := hitFi_iff.1 hhit
    exact ⟨k, hkl, hpl, ht, h1, h2.resolve_left (by omega)⟩
theorem set_self_fi {t : List Fi} {k : Nat} (hk : k < t.length) : t.set k (t.getD k fiD) = t := by
  rw [getFi_lt hk]; exact List.set_getElem_self hk
theorem back_fi {t : List Fi} {k : Nat} {f g : Fi} (hk : k < t.length) (ht : areFi t = true) (hg : g = t.getD k fiD) : withFi (t.set k f) k g = (t, true) := by
  have e : (t.set k f).set k g = t := by rw [List.set_set, hg]; exact set_self_fi hk
  unfold withFi
  rw [e, if_pos ht]
theorem valid_at {t : List Fi} (h : areFi t = true) {k : Nat} (hk : k < t.length) : isFi (t.getD k fiD) = true := (fi_at h hk).1
theorem open_zero {f : Fi} (h : isFi f = true) (hs : f.state = 0) : f.closed = 0 := by
  have := (isFi_iff.1 h).2.2.2.2.2.2
  unfold closedB at this
  rw [if_pos hs] at this
  exact of_decide_eq_true this
theorem shut_days {f : Fi} (h : isFi f = true) (hs : f.state ≠ 0) : (0 ≤ f.closed ∧ f.closed ≤ 20000) ∧ f.opened ≤ f.closed := by
  have := (isFi_iff.1 h).2.2.2.2.2.2
  unfold closedB at this
  rw [if_neg hs, Bool.and_eq_true] at this
  exact ⟨of_decide_eq_true this.1, of_decide_eq_true this.2⟩
theorem fi_open (f : Fi) (h : f.state = 0) (hz : f.closed = 0) : (⟨f.id, f.series, f.title, f.opened, 0, 0, f.pages⟩ : Fi) = f := by
  obtain ⟨x0, x1, x2, x3, x4, x5, x6⟩ := f
  simp only at h hz
  subst h
  subst hz
  rfl
theorem fi_state (f : Fi) (s : Int) (h : f.state = s) : (⟨f.id, f.series, f.title, f.opened, f.closed, s, f.pages⟩ : Fi) = f := by
  obtain ⟨x0, x1, x2, x3, x4, x5, x6⟩ := f
  simp only at h
  subst h
  rfl
theorem clo_yes {t : List Fi} {x d : Int} {ys : List Fi} (h : cloRes t x d = (ys, true)) : ∃ k, k < t.length ∧ areFi t = true ∧ (t.getD k fiD).id = x ∧ (t.getD k fiD).state = 0 ∧ areFi ys = true ∧ ys = t.set k { t.getD k fiD with state := 1, closed := d } := by
  unfold cloRes at h
  split at h
  · cases (Prod.mk.inj h).2
  · rename_i hh
    obtain ⟨k, hk, hpl, ht, h1, h2⟩ := find_hit (Int.le_refl 0) (fun e => hh (.inl e))
    rw [hpl] at h
    obtain ⟨hy, rfl⟩ := with_yes h
    exact ⟨k, hk, ht, h1, h2, hy, rfl⟩
theorem clo_back {t : List Fi} {x d : Int} {ys : List Fi} (h : cloRes t x d = (ys, true)) : reoRes ys x = (t, true) := by
  obtain ⟨k, hk, ht, h1, h2, hy, rfl⟩ := clo_yes h
  have hl : k < (t.set k { t.getD k fiD with state := 1, closed := d }).length := by rw [List.length_set]; exact hk
  have hg : (t.set k { t.getD k fiD with state := 1, closed := d }).getD k fiD = { t.getD k fiD with state := 1, closed := d } := by rw [getD_set_fi hk, if_pos rfl]
  obtain ⟨e1, e2⟩ := find_yes (x := x) (st := 1) hy hl (by rw [hg]; exact h1) (.inr (by rw [hg]))
  unfold reoRes
  rw [if_neg (by rw [e1]; omega), e2, hg]
  refine back_fi hk ht ?_
  have hz := open_zero (valid_at ht hk) h2
  exact fi_open _ h2 hz
theorem clo_since {t : List Fi} {x d : Int} {ys : List Fi} (h : cloRes t x d = (ys, true)) : ∃ zs, sinceRes ys d d = (zs, true) ∧ x ∈ zs := by
  obtain ⟨k, hk, ht, h1, h2, hy, rfl⟩ := clo_yes h
  have hl : k < (t.set k { t.getD k fiD with state := 1, closed := d }).length := by rw [List.length_set]; exact hk
  have hg : (t.set k { t.getD k fiD with state := 1, closed := d }).getD k fiD = { t.getD k fiD with state := 1, closed := d } := by rw [getD_set_fi hk, if_pos rfl]
  have hv := valid_at hy hl
  have hd := shut_days hv (by rw [hg]; simp)
  have hc : ((t.set k { t.getD k fiD with state := 1, closed := d }).getD k fiD).closed = d := by rw [hg]
  have hst : ((t.set k { t.getD k fiD with state := 1, closed := d }).getD k fiD).state = 1 := by rw [hg]
  have hid : ((t.set k { t.getD k fiD with state := 1, closed := d }).getD k fiD).id = x := by rw [hg]; exact h1
  generalize t.set k { t.getD k fiD with state := 1, closed := d } = ys at *
  refine ⟨(sinceF ys d d).map (·.id), ?_, ?_⟩
  · unfold sinceRes
    rw [if_pos ⟨hy, by omega, by omega⟩]
  · refine List.mem_map.2 ⟨ys.getD k fiD, ?_, hid⟩
    unfold sinceF
    rw [mem_ordF, List.mem_filter]
    refine ⟨by rw [getFi_lt hl]; exact List.getElem_mem hl, ?_⟩
    unfold sinceB
    rw [hst, hc]
    simp
theorem len_back {t : List Fi} {x : Int} {c : Bool} {ys : List Fi} (h : lenRes t x c = (ys, true)) : lenRes ys x (!c) = (t, true) := by
  cases c
  all_goals
    unfold lenRes at h
    simp only [Bool.false_eq_true, if_false, if_true] at h
    split at h
    · cases (Prod.mk.inj h).2
    · rename_i hh
      obtain ⟨k, hk, hpl, ht, h1, h2⟩ := find_hit (by omega) hh
      rw [hpl] at h
      obtain ⟨hy, rfl⟩ := with_yes h
      unfold lenRes
      simp only [Bool.not_false, Bool.not_true, Bool.false_eq_true, if_false, if_true]
      have hg : ∀ f : Fi, (t.set k f).getD k fiD = f := fun f => by rw [getD_set_fi hk, if_pos rfl]
      have hl : ∀ f : Fi, k < (t.set k f).length := fun f => by rw [List.length_set]; exact hk
      first
        | (obtain ⟨e1, e2⟩ := find_yes (x := x) (st := 2) hy (hl _) (by rw [hg]; exact h1) (.inr (by rw [hg]))
           rw [if_neg (by rw [e1]; omega), e2, hg]
           exact back_fi hk ht (fi_state _ _ h2))
        | (obtain ⟨e1, e2⟩ := find_yes (x := x) (st := 1) hy (hl _) (by rw [hg]; exact h1) (.inr (by rw [hg]))
           rw [if_neg (by rw [e1]; omega), e2, hg]
           exact back_fi hk ht (fi_state _ _ h2))
theorem day_pos {t : List Fi} {x d n : Int} (h : dayRes t x d = (n, true)) : 1 ≤ n := by
  unfold dayRes at h
  split at h
  · cases (Prod.mk.inj h).2
  · rename_i hh
    rcases findFi_cases t x (-1) with hk | ⟨k, hkl, hk, hpl, ht, hhit⟩
    · exact absurd (.inl (by omega)) hh
    · rw [hpl] at h hh
      have hv := valid_at ht hkl
      obtain ⟨rfl, _⟩ := Prod.mk.inj h
      split
      · omega
      · rename_i hs
        have := shut_days hv hs
        omega
theorem since_more {t : List Fi} {a b : Int} {xs : List Int} (h : sinceRes t a b = (xs, true)) : ∃ ys, sinceRes t 0 b = (ys, true) ∧ xs.length ≤ ys.length := by
  unfold sinceRes at h
  split at h
  · rename_i hh
    obtain ⟨rfl, _⟩ := Prod.mk.inj h
    refine ⟨(sinceF t 0 b).map (·.id), by unfold sinceRes; rw [if_pos ⟨hh.1, hh.2.1, by omega⟩], ?_⟩
    rw [List.length_map, List.length_map, sinceF, sinceF, ordF_length, ordF_length]
    have e : t.filter (sinceB a b) = (t.filter (sinceB 0 b)).filter (sinceB a b) := by
      rw [List.filter_filter]
      congr 1
      funext f
      rcases hb : sinceB a b f with _ | _
      · simp
      · have : sinceB 0 b f = true := by
          simp only [sinceB, Bool.and_eq_true, decide_eq_true_eq] at hb ⊢
          omega
        rw [this]; rfl
    rw [e]
    exact List.length_filter_le _ _
  · cases (Prod.mk.inj h).2
theorem ser_known {t : List Fi} {rs : List (List Int)} {b : Bool} (h : serRes t = (rs, b)) : b = areFi t := by
  unfold serRes at h
  split at h
  · rename_i hh; rw [hh]; exact (Prod.mk.inj h).2.symm
  · rename_i hh
    rw [← (Prod.mk.inj h).2]
    cases hb : areFi t
    · rfl
    · exact absurd hb hh
theorem rows_like {t u : List Fi} (h1 : ∀ s, 0 < cntS t s ↔ 0 < cntS u s) (h2 : ∀ s, pagS t s = pagS u s) : ∀ n, (rowsTo t n).map (fun r => (r.getD 0 0, r.getD 2 0)) = (rowsTo u n).map (fun r => (r.getD 0 0, r.getD 2 0))
  | 0 => rfl
  | n + 1 => by
    have ih := rows_like h1 h2 n
    unfold rowsTo
    by_cases hc : 0 < cntS t ((n + 1 : Nat) : Int)
    · rw [if_pos hc, if_pos ((h1 _).1 hc), List.map_append, List.map_append, ih]
      simp [rowS, h2]
    · rw [if_neg hc, if_neg (fun e => hc ((h1 _).2 e))]
      exact ih
theorem parts_fi {t : List Fi} {k : Nat} (hk : k < t.length) : t = t.take k ++ t.getD k fiD :: t.drop (k + 1) := by
  rw [getFi_lt hk, ← List.drop_eq_getElem_cons hk, List.take_append_drop]
theorem set_parts_fi {t : List Fi} {k : Nat} {g : Fi} (hk : k < t.length) : t.set k g = t.take k ++ g :: t.drop (k + 1) := by
  rw [List.set_eq_take_append_cons_drop, if_pos hk]
theorem cntS_set {t : List Fi} {k : Nat} {g : Fi} (hk : k < t.length) (hs : g.series = (t.getD k fiD).series) (s : Int) : cntS (t.set k g) s = cntS t s := by
  conv => rhs; rw [parts_fi hk]
  rw [set_parts_fi hk]
  unfold cntS
  rw [List.filter_append, List.filter_append, List.filter_cons, List.filter_cons, hs]
  split <;> simp
theorem pagS_set {t : List Fi} {k : Nat} {g : Fi} (hk : k < t.length) (hs : g.series = (t.getD k fiD).series) (s : Int) : pagS (t.set k g) s = pagS t s + (if (t.getD k fiD).series = s then g.pages - (t.getD k fiD).pages else 0) := by
  have e : pagS t s = pagS (t.take k ++ t.getD k fiD :: t.drop (k + 1)) s := congrArg (fun z => pagS z s) (parts_fi hk)
  rw [e, set_parts_fi hk]
  unfold pagS
  rw [List.filter_append, List.filter_append, List.filter_cons, List.filter_cons, hs]
  generalize t.getD k fiD = f
  by_cases h : f.series = s
  · simp [h]; omega
  · simp [h]
theorem spl_pages {t : List Fi} {x p : Int} {s : ByteArray} {xs : List Fi} {n : Int} (h : splRes t x p s = (xs, n, true)) : ∃ ra rb, serRes t = (ra, true) ∧ serRes xs = (rb, true) ∧ areFi xs = true ∧ ra.length = rb.length ∧ (∀ r ∈ ra, r.length = 3) ∧ (∀ r ∈ rb, r.length = 3) ∧
    ∀ i, i < ra.length → (ra.getD i []).getD 0 0 = (rb.getD i []).getD 0 0 ∧ (ra.getD i []).getD 2 0 = (rb.getD i []).getD 2 0 := by
  unfold splRes at h
  split at h
  · cases (Prod.mk.inj (Prod.mk.inj h).2).2
  · rename_i hh
    split at h
    · rename_i hv
      obtain ⟨rfl, h3⟩ := Prod.mk.inj h
      obtain ⟨k, hk, hpl, ht, h1, h2⟩ := find_hit (Int.le_refl 0) (fun e => hh (.inl e))
      rw [hpl] at hv ⊢
      have hcnt : ∀ q, 0 < cntS t q ↔ 0 < cntS (splList t k p s) q := fun q => by
        unfold splList
        have e1 := cntS_set (t := t) (k := k) (g := { t.getD k fiD with pages := (t.getD k fiD).pages - p }) hk rfl q
        rw [cntS_snoc, e1]
        simp only
        constructor
        · intro h; omega
        · intro h
          by_cases e : (t.getD k fiD).series = q
          · exact cntS_pos.2 ⟨t.getD k fiD, by rw [getFi_lt hk]; exact List.getElem_mem hk, e⟩
          · rw [if_neg e] at h; omega
      have hpag : ∀ q, pagS t q = pagS (splList t k p s) q := fun q => by
        unfold splList
        have e1 := pagS_set (t := t) (k := k) (g := { t.getD k fiD with pages := (t.getD k fiD).pages - p }) hk rfl q
        rw [pagS_snoc, e1]
        simp only
        by_cases e : (t.getD k fiD).series = q
        · rw [if_pos e, if_pos e]; omega
        · rw [if_neg e, if_neg e]; omega
      have hm := rows_like hcnt hpag 99
      have hl : (rowsTo t 99).length = (rowsTo (splList t k p s) 99).length := by
        have := congrArg List.length hm
        simpa using this
      refine ⟨rowsTo t 99, rowsTo (splList t k p s) 99, by unfold serRes; rw [if_pos ht], by unfold serRes; rw [if_pos hv], hv, hl, rowsTo_three t 99, rowsTo_three _ 99, fun i hi => ?_⟩
      have hi2 : i < (rowsTo (splList t k p s) 99).length := by omega
      have e := congrArg (fun l : List (Int × Int) => l[i]?) hm
      simp only [List.getElem?_map, List.getElem?_eq_getElem hi, List.getElem?_eq_getElem hi2, Option.map_some] at e
      have e2 := Option.some.inj e
      have r1 : (rowsTo t 99).getD i [] = (rowsTo t 99)[i] := by rw [List.getD_eq_getElem?_getD, List.getElem?_eq_getElem hi]; rfl
      have r2 : (rowsTo (splList t k p s) 99).getD i [] = (rowsTo (splList t k p s) 99)[i] := by rw [List.getD_eq_getElem?_getD, List.getElem?_eq_getElem hi2]; rfl
      rw [r1, r2]
      exact ⟨congrArg Prod.fst e2, congrArg Prod.snd e2⟩
    · cases (Prod.mk.inj (Prod.mk.inj h).2).2
end Go.Proofs.YtpbjddiopfkgbaaDoor

namespace Go.Proofs.YtpbjddiopfkgbaaDoor
set_option linter.unusedVariables false
set_option maxRecDepth 20000
open Go.RowKit Go.ChangeShapes Go.WideShapes Go.Deep

structure By8 where
  a : Option Addr
  len : Nat
  cap : Nat
  zs : List Int
def ByV (w : World) (v : Value) (x : By8) : Prop := v = .slice x.a x.len x.cap ∧ IsRow .u8 w x.a x.len x.cap x.zs
section
variable {H : Type} {enc : TypeId × Value → H} {w : World} {base b0 : Nat} {held : Bool} {r : Reach} {v : Value} {d : DataW H} {p : List MemPlace}
theorem arg_code (hv : Value.okWide Tryd.prog w r b0 22 v) (h : DataW.Trod enc Tryd.prog w base (fun _ => true) held 22 v d p) : ∃ x, ByV w v x := by
  obtain ⟨a0, len0, cap0, rfl⟩ := okWide_slice Tryd.underlying22 hv
  obtain ⟨fuel, hf⟩ := h
  rcases open_ints Tryd.underlying22 Tryd.underlying5 (by kernel_rfl) hf with ⟨hcs, _⟩ | ⟨x, l, c, zs, hcs, _, hl, hm, hz, _, hcell, hwz⟩
  · simp [Value.cells] at hcs
    obtain ⟨rfl, rfl, rfl⟩ := hcs
    exact ⟨⟨none, 0, 0, []⟩, rfl, .inl ⟨rfl, rfl, rfl, rfl⟩⟩
  · simp [Value.cells] at hcs
    obtain ⟨rfl, rfl, rfl⟩ := hcs
    exact ⟨⟨some x, len0, cap0, zs⟩, rfl, .inr ⟨_, rfl, hl, hm, by simpa using hz, hcell, hwz⟩⟩
end
end Go.Proofs.YtpbjddiopfkgbaaDoor
