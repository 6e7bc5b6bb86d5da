/- The expected days, the program's: expectedDays, ExpectedDay. -/
import Derived.Test.YtedckfbjhhabgaaTgE
import Derived.Test.YtedckfbjhhabgaaTgT
import Derived.Maps.RangeWalk
import Derived.Maps.Ext
import Derived.Maps.OwnSet
namespace Go.Proofs.Ytedckfbjhhabgaa
set_option linter.unusedVariables false
open Go.RowKit Go.Sort Go.Maps

theorem ins_lenT {H : Type} (x : Lit × DataW H) : ∀ l, (DataW.insert x l).length = l.length + 1
  | [] => rfl
  | y :: r => by
    unfold DataW.insert
    split
    · rfl
    · rw [List.length_cons, ins_lenT x r, List.length_cons]
theorem map_sizeT {H : Type} {w : World} {P : Program} {k : TypeId} {R : Value → Option (DataW H × List MemPlace)} {b n : Nat} {D : DataW H} (h : w.ownsMap P k R b n D) : Maps.size D ≤ n := by
  obtain ⟨es, clock, _, _, hle, rfl⟩ := h
  rw [size_eq]
  have key : ∀ l : List (Lit × DataW H), (l.foldr DataW.insert []).length = l.length := by
    intro l
    induction l with
    | nil => rfl
    | cons a l ih => rw [List.foldr_cons, ins_lenT, ih, List.length_cons]
  rw [key]
  simpa using hle
theorem map_objT {H : Type} {w : World} {P : Program} {k : TypeId} {R : Value → Option (DataW H × List MemPlace)} {b n : Nat} {D : DataW H} (h : w.ownsMap P k R b n D) : ∃ es c, w.heap[b]? = some (.map es c) := by
  obtain ⟨es, clock, h1, _⟩ := h
  exact ⟨es, clock, h1⟩
theorem cell_not_map {w : World} {b j ob : Nat} {v : Value} (h : w.cell? ⟨b, j, none⟩ = some v) (hm : ∃ es c, w.heap[ob]? = some (.map es c)) : b ≠ ob := by
  obtain ⟨es, c, hm⟩ := hm
  rintro rfl
  simp [World.cell?, hm] at h
theorem NodR.mapped {hi ob : Nat} {w w' : World} {A : List Nat} {t : List Tg} (h : NodR hi w A t) (hg : w.grownBy w' (some ob)) (hm : ∃ es c, w.heap[ob]? = some (.map es c)) : NodR hi w' A t := by
  have key : ∀ (b j : Nat) (v : Value), b < hi → w.cell? ⟨b, j, none⟩ = some v → w'.cell? ⟨b, j, none⟩ = some v := fun b j v hb hc =>
    (World.cell?_of_block (a := ⟨b, j, none⟩) (hg.block b (Nat.lt_of_lt_of_le hb h.size) (fun e => cell_not_map hc hm (Option.some.inj e)))).trans hc
  refine ⟨Nat.le_trans h.size hg.size, h.adr, fun k hk => key _ _ _ (h.adr k hk) (h.kind k hk), fun k hk => ?_⟩
  obtain ⟨a, c, h1, h2, h3, h4⟩ := h.fol k hk
  refine ⟨a, c, key _ _ _ (h.adr k hk) h1, h2, h3, h4.imp id ?_⟩
  rintro ⟨b, off, hl, rfl, hc⟩
  exact ⟨b, off, hl, rfl, fun i hi => ⟨key _ _ _ hl (hc i hi).1, key _ _ _ hl (hc i hi).2⟩⟩
/-- The datum tells the expected days of those kinds that are no longer to come. -/
structure DKL (D : DataW Unit) (t : List Tg) (left : Lit → Bool) : Prop where
  tidy : Tidy D
  has_ : ∀ s : Int, has D (.int .i64 s) = (decide ((0 ≤ s ∧ s < 10) ∧ 0 ≤ dayX t s) && !left (.int .i64 s))
  at_ : ∀ s : Int, has D (.int .i64 s) = true → D.atKey (.int .i64 s) (.lit (.int .i64 0)) = .lit (.int .i64 (dayX t s))
theorem DKL.start {t : List Tg} {left : Lit → Bool} (h : ∀ s : Int, left (.int .i64 s) = decide (0 ≤ s ∧ s < 10)) : DKL (.map []) t left := by
  refine ⟨tidy_empty, fun s => ?_, fun s hs => ?_⟩
  · rw [h s, has_eq]
    by_cases q : 0 ≤ s ∧ s < 10
    · rw [decide_eq_true q]; simp
    · rw [decide_eq_false (fun z => q z.1)]; simp
  · rw [has_eq] at hs; simp at hs
theorem sameKey_int (a b : Int) : (Lit.int .i64 a).sameKey (.int .i64 b) = decide (a = b) := by
  by_cases e : a = b
  · subst e; simp [Lit.sameKey]
  · simp [Lit.sameKey, e]
theorem DKL.put {D : DataW Unit} {t : List Tg} {left : Lit → Bool} (h : DKL D t left) {x : Int} (hx : 0 ≤ x ∧ x < 10) (hd : 0 ≤ dayX t x) : DKL (D.put (.int .i64 x) (.lit (.int .i64 (dayX t x)))) t (fun z => left z && !z.sameKey (.int .i64 x)) := by
  have hk : WideAt.IsKeyLit (.int .i64 x) := trivial
  refine ⟨h.tidy.put hk _, fun s => ?_, fun s hs => ?_⟩
  · rw [sameKey_int]
    by_cases e : s = x
    · subst e; rw [has_put_same h.tidy.isMap hk, decide_eq_true ⟨hx, hd⟩]; simp
    · rw [has_put_other (by simp; exact e), h.has_, decide_eq_false e]; simp
  · by_cases e : s = x
    · subst e; exact atKey_put_same h.tidy.isMap hk _ _
    · rw [has_put_other (by simp; exact e)] at hs
      rw [atKey_put_other (by simp; exact e)]
      exact h.at_ s hs
theorem DKL.skip {D : DataW Unit} {t : List Tg} {left : Lit → Bool} (h : DKL D t left) {x : Int} (hd : dayX t x < 0) : DKL D t (fun z => left z && !z.sameKey (.int .i64 x)) := by
  refine ⟨h.tidy, fun s => ?_, h.at_⟩
  rw [h.has_, sameKey_int]
  by_cases e : s = x
  · subst e; rw [decide_eq_false (fun z => by omega)]; simp
  · rw [decide_eq_false e]; simp
/-- What expectedDays leaves. -/
abbrev DayI (w : World) (b n : Nat) (D : DataW Unit) : Prop := w.ownsMap Try.prog 3 (plainElem Try.prog 3) b n D
def DaysD (t : List Tg) (w : World) (e : Ending) (w' : World) : Prop :=
  Below w.heap.size w w' ∧ ((freeB t = false ∧ e = .returned (.tuple #[.map none, .bool false])) ∨ (freeB t = true ∧ ∃ mb n D, e = .returned (.tuple #[.map (some mb), .bool true]) ∧ DayI w' mb n D ∧ DKL D t (fun _ => false)))
theorem wf_i64X {n : Int} (h : inI n) : (Lit.int .i64 n).wf = true := by unfold inI at h; simp [Lit.wf, IntKind.min, IntKind.max, IntKind.signed, IntKind.bits]; omega
theorem zero_intX (w : World) : (zeroValue 3).run Try.prog w = .ok (.int .i64 0) w := by kernel_rfl
theorem ptr_of_at {D : DataW Value} {A : List Nat} (hk : NK D A 10) {x : Int} {c : Value} (h : ∀ zd, D.atKey (.int .i64 x) zd = .held c) : ∃ k : Nat, k < 10 ∧ x = (k : Int) ∧ c = ptrA A k := by
  by_cases hx : 0 ≤ x ∧ x < (10 : Nat)
  · obtain ⟨k, rfl⟩ : ∃ k : Nat, x = (k : Int) := ⟨x.toNat, by omega⟩
    refine ⟨k, by omega, rfl, ?_⟩
    have h1 := hk.at_ k (.held (.bool true)) (by omega)
    rw [h] at h1
    cases h1
    rfl
  · have hn : has D (.int .i64 x) = false := by rw [hk.has_, decide_eq_false hx]
    have h1 := atKey_of_not_has hn (.held (.bool true))
    have h2 := atKey_of_not_has hn (.held (.bool false))
    rw [h] at h1 h2
    rw [h1] at h2
    cases h2
set_option maxRecDepth 20000 in
set_option maxHeartbeats 16000000 in
theorem expectedDays_any (v : Value) (t : List Tg) (w : World) (h : RowR 3 rTg w v t) : Calls Try.prog 75 #[v] w (DaysD t w) := by
  have H := Lib.hid h
  obtain ⟨f, b, hres⟩ : ∃ f b, hcRes t = (f, b) := ⟨_, _, rfl⟩
  have HRES := Lib.hid hres
  obtain ⟨bf, hbf⟩ : ∃ b, freeB t = b := ⟨_, rfl⟩
  have HBF := Lib.hid hbf
  have HFB : Hid ((bf = true ∧ f = false ∧ b = true) ∨ (bf = false ∧ (b = false ∨ (b = true ∧ f = true)))) := Lib.hid (by
    unfold freeB at hbf
    unfold hcRes at hres
    rcases ha : areTg t with _ | _
    · rw [ha, if_neg (by simp)] at hres
      rw [ha] at hbf
      obtain ⟨rfl, rfl⟩ := Prod.mk.inj hres
      exact .inr ⟨hbf.symm, .inl rfl⟩
    · rw [ha, if_pos rfl] at hres
      rw [ha] at hbf
      obtain ⟨rfl, rfl⟩ := Prod.mk.inj hres
      rcases hc : cycF t with _ | p
      · rw [hc] at hbf; exact .inl ⟨hbf.symm, rfl, rfl⟩
      · rw [hc] at hbf; exact .inr ⟨hbf.symm, .inr ⟨rfl, rfl⟩⟩)
  clear h hres hbf
  rcases HFB.out with ⟨rfl, rfl, rfl⟩ | ⟨rfl, hb2⟩
  · obtain ⟨ht, hc⟩ := freeB_iff.1 HBF.out
    have HT := Lib.hid ht
    have HC := Lib.hid hc
    have hmm := @run_makeMap Try.prog
    clear ht hc HFB
    go_enter Try.func75, Try.ntmps75
    go_wp2_with fail
    refine (implHasCycle_any _ t _ H.out false true HRES.out).mono ?_
    rintro e w1 ⟨rfl, b1⟩
    have MO : Hid (DayI (w1.alloc (.map #[] 0)) w1.heap.size 0 (.map [])) := Lib.hid (by simpa using World.ownsMap_made w1 Try.prog 3 (plainElem (H := Unit) Try.prog 3))
    have ba := below_al b1 (.map #[] 0)
    go_wp2_with fail
    refine (nodesOf_any _ t _ (H.out.below rTg_stable ba) HT.out).mono ?_
    rintro e w2 ⟨mb, Dn, A, rfl, hm2, hk2, hr2, hmb, b2⟩
    have HM2 := Lib.hid hm2
    have HK2 := Lib.hid hk2
    have HR2 := Lib.hid hr2
    have b2s := b2.size
    simp at b2s hmb
    have MO2 : Hid (DayI w2 w1.heap.size 0 (.map [])) := Lib.hid (MO.out.kept (grownBy_of_below b2 none) (by simp))
    replace b2 := ba.trans (b2.mono ba.size)
    have hml := hm2.lt
    have b1s := b1.size
    clear hm2 hk2 hr2 MO
    go_wp2_with (first | (at_range; refine wpList_range_own _ rfl _ 81 rfl 3 83 (int_keyed Try.underlying3) Try.underlying81 heldV mb 10 Dn rfl HM2.out ?_; intro w0 hrg0 hg0 hs0))
    go_frame
    have HRG0 := Lib.hid hrg0
    have hs0' : w2.heap.size < w0.heap.size := by omega
    have HR0 : Hid (NodR w2.heap.size w0 A t) := Lib.hid (HR2.out.below ⟨hg0.os, hg0.tape, hg0.output, hg0.size, fun k hk => hg0.block k hk (by simp)⟩)
    have HO0 : Hid (DayI w0 w1.heap.size 0 (.map [])) := Lib.hid (MO2.out.kept hg0 (by simp))
    have HB0 : Hid (Below w.heap.size w w0) := Lib.hid (b2.grown hg0 (by omega) (fun g e => by cases e))
    obtain ⟨r, hr⟩ : ∃ r, w2.heap.size = r := ⟨_, rfl⟩
    rw [hr] at HRG0 hs0' HR0
    rw [hr]
    obtain ⟨ob, hob⟩ : ∃ o, w1.heap.size = o := ⟨_, rfl⟩
    rw [hob] at HO0
    rw [hob]
    have hor : ob < r := by omega
    have hob1 : w.heap.size ≤ ob := by omega
    have hmr : mb ≠ ob := by omega
    have hmr2 : mb < r := by omega
    have hwr : w.heap.size ≤ r := by omega
    have HOB := Lib.hid hob
    have HRR := Lib.hid hr
    have HST : Hid (DKL (.map []) t (Maps.has Dn)) := Lib.hid (DKL.start (fun s => by rw [HK2.out.has_]; rfl))
    have HSZ : Hid (Maps.size Dn ≤ 10) := Lib.hid (map_sizeT HM2.out)
    clear hr hob hrg0 hg0 hs0 b2 b2s hmb hml ba b1 b1s MO2 HR2 HM2
    go_loopw [7] (fun _ wr => ∃ (left : Lit → Bool) (cnt nn : Nat) (D : DataW Unit), Hid (wr.ranges Try.prog 3 heldV mb r 10 Dn left cnt) ∧ nn + cnt ≤ 10 ∧ Hid (DayI wr ob nn D) ∧ Hid (DKL D t left) ∧ Hid (NodR r wr A t) ∧ Hid (Below w.heap.size w wr)) (fun _ wr => wr.rangeLeft mb r)
    case atStart => exact ⟨_, _, 0, .map [], HRG0, by have := HSZ.out; omega, HO0, HST, HR0, HB0⟩
    case round =>
      clear HRG0 HO0 HST HR0 HB0
      obtain ⟨left, cnt, nn, D, HRG, hcn, HO, HD, HR, HB⟩ := hrel
      go_wp2_with (first | (at_next; refine wpList_next_ranges _ rfl _ rfl 3 (int_keyed Try.underlying3) heldV (fun x : Int => Value.int .i64 x) (fun c : Value => c) (fun key kl hk => by obtain ⟨x, rfl, _⟩ := Maps.keyOf_int_inv Try.underlying3 hk; exact ⟨x, rfl⟩) (fun v y _ => ⟨v, rfl⟩) mb r 10 Dn left cnt rfl HRG.out ?_ ?_))
      · intro hc0 hl0
        have HFIN : Hid (DKL D t (fun _ => false)) := Lib.hid (by
          have : left = fun _ => false := funext hl0
          rw [← this]; exact HD.out)
        clear HD HR HRG
        go_wp2_with fail
        go_ret2
        exact ⟨HB.out, .inr ⟨HBF.out, ob, nn, D, rfl, HO.out, HFIN.out⟩⟩
      · intro x c kl y ys w1 cnt1 hkey hlk hv hat hrg1 hlt hg1 hs1 hen
        obtain ⟨x', ex, rfl, hwx⟩ := Maps.keyOf_int_inv Try.underlying3 hkey
        cases ex
        simp only [heldV, Option.some.injEq, Prod.mk.injEq] at hv
        obtain ⟨rfl, rfl⟩ := hv
        obtain ⟨k, hk, rfl, rfl⟩ := ptr_of_at HK2.out hat
        have HRG1 := Lib.hid hrg1
        have HR1 : Hid (NodR r w1 A t) := Lib.hid (HR.out.below ⟨hg1.os, hg1.tape, hg1.output, hg1.size, fun b hb => hg1.block b (Nat.lt_of_lt_of_le hb HR.out.size) (fun e => by cases e; omega)⟩)
        have HO1 : Hid (DayI w1 ob nn D) := Lib.hid (HO.out.kept hg1 (by simp; omega))
        have HB1 : Hid (Below w.heap.size w w1) := Lib.hid (HB.out.grown hg1 HB.out.size (fun g e => by cases e; omega))
        have HLT := Lib.hid hlt
        have HKEY := Lib.hid hkey
        obtain ⟨d, hd⟩ : ∃ d, dayX t (k : Int) = d := ⟨_, rfl⟩
        have HCALL : Hid (∀ W, NodR r W A t → Calls Try.prog 90 #[.pointer (some ⟨A.getD k 0, 0, none⟩)] W fun e w' => e = .returned (.tuple #[.int .i64 (expD d).1, .bool (expD d).2]) ∧ Below W.heap.size W w') := Lib.hid (fun W hW => by
          have := expectedDay_any t HT.out HC.out A r 10 k W hW hk (shortW_ten HT.out HC.out _)
          rw [hd] at this
          exact this)
        have hdin := dayX_in HT.out (k : Int)
        rw [hd] at hdin
        have HDD := Lib.hid hd
        unfold ptrA at hen
        obtain ⟨P, hP⟩ : ∃ p, A.getD k 0 = p := ⟨_, rfl⟩
        rw [hP] at hen HCALL
        unfold ptrA
        try rw [hP]
        clear hrg1 hlt hkey hlk hat hd hP HR HO HB
        by_cases hneg : d < 0
        · rw [expD_neg hneg] at HCALL
          have HD2 := Lib.hid (HD.out.skip (x := (k : Int)) (by rw [HDD.out]; exact hneg))
          clear hneg
          go_wp2_with fail
          refine (HCALL.out _ HR1.out).mono ?_
          rintro e w3 ⟨rfl, b3⟩
          have HRG3 := Lib.hid (HRG1.out.kept (grownBy_of_below b3 none) (by simp) (by simp))
          have HO3 : Hid (DayI w3 ob nn D) := Lib.hid (HO1.out.kept (grownBy_of_below b3 none) (by simp))
          have HR3 := Lib.hid (HR1.out.below (b3.mono HR1.out.size))
          have HB3 := Lib.hid (HB1.out.trans (b3.mono HB1.out.size))
          clear b3
          go_wp2_with fail
          go_roundw
          case rel => exact ⟨_, cnt1, nn, D, HRG3, by have := HLT.out; omega, HO3, HD2, HR3, HB3⟩
          case measure => rw [HRG3.out.left_eq]; rw [HRG.out.left_eq]; exact HLT.out
        · have hpos : 0 ≤ d := by omega
          rw [expD_pos hpos] at HCALL
          have HD2 := Lib.hid (HD.out.put (x := (k : Int)) ⟨by omega, by omega⟩ (by rw [HDD.out]; exact hpos))
          have HVD := Lib.hid (plainElem_int (H := Unit) Try.underlying3 (wf_i64X (n := d) (by simp [inI]; omega)))
          clear hneg
          go_wp2_with fail
          refine (HCALL.out _ HR1.out).mono ?_
          rintro e w3 ⟨rfl, b3⟩
          have HRG3 := Lib.hid (HRG1.out.kept (grownBy_of_below b3 none) (by simp) (by simp))
          have HO3 : Hid (DayI w3 ob nn D) := Lib.hid (HO1.out.kept (grownBy_of_below b3 none) (by simp))
          have HR3 := Lib.hid (HR1.out.below (b3.mono HR1.out.size))
          have HB3 := Lib.hid (HB1.out.trans (b3.mono HB1.out.size))
          clear b3
          have hnm : nn < maxLen := by unfold maxLen; omega
          go_wp2_with (first | (at_mapUpdate; refine wpList_mapUpdate_own _ rfl _ _ _ 85 rfl 3 3 (int_keyed Try.underlying3) Try.underlying85 (plainElem (H := Unit) Try.prog 3) ob nn D rfl HO3.out hnm (.int .i64 (k : Int)) (.int .i64 d) (.int .i64 (k : Int)) rfl rfl HKEY.out (.lit (.int .i64 d)) [] HVD.out ?_; intro w4 hown4 hg4; go_frame; have HO4 := Lib.hid hown4; have HG4 := Lib.hid hg4; clear hown4 hg4))
          have HRG4 := Lib.hid (HRG3.out.kept HG4.out (fun e => by have := Option.some.inj e; omega) (fun e => by have := Option.some.inj e; omega))
          have HR4 := Lib.hid (HR3.out.mapped HG4.out (map_objT HO3.out))
          have HB4 := Lib.hid (HB3.out.grown HG4.out HB3.out.size (fun g e => by cases e; omega))
          rw [HDD.out] at HD2
          go_roundw
          case rel => exact ⟨_, cnt1, nn + 1, _, HRG4, by have := HLT.out; omega, HO4, HD2, HR4, HB4⟩
          case measure => rw [HRG4.out.left_eq]; rw [HRG.out.left_eq]; exact HLT.out
  · have HNF : Hid (freeB t = false) := HBF
    rcases hb2 with rfl | ⟨rfl, rfl⟩
    · clear HFB
      go_enter Try.func75, Try.ntmps75
      go_wp2_with fail
      refine (implHasCycle_any _ t _ H.out f false HRES.out).mono ?_
      rintro e w1 ⟨rfl, b1⟩
      go_wp2_with fail
      go_ret2
      exact ⟨b1, .inl ⟨HNF.out, rfl⟩⟩
    · clear HFB
      go_enter Try.func75, Try.ntmps75
      go_wp2_with fail
      refine (implHasCycle_any _ t _ H.out true true HRES.out).mono ?_
      rintro e w1 ⟨rfl, b1⟩
      go_wp2_with fail
      go_ret2
      exact ⟨b1, .inl ⟨HNF.out, rfl⟩⟩
end Go.Proofs.Ytedckfbjhhabgaa
