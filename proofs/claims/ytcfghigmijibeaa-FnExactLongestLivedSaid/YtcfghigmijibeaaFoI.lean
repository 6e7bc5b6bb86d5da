/- Formats, the program's: placeOfFormat, hasFormatName, readsOthers, AreFormats. -/
import Derived.Test.YtcfghigmijibeaaTyFo
import Derived.Test.YtcfghigmijibeaaCells
import Derived.Test.YtcfghigmijibeaaDayI
import Derived.Test.YtcfghigmijibeaaWord
import Derived.Test.YtcfghigmijibeaaBytesNe
import Derived.Lib.QuietBelow
import Derived.BigQuiet
import Derived.WalkSmall
namespace Go.Proofs.Ytcfghigmijibeaa
set_option linter.unusedVariables false
open Go.RowKit Go.Sort

theorem RowR.fo_take {w : World} {a : Option Addr} {n c : Nat} {t : List Fo} (h : RowR 4 rFo w (.slice a n c) t) {k : Nat} (hk : k ≤ t.length) : RowR 4 rFo w (.slice a k c) (t.take k) := by
  obtain ⟨a', cap, e, h1, h2, h3⟩ := h
  cases e
  have hl : (t.take k).length = k := by rw [List.length_take]; omega
  refine ⟨a, c, by rw [hl], by omega, h2, ?_⟩
  rcases h3 with rfl | ⟨b, off, hb, rfl, hc⟩
  · exact .inl (by simp)
  · refine .inr ⟨b, off, hb, rfl, fun i hi => ?_⟩
    obtain ⟨cs, q1, q2, q3⟩ := hc i (by omega)
    exact ⟨cs, q1, q2, by rw [List.getElem_take]; exact q3⟩


theorem place1_any (x0 : Int) (x1 : ByteArray) (x2 : Int) (s : Value) (y : Int) (B : Nat) (w : World) (hB : w.cell? ⟨B, 0, none⟩ = some (.int .i64 y)) :
    Calls Try.prog 87 #[.agg #[.int .i64 x0, .string x1, .int .i64 x2, s], .pointer (some ⟨B, 0, none⟩)] w fun e w' => e = .returned (.bool (decide (x0 = y))) ∧ Below w.heap.size w w' := by
  have hBa := fun o : Obj => below_al_cell hB o
  by_cases h : x0 = y
  · have hq : (x0 == y) = true := by simp [h]
    simp only [decide_eq_true h]
    clear h
    go_enter Try.func87, Try.ntmps87
    go_wp2
    go_ret
    exact ⟨rfl, below_al (Below.refl _ _) _⟩
  · have hq : (x0 == y) = false := by simp [h]
    simp only [decide_eq_false h]
    clear h
    go_enter Try.func87, Try.ntmps87
    go_wp2
    go_ret
    exact ⟨rfl, below_al (Below.refl _ _) _⟩

set_option maxHeartbeats 1000000 in
theorem placeIdx_any (v : Value) (t : List Fo) (y : Int) (B : Nat) (w : World) (h : RowR 4 rFo w v t) (hB : w.cell? ⟨B, 0, none⟩ = some (.int .i64 y)) :
    Calls Try.prog 86 #[v, .func (.func 87) #[] #[.pointer (some ⟨B, 0, none⟩)]] w fun e w' => e = .returned (.int .i64 (gIdx (fun g : Fo => decide (g.id = y)) t)) ∧ Below w.heap.size w w' := by
  have hcap := h.cap
  obtain ⟨a1, c1, rfl, hl1, hm1, r1⟩ := h.fos
  have R1 := Lib.hid r1
  clear h r1
  unfold maxLen at hm1
  obtain ⟨p, hp⟩ : ∃ p : Fo → Bool, (fun g : Fo => decide (g.id = y)) = p := ⟨_, rfl⟩
  rw [hp]
  have HP := Lib.hid hp
  clear hp
  go_enter Try.func86, Try.ntmps86
  go_wp2
  go_loopw [8] (fun i wr => ∃ k : Nat, k ≤ t.length ∧ i = .int .i64 k ∧ Hid (∀ j, j < k → p (t.getD j foD) = false) ∧ Below w.heap.size w wr) (fun i _ => t.length - (intOf i).toNat)
  case atStart => exact ⟨0, Nat.zero_le _, rfl, Lib.hid (fun j h => absurd h (Nat.not_lt_zero _)), Below.refl _ _⟩
  case round =>
    obtain ⟨k, hk, rfl, HN, hb⟩ := hrel
    by_cases hlt : k < t.length
    · obtain ⟨b1, o1, hb1, rfl, e1⟩ := R1.out.resolve_left (fun e => by rw [e] at hlt; simp at hlt)
      obtain ⟨⟨x0, x1, x2, x3⟩, hx⟩ : ∃ s, t.getD k foD = s := ⟨_, rfl⟩
      obtain ⟨s, q0, q1, q2, q3, _, _⟩ := e1 k hlt
      rw [hx] at q0 q1 q2
      simp only at q0 q1 q2
      have f0 := cell_kept q0 hb
      have f1 := cell_kept q1 hb
      have f2 := cell_kept q2 hb
      have f3 := cell_kept q3 hb
      have HX := Lib.hid hx
      have g0 : (0 : Int) ≤ (k : Int) := by omega
      have g1 : (k : Int) < (t.length : Int) := by omega
      have hBr := cell_kept hB hb
      have hsz := hb.size
      clear q0 q1 q2 q3 e1 hx
      have hcall := place1_any x0 x1 x2 s y B wr hBr
      obtain ⟨bq, hbq⟩ : ∃ b, p ⟨x0, x1, x2, x3⟩ = b := ⟨_, rfl⟩
      have hbq2 : decide (x0 = y) = bq := by rw [← hbq, ← HP.out]
      simp only [hbq2] at hcall
      have HBQ := Lib.hid hbq
      have HCALL := Lib.hid hcall
      clear hbq hbq2 hcall hBr
      cases bq
      · go_wp2_with (first | (go_at_call 87; refine HCALL.out.mono ?_; rintro e w2 ⟨rfl, b2⟩))
        go_roundw
        case rel =>
          refine ⟨k + 1, by omega, by go_num, Lib.hid (fun j hj => ?_), hb.trans (b2.mono hsz)⟩
          rcases Nat.lt_or_ge j k with h' | h'
          · exact HN.out j h'
          · obtain rfl : j = k := by omega
            rw [HX.out]
            exact HBQ.out
        case measure => simp [intOf]; omega
      · go_wp2_with (first | (go_at_call 87; refine HCALL.out.mono ?_; rintro e w2 ⟨rfl, b2⟩))
        go_ret
        exact ⟨ret_int (gIdx_is (d := foD) hlt HN.out (by rw [HX.out]; exact HBQ.out)).symm, hb.trans (b2.mono hsz)⟩
    · have hkt : k = t.length := by omega
      have HF : Hid (gIdx p t = -1) := Lib.hid (gIdx_none (d := foD) (fun j hj => HN.out j (by omega)))
      clear hkt
      go_wp2
      go_ret
      exact ⟨ret_int HF.out.symm, hb⟩


theorem named1_any (x0 : Int) (x1 : ByteArray) (x2 : Int) (s : Value) (nm : ByteArray) (B : Nat) (w : World) (hB : w.cell? ⟨B, 0, none⟩ = some (.string nm)) :
    Calls Try.prog 76 #[.agg #[.int .i64 x0, .string x1, .int .i64 x2, s], .pointer (some ⟨B, 0, none⟩)] w fun e w' => e = .returned (.bool (decide (x1 = nm))) ∧ Below w.heap.size w w' := by
  have hBa := fun o : Obj => below_al_cell hB o
  by_cases h : x1 = nm
  · have hq : (x1.toList == nm.toList) = true := by simp [h]
    simp only [decide_eq_true h]
    clear h
    go_enter Try.func76, Try.ntmps76
    go_wp2
    go_ret
    exact ⟨rfl, below_al (Below.refl _ _) _⟩
  · have hq := beq_bytes_ne h
    simp only [decide_eq_false h]
    clear h
    go_enter Try.func76, Try.ntmps76
    go_wp2
    go_ret
    exact ⟨rfl, below_al (Below.refl _ _) _⟩

set_option maxHeartbeats 1000000 in
theorem namedIdx_any (v : Value) (t : List Fo) (nm : ByteArray) (B : Nat) (w : World) (h : RowR 4 rFo w v t) (hB : w.cell? ⟨B, 0, none⟩ = some (.string nm)) :
    Calls Try.prog 86 #[v, .func (.func 76) #[] #[.pointer (some ⟨B, 0, none⟩)]] w fun e w' => e = .returned (.int .i64 (gIdx (fun g : Fo => decide (g.name = nm)) t)) ∧ Below w.heap.size w w' := by
  have hcap := h.cap
  obtain ⟨a1, c1, rfl, hl1, hm1, r1⟩ := h.fos
  have R1 := Lib.hid r1
  clear h r1
  unfold maxLen at hm1
  obtain ⟨p, hp⟩ : ∃ p : Fo → Bool, (fun g : Fo => decide (g.name = nm)) = p := ⟨_, rfl⟩
  rw [hp]
  have HP := Lib.hid hp
  clear hp
  go_enter Try.func86, Try.ntmps86
  go_wp2
  go_loopw [8] (fun i wr => ∃ k : Nat, k ≤ t.length ∧ i = .int .i64 k ∧ Hid (∀ j, j < k → p (t.getD j foD) = false) ∧ Below w.heap.size w wr) (fun i _ => t.length - (intOf i).toNat)
  case atStart => exact ⟨0, Nat.zero_le _, rfl, Lib.hid (fun j h => absurd h (Nat.not_lt_zero _)), Below.refl _ _⟩
  case round =>
    obtain ⟨k, hk, rfl, HN, hb⟩ := hrel
    by_cases hlt : k < t.length
    · obtain ⟨b1, o1, hb1, rfl, e1⟩ := R1.out.resolve_left (fun e => by rw [e] at hlt; simp at hlt)
      obtain ⟨⟨x0, x1, x2, x3⟩, hx⟩ : ∃ s, t.getD k foD = s := ⟨_, rfl⟩
      obtain ⟨s, q0, q1, q2, q3, _, _⟩ := e1 k hlt
      rw [hx] at q0 q1 q2
      simp only at q0 q1 q2
      have f0 := cell_kept q0 hb
      have f1 := cell_kept q1 hb
      have f2 := cell_kept q2 hb
      have f3 := cell_kept q3 hb
      have HX := Lib.hid hx
      have g0 : (0 : Int) ≤ (k : Int) := by omega
      have g1 : (k : Int) < (t.length : Int) := by omega
      have hBr := cell_kept hB hb
      have hsz := hb.size
      clear q0 q1 q2 q3 e1 hx
      have hcall := named1_any x0 x1 x2 s nm B wr hBr
      obtain ⟨bq, hbq⟩ : ∃ b, p ⟨x0, x1, x2, x3⟩ = b := ⟨_, rfl⟩
      have hbq2 : decide (x1 = nm) = bq := by rw [← hbq, ← HP.out]
      simp only [hbq2] at hcall
      have HBQ := Lib.hid hbq
      have HCALL := Lib.hid hcall
      clear hbq hbq2 hcall hBr
      cases bq
      · go_wp2_with (first | (go_at_call 76; refine HCALL.out.mono ?_; rintro e w2 ⟨rfl, b2⟩))
        go_roundw
        case rel =>
          refine ⟨k + 1, by omega, by go_num, Lib.hid (fun j hj => ?_), hb.trans (b2.mono hsz)⟩
          rcases Nat.lt_or_ge j k with h' | h'
          · exact HN.out j h'
          · obtain rfl : j = k := by omega
            rw [HX.out]
            exact HBQ.out
        case measure => simp [intOf]; omega
      · go_wp2_with (first | (go_at_call 76; refine HCALL.out.mono ?_; rintro e w2 ⟨rfl, b2⟩))
        go_ret
        exact ⟨ret_int (gIdx_is (d := foD) hlt HN.out (by rw [HX.out]; exact HBQ.out)).symm, hb.trans (b2.mono hsz)⟩
    · have hkt : k = t.length := by omega
      have HF : Hid (gIdx p t = -1) := Lib.hid (gIdx_none (d := foD) (fun j hj => HN.out j (by omega)))
      clear hkt
      go_wp2
      go_ret
      exact ⟨ret_int HF.out.symm, hb⟩


theorem placeOfFormat_any (v : Value) (t : List Fo) (y : Int) (w : World) (h : RowR 4 rFo w v t) :
    Calls Try.prog 68 #[v, .int .i64 y] w fun e w' => e = .returned (.int .i64 (foI t y)) ∧ Below w.heap.size w w' := by
  have H := Lib.hid h
  clear h
  obtain ⟨c, hc⟩ : ∃ c, foI t y = c := ⟨_, rfl⟩
  rw [hc]
  have HC := Lib.hid hc
  clear hc
  go_enter Try.func68, Try.ntmps68
  go_wp2_with fail
  have k1 := cell_new w #[.int .i64 y] 3 0 rfl
  have HB := Lib.hid (below_al (Below.refl w.heap.size w) (.cells #[.int .i64 y] 3 (0, 0)))
  refine (placeIdx_any _ t y _ _ (H.out.below rFo_stable HB.out) k1).mono ?_
  rw [show gIdx (fun g : Fo => decide (g.id = y)) t = c from HC.out]
  rintro e w2 ⟨rfl, b2⟩
  go_wp2_with fail
  go_ret
  exact ⟨rfl, below_chain HB.out b2⟩

theorem hasFormatName_any (v : Value) (t : List Fo) (nm : ByteArray) (w : World) (h : RowR 4 rFo w v t) :
    Calls Try.prog 49 #[v, .string nm] w fun e w' => e = .returned (.bool (twinN t nm)) ∧ Below w.heap.size w w' := by
  have H := Lib.hid h
  clear h
  obtain ⟨c, hc⟩ : ∃ c, gIdx (fun g : Fo => decide (g.name = nm)) t = c := ⟨_, rfl⟩
  have ht : twinN t nm = decide (0 ≤ c) := by rw [← hc, gIdx_any]; rfl
  have HC := Lib.hid hc
  have HT := Lib.hid ht
  clear hc ht
  go_enter Try.func49, Try.ntmps49
  go_wp2_with fail
  have k1 := cell_new w #[.string nm] 9 0 rfl
  have HB := Lib.hid (below_al (Below.refl w.heap.size w) (.cells #[.string nm] 9 (0, 0)))
  have HK1 := Lib.hid k1
  clear k1
  have hcon : ∀ W, Below w.heap.size w W → W.cell? ⟨w.heap.size, 0, none⟩ = some (.string nm) → Calls Try.prog 75 #[v, .func (.func 76) #[] #[.pointer (some ⟨w.heap.size, 0, none⟩)]] W fun e w' => e = .returned (.bool (decide (0 ≤ c))) ∧ Below W.heap.size W w' := fun W hb h1 => by
    have HB' := Lib.hid hb
    clear hb
    go_enter Try.func75, Try.ntmps75
    go_wp2_with fail
    refine (namedIdx_any _ t nm _ _ (H.out.below rFo_stable HB'.out) h1).mono ?_
    rw [HC.out]
    rintro e w2 ⟨rfl, b2⟩
    go_wp2_with fail
    go_ret
    exact ⟨rfl, b2⟩
  refine (hcon _ HB.out HK1.out).mono ?_
  rintro e w3 ⟨rfl, b3⟩
  go_wp2_with fail
  go_ret
  exact ⟨ret_bool HT.out.symm, below_chain HB.out b3⟩

theorem notRd {t : List Fo} {f : Fo} {k : Nat} (hk : k < f.reads.length) (h : rdAt t f k = false) : rdsB t f = false := by unfold rdsB; exact upto_false hk h
theorem rdAt_iff {t : List Fo} {f : Fo} {k : Nat} {y p : Int} (hy : f.reads.getD k 0 = y) (hp : (if k = 0 then 0 else f.reads.getD (k - 1) 0) = p) : rdAt t f k = true ↔ p < y ∧ ¬ y = f.id ∧ hasId t y = true := by
  unfold rdAt
  rw [hy, hp]
  simp

set_option maxHeartbeats 2000000 in
theorem readsOthers_any (v vf : Value) (t : List Fo) (f : Fo) (w : World) (h : RowR 4 rFo w v t) (hf : FoV w vf f) :
    Calls Try.prog 50 #[v, vf] w fun e w' => e = .returned (.bool (rdsB t f)) ∧ Below w.heap.size w w' := by
  have H := Lib.hid h
  clear h
  obtain ⟨s, rfl, hr, hok⟩ := hf
  obtain ⟨F, hF⟩ : ∃ F, f = F := ⟨_, rfl⟩
  obtain ⟨x0, x1, x2, x3⟩ := f
  have HF := Lib.hid hF
  have hcap := hr.cap
  simp only at hr hcap ⊢
  have HS := Lib.hid hr
  obtain ⟨sa, sc, rfl, hsl, hsm, _⟩ := hr
  unfold maxLen at hsm
  have H4 : Hid (∀ k y p, x3.getD k 0 = y → (if k = 0 then 0 else x3.getD (k - 1) 0) = p → (rdAt t F k = true ↔ p < y ∧ ¬ y = x0 ∧ hasId t y = true)) := Lib.hid (fun k y p h1 h2 => by subst hF; exact rdAt_iff h1 h2)
  have HL : Hid (F.reads = x3) := Lib.hid (by rw [← hF])
  rw [hF]
  clear hF hok HF
  go_enter Try.func50, Try.ntmps50
  go_wp2_with fail
  generalize hWE : w.alloc (.cells #[.int .i64 x0, .string x1, .int .i64 x2, .slice sa x3.length sc] 60 (0, 0)) = wE
  have bE : Below w.heap.size w wE := by rw [← hWE]; exact below_al (Below.refl _ _) _
  have z0 : wE.cell? ⟨w.heap.size, 0, none⟩ = some (.int .i64 x0) := by rw [← hWE]; exact cell_new w _ _ 0 rfl
  have hwE := bE.size
  clear hWE
  go_loopw [5, 11] (fun b i wr => ∃ (k : Nat) (pk : Int), k ≤ x3.length ∧ i = .int .i64 k ∧ b = .int .i64 pk ∧ Hid ((if k = 0 then 0 else x3.getD (k - 1) 0) = pk) ∧ Hid (upto (rdAt t F) k = true) ∧ Below wE.heap.size wE wr) (fun _ i _ => x3.length - (intOf i).toNat)
  case atStart => exact ⟨0, 0, Nat.zero_le _, rfl, rfl, Lib.hid rfl, Lib.hid (by simp [upto]), Below.refl _ _⟩
  case round =>
    obtain ⟨k, pk, hk, rfl, rfl, HP, HU, hb⟩ := hrel
    have bw := bE.trans (hb.mono hwE)
    have hbw := bw.size
    by_cases hlt : k < x3.length
    · obtain ⟨y, hy⟩ : ∃ y, x3.getD k 0 = y := ⟨_, rfl⟩
      obtain ⟨sa', sc', hsl', hS1, hS2, hS3⟩ := HS.out.below bw
      obtain ⟨b5, o5, hb5, hsa, e5⟩ := hS3.resolve_left (fun e => by rw [e] at hlt; simp at hlt)
      cases hsl'
      subst hsa
      have fy := e5 k hlt
      rw [← getI_lt hlt, hy] at fy
      simp only [vI] at fy
      have HY := Lib.hid hy
      have c0 := cell_kept z0 hb
      have g0 : (0 : Int) ≤ (k : Int) := by omega
      have g1 : (k : Int) < (x3.length : Int) := by omega
      have HAT := Lib.hid (H4.out k y pk hy HP.out)
      clear e5 hy hS1 hS2 hS3
      by_cases hP : y ≤ pk
      · have HNT : Hid (rdsB t F = false) := Lib.hid (notRd (by rw [HL.out]; exact hlt) (by rw [Bool.eq_false_iff]; intro hc; have := (HAT.out.1 hc).1; omega))
        go_wp2_with fail
        go_ret
        exact ⟨ret_bool HNT.out.symm, bw⟩
      · have dP : decide (y ≤ pk) = false := decide_eq_false hP
        by_cases hE : y = x0
        · have HNT : Hid (rdsB t F = false) := Lib.hid (notRd (by rw [HL.out]; exact hlt) (by rw [Bool.eq_false_iff]; intro hc; exact (HAT.out.1 hc).2.1 hE))
          have hq : (y == x0) = true := by simp [hE]
          clear hE
          go_wp2_with fail
          go_ret
          exact ⟨ret_bool HNT.out.symm, bw⟩
        · have hq : (y == x0) = false := by simp [hE]
          have HE := Lib.hid hE
          clear hE
          obtain ⟨bh, hbh⟩ : ∃ b, hasId t y = b := ⟨_, rfl⟩
          have HB := Lib.hid hbh
          obtain ⟨c, hc⟩ : ∃ c, foI t y = c := ⟨_, rfl⟩
          have hcn : decide (c < 0) = !bh := by rw [← hc, foI_neg, hbh]
          have HC := Lib.hid hc
          clear hbh hc
          cases bh
          · have hcn' : c < 0 := by simpa using hcn
            have HNT : Hid (rdsB t F = false) := Lib.hid (notRd (by rw [HL.out]; exact hlt) (by rw [Bool.eq_false_iff]; intro hc; have := (HAT.out.1 hc).2.2; rw [HB.out] at this; cases this))
            clear hcn
            go_wp2_with fail
            refine (placeOfFormat_any _ t _ _ (H.out.below rFo_stable bw)).mono ?_
            rw [HC.out]
            rintro e w5 ⟨rfl, b5'⟩
            go_wp2_with fail
            go_ret
            exact ⟨ret_bool HNT.out.symm, bw.trans (b5'.mono hbw)⟩
          · have hcn' : 0 ≤ c := by simpa using hcn
            have HAL : Hid (rdAt t F k = true) := Lib.hid (HAT.out.2 ⟨by omega, HE.out, HB.out⟩)
            clear hcn
            go_wp2_with fail
            refine (placeOfFormat_any _ t _ _ (H.out.below rFo_stable bw)).mono ?_
            rw [HC.out]
            rintro e w5 ⟨rfl, b5'⟩
            have hbs := hb.size
            go_wp2_with fail
            go_roundw
            case rel => exact ⟨k + 1, y, by omega, by go_num, rfl, Lib.hid (by rw [if_neg (by omega)]; exact HY.out), Lib.hid (upto_succ HU.out HAL.out), hb.trans (b5'.mono hbs)⟩
            case measure => simp [intOf]; omega
    · have hkt : k = x3.length := by omega
      have HE : Hid (rdsB t F = true) := Lib.hid (by have := HU.out; rw [hkt, ← HL.out] at this; exact this)
      clear hkt
      go_wp2_with fail
      go_ret
      exact ⟨ret_bool HE.out.symm, bw⟩


set_option maxRecDepth 20000 in
set_option maxHeartbeats 8000000 in
theorem implAreFo_any (v : Value) (t : List Fo) (w : World) (h : RowR 4 rFo w v t) :
    Calls Try.prog 16 #[v] w fun e w' => e = .returned (.bool (areFo t)) ∧ Below w.heap.size w w' := by
  have hcap := h.cap
  obtain ⟨a1, c1, hv, hl1, hm1, r1⟩ := h.fos
  subst hv
  have H := Lib.hid h
  have R1 := Lib.hid r1
  clear h r1
  unfold maxLen at hm1
  by_cases hL : 10 < t.length
  · have gL : (10 : Int) < t.length := by omega
    go_enter Try.func16, Try.ntmps16
    go_wp2_with fail
    go_ret
    exact ⟨ret_bool (Eq.symm (fo_long (by omega))), Below.refl _ _⟩
  · have gL : (t.length : Int) ≤ 10 := by omega
    have HL := Lib.hid hL
    clear hL
    go_enter Try.func16, Try.ntmps16
    go_wp2_with fail
    go_loopw [3, 11] (fun b i wr => ∃ (k : Nat) (pk : Int), k ≤ t.length ∧ i = .int .i64 k ∧ b = .int .i64 pk ∧ Hid (prevFo t k = pk) ∧ Hid (upto (pAt t) k = true) ∧ Below w.heap.size w wr) (fun _ i _ => t.length - (intOf i).toNat)
    case atStart => exact ⟨0, 0, Nat.zero_le _, rfl, rfl, Lib.hid rfl, Lib.hid (by simp [upto]), Below.refl _ _⟩
    case round =>
      obtain ⟨k, pk, hk, rfl, rfl, HP, HU, hb⟩ := hrel
      by_cases hlt : k < t.length
      · obtain ⟨b1, o1, hb1, rfl, e1⟩ := R1.out.resolve_left (fun e => by rw [e] at hlt; simp at hlt)
        obtain ⟨⟨x0, x1, x2, x3⟩, hx⟩ : ∃ s, t.getD k foD = s := ⟨_, rfl⟩
        obtain ⟨s, q0, q1, q2, q3, hr, hok⟩ := e1 k hlt
        rw [hx] at q0 q1 q2 hr hok
        simp only at q0 q1 q2 hr
        have f0 := cell_kept q0 hb
        have f1 := cell_kept q1 hb
        have f2 := cell_kept q2 hb
        have f3 := cell_kept q3 hb
        have HV : Hid (∀ W, Below wr.heap.size wr W → FoV W (.agg #[.int .i64 x0, .string x1, .int .i64 x2, s]) ⟨x0, x1, x2, x3⟩) := Lib.hid (fun W hW => ⟨s, rfl, (hr.below hb).below hW, hok⟩)
        obtain ⟨sa, sc, rfl, hsl, hsm, _⟩ := hr
        have hts : x1.size ≤ maxLen := hok.2.1
        have HX := Lib.hid hx
        have HAT := Lib.hid (pAt_iff hx)
        have g0 : (0 : Int) ≤ (k : Int) := by omega
        have g1 : (k : Int) < (t.length : Int) := by omega
        have hw := hb.size
        obtain ⟨bW, hbW⟩ : ∃ b, isWord x1 = b := ⟨_, rfl⟩
        obtain ⟨bD, hbD⟩ : ∃ b, decide ((0 : Int) ≤ x2 ∧ x2 ≤ 20000) = b := ⟨_, rfl⟩
        obtain ⟨bT, hbT⟩ : ∃ b, twinN (t.take k) x1 = b := ⟨_, rfl⟩
        obtain ⟨bR, hbR⟩ : ∃ b, rdsB t ⟨x0, x1, x2, x3⟩ = b := ⟨_, rfl⟩
        have HW := Lib.hid hbW
        have HD := Lib.hid hbD
        have HT := Lib.hid hbT
        have HRR := Lib.hid hbR
        clear q0 q1 q2 q3 hok e1 hx hbW hbD hbT hbR
        have HTK : Hid (∀ W, Below wr.heap.size wr W → RowR 4 rFo W (.slice (some ⟨b1, o1, none⟩) k c1) (t.take k)) := Lib.hid (fun W hW => ((H.out.below rFo_stable hb).below rFo_stable hW).fo_take hk)
        by_cases hP : x0 ≤ pk
        · have HNT : Hid (areFo t = false) := Lib.hid (areFo_no hlt (by rw [Bool.eq_false_iff]; intro hc; have hh := HAT.out.1 hc; have := hh.1; rw [HP.out] at this; first | omega | (simp only at this; omega)))
          go_wp2_with fail
          generalize hWE : wr.alloc (.cells #[.int .i64 x0, .string x1, .int .i64 x2, .slice sa x3.length sc] 60 (0, 0)) = wE
          have bE : Below wr.heap.size wr wE := by rw [← hWE]; exact below_al (Below.refl _ _) _
          have z0 : wE.cell? ⟨wr.heap.size, 0, none⟩ = some (.int .i64 x0) := by rw [← hWE]; exact cell_new wr _ _ 0 rfl
          have z1 : wE.cell? ⟨wr.heap.size, 1, none⟩ = some (.string x1) := by rw [← hWE]; exact cell_new wr _ _ 1 rfl
          have z2 : wE.cell? ⟨wr.heap.size, 2, none⟩ = some (.int .i64 x2) := by rw [← hWE]; exact cell_new wr _ _ 2 rfl
          have z3 : wE.cell? ⟨wr.heap.size, 3, none⟩ = some (.slice sa x3.length sc) := by rw [← hWE]; exact cell_new wr _ _ 3 rfl
          have m0 := cell_regrown z0
          have m1 := cell_regrown z1
          have m2 := cell_regrown z2
          have m3 := cell_regrown z3
          clear hWE
          refine wp_region_quiet_below (by kernel_rfl) (by kernel_rfl) ?_
          repeat (go_big_quiet_step (fail))
          refine wpQuiet_nil ?_
          intro _ hw'
          obtain ⟨⟨dq, osq⟩, hw''⟩ := hw'
          subst hw''
          have bq := below_regrown wE dq osq
          have y0 := cell_kept z0 bq
          generalize grow (redrawn wE dq) osq = w2 at bq y0 ⊢
          go_wp2
          go_ret
          exact ⟨ret_bool HNT.out.symm, (hb.trans (bE.mono hw)).trans (bq.mono (Nat.le_trans hw bE.size))⟩
        · have dP : decide (x0 ≤ pk) = false := decide_eq_false hP
          by_cases h5 : 50 < x0
          · have HNT : Hid (areFo t = false) := Lib.hid (areFo_no hlt (by rw [Bool.eq_false_iff]; intro hc; have hh := HAT.out.1 hc; have := hh.2.1; first | omega | (simp only at this; omega)))
            go_wp2_with fail
            generalize hWE : wr.alloc (.cells #[.int .i64 x0, .string x1, .int .i64 x2, .slice sa x3.length sc] 60 (0, 0)) = wE
            have bE : Below wr.heap.size wr wE := by rw [← hWE]; exact below_al (Below.refl _ _) _
            have z0 : wE.cell? ⟨wr.heap.size, 0, none⟩ = some (.int .i64 x0) := by rw [← hWE]; exact cell_new wr _ _ 0 rfl
            have z1 : wE.cell? ⟨wr.heap.size, 1, none⟩ = some (.string x1) := by rw [← hWE]; exact cell_new wr _ _ 1 rfl
            have z2 : wE.cell? ⟨wr.heap.size, 2, none⟩ = some (.int .i64 x2) := by rw [← hWE]; exact cell_new wr _ _ 2 rfl
            have z3 : wE.cell? ⟨wr.heap.size, 3, none⟩ = some (.slice sa x3.length sc) := by rw [← hWE]; exact cell_new wr _ _ 3 rfl
            have m0 := cell_regrown z0
            have m1 := cell_regrown z1
            have m2 := cell_regrown z2
            have m3 := cell_regrown z3
            clear hWE
            refine wp_region_quiet_below (by kernel_rfl) (by kernel_rfl) ?_
            repeat (go_big_quiet_step (fail))
            refine wpQuiet_nil ?_
            intro _ hw'
            obtain ⟨⟨dq, osq⟩, hw''⟩ := hw'
            subst hw''
            have bq := below_regrown wE dq osq
            have y0 := cell_kept z0 bq
            generalize grow (redrawn wE dq) osq = w2 at bq y0 ⊢
            go_wp2
            go_ret
            exact ⟨ret_bool HNT.out.symm, (hb.trans (bE.mono hw)).trans (bq.mono (Nat.le_trans hw bE.size))⟩
          · have d50 : decide ((50 : Int) < x0) = false := decide_eq_false h5
            cases bW
            · have HNT : Hid (areFo t = false) := Lib.hid (areFo_no hlt (by rw [Bool.eq_false_iff]; intro hc; have hh := HAT.out.1 hc; have := hh.2.2.1; rw [HW.out] at this; cases this))
              go_wp2_with fail
              generalize hWE : wr.alloc (.cells #[.int .i64 x0, .string x1, .int .i64 x2, .slice sa x3.length sc] 60 (0, 0)) = wE
              have bE : Below wr.heap.size wr wE := by rw [← hWE]; exact below_al (Below.refl _ _) _
              have z0 : wE.cell? ⟨wr.heap.size, 0, none⟩ = some (.int .i64 x0) := by rw [← hWE]; exact cell_new wr _ _ 0 rfl
              have z1 : wE.cell? ⟨wr.heap.size, 1, none⟩ = some (.string x1) := by rw [← hWE]; exact cell_new wr _ _ 1 rfl
              have z2 : wE.cell? ⟨wr.heap.size, 2, none⟩ = some (.int .i64 x2) := by rw [← hWE]; exact cell_new wr _ _ 2 rfl
              have z3 : wE.cell? ⟨wr.heap.size, 3, none⟩ = some (.slice sa x3.length sc) := by rw [← hWE]; exact cell_new wr _ _ 3 rfl
              have m0 := cell_regrown z0
              have m1 := cell_regrown z1
              have m2 := cell_regrown z2
              have m3 := cell_regrown z3
              clear hWE
              have hcW : ∀ d os, Calls Try.prog 47 #[.string x1] (grow (redrawn wE d) os) fun e w'' => e = .returned (.bool false) ∧ ∃ p : Regrown, w'' = grow (redrawn wE p.d) p.os := fun d os => Calls.regrown_of ((implIsWord_any x1 _ hts).mono (by rw [HW.out]; rintro e w' ⟨rfl, rfl⟩; exact ⟨rfl, Below.refl _ _⟩))
              refine wp_region_quiet_below (by kernel_rfl) (by kernel_rfl) ?_
              repeat (go_big_quiet_step (first | exact hcW _ _))
              refine wpQuiet_nil ?_
              intro _ hw'
              obtain ⟨⟨dq, osq⟩, hw''⟩ := hw'
              subst hw''
              have bq := below_regrown wE dq osq
              have y0 := cell_kept z0 bq
              generalize grow (redrawn wE dq) osq = w2 at bq y0 ⊢
              go_wp2
              go_ret
              exact ⟨ret_bool HNT.out.symm, (hb.trans (bE.mono hw)).trans (bq.mono (Nat.le_trans hw bE.size))⟩
            · cases bD
              · have HNT : Hid (areFo t = false) := Lib.hid (areFo_no hlt (by rw [Bool.eq_false_iff]; intro hc; have hh := HAT.out.1 hc; exact of_decide_eq_false HD.out hh.2.2.2.1))
                go_wp2_with fail
                generalize hWE : wr.alloc (.cells #[.int .i64 x0, .string x1, .int .i64 x2, .slice sa x3.length sc] 60 (0, 0)) = wE
                have bE : Below wr.heap.size wr wE := by rw [← hWE]; exact below_al (Below.refl _ _) _
                have z0 : wE.cell? ⟨wr.heap.size, 0, none⟩ = some (.int .i64 x0) := by rw [← hWE]; exact cell_new wr _ _ 0 rfl
                have z1 : wE.cell? ⟨wr.heap.size, 1, none⟩ = some (.string x1) := by rw [← hWE]; exact cell_new wr _ _ 1 rfl
                have z2 : wE.cell? ⟨wr.heap.size, 2, none⟩ = some (.int .i64 x2) := by rw [← hWE]; exact cell_new wr _ _ 2 rfl
                have z3 : wE.cell? ⟨wr.heap.size, 3, none⟩ = some (.slice sa x3.length sc) := by rw [← hWE]; exact cell_new wr _ _ 3 rfl
                have m0 := cell_regrown z0
                have m1 := cell_regrown z1
                have m2 := cell_regrown z2
                have m3 := cell_regrown z3
                clear hWE
                have hcW : ∀ d os, Calls Try.prog 47 #[.string x1] (grow (redrawn wE d) os) fun e w'' => e = .returned (.bool true) ∧ ∃ p : Regrown, w'' = grow (redrawn wE p.d) p.os := fun d os => Calls.regrown_of ((implIsWord_any x1 _ hts).mono (by rw [HW.out]; rintro e w' ⟨rfl, rfl⟩; exact ⟨rfl, Below.refl _ _⟩))
                have hcD : ∀ d os, Calls Try.prog 48 #[.int .i64 x2] (grow (redrawn wE d) os) fun e w'' => e = .returned (.bool false) ∧ ∃ p : Regrown, w'' = grow (redrawn wE p.d) p.os := fun d os => Calls.regrown_of ((isDay_any x2 _).mono (by rw [HD.out]; rintro e w' ⟨rfl, rfl⟩; exact ⟨rfl, Below.refl _ _⟩))
                refine wp_region_quiet_below (by kernel_rfl) (by kernel_rfl) ?_
                repeat (go_big_quiet_step (first | exact hcW _ _ | exact hcD _ _))
                refine wpQuiet_nil ?_
                intro _ hw'
                obtain ⟨⟨dq, osq⟩, hw''⟩ := hw'
                subst hw''
                have bq := below_regrown wE dq osq
                have y0 := cell_kept z0 bq
                generalize grow (redrawn wE dq) osq = w2 at bq y0 ⊢
                go_wp2
                go_ret
                exact ⟨ret_bool HNT.out.symm, (hb.trans (bE.mono hw)).trans (bq.mono (Nat.le_trans hw bE.size))⟩
              · cases bT
                · cases bR
                  · have HNT : Hid (areFo t = false) := Lib.hid (areFo_no hlt (by rw [Bool.eq_false_iff]; intro hc; have hh := HAT.out.1 hc; have := hh.2.2.2.2.2; rw [HRR.out] at this; cases this))
                    go_wp2_with fail
                    generalize hWE : wr.alloc (.cells #[.int .i64 x0, .string x1, .int .i64 x2, .slice sa x3.length sc] 60 (0, 0)) = wE
                    have bE : Below wr.heap.size wr wE := by rw [← hWE]; exact below_al (Below.refl _ _) _
                    have z0 : wE.cell? ⟨wr.heap.size, 0, none⟩ = some (.int .i64 x0) := by rw [← hWE]; exact cell_new wr _ _ 0 rfl
                    have z1 : wE.cell? ⟨wr.heap.size, 1, none⟩ = some (.string x1) := by rw [← hWE]; exact cell_new wr _ _ 1 rfl
                    have z2 : wE.cell? ⟨wr.heap.size, 2, none⟩ = some (.int .i64 x2) := by rw [← hWE]; exact cell_new wr _ _ 2 rfl
                    have z3 : wE.cell? ⟨wr.heap.size, 3, none⟩ = some (.slice sa x3.length sc) := by rw [← hWE]; exact cell_new wr _ _ 3 rfl
                    have m0 := cell_regrown z0
                    have m1 := cell_regrown z1
                    have m2 := cell_regrown z2
                    have m3 := cell_regrown z3
                    clear hWE
                    have hcW : ∀ d os, Calls Try.prog 47 #[.string x1] (grow (redrawn wE d) os) fun e w'' => e = .returned (.bool true) ∧ ∃ p : Regrown, w'' = grow (redrawn wE p.d) p.os := fun d os => Calls.regrown_of ((implIsWord_any x1 _ hts).mono (by rw [HW.out]; rintro e w' ⟨rfl, rfl⟩; exact ⟨rfl, Below.refl _ _⟩))
                    have hcD : ∀ d os, Calls Try.prog 48 #[.int .i64 x2] (grow (redrawn wE d) os) fun e w'' => e = .returned (.bool true) ∧ ∃ p : Regrown, w'' = grow (redrawn wE p.d) p.os := fun d os => Calls.regrown_of ((isDay_any x2 _).mono (by rw [HD.out]; rintro e w' ⟨rfl, rfl⟩; exact ⟨rfl, Below.refl _ _⟩))
                    have hcT : ∀ d os, Calls Try.prog 49 #[.slice (some ⟨b1, o1, none⟩) k c1, .string x1] (grow (redrawn wE d) os) fun e w'' => e = .returned (.bool false) ∧ ∃ p : Regrown, w'' = grow (redrawn wE p.d) p.os := fun d os => Calls.regrown_of (by have := hasFormatName_any _ _ x1 _ (HTK.out _ (bE.trans ((below_regrown wE d os).mono bE.size))); rwa [HT.out] at this)
                    have hcR : ∀ d os, Calls Try.prog 50 #[.slice (some ⟨b1, o1, none⟩) t.length c1, .agg #[.int .i64 x0, .string x1, .int .i64 x2, .slice sa x3.length sc]] (grow (redrawn wE d) os) fun e w'' => e = .returned (.bool false) ∧ ∃ p : Regrown, w'' = grow (redrawn wE p.d) p.os := fun d os => Calls.regrown_of (by have := readsOthers_any _ _ t _ _ ((H.out.below rFo_stable hb).below rFo_stable (bE.trans ((below_regrown wE d os).mono bE.size))) (HV.out _ (bE.trans ((below_regrown wE d os).mono bE.size))); rwa [HRR.out] at this)
                    refine wp_region_quiet_below (by kernel_rfl) (by kernel_rfl) ?_
                    repeat (go_big_quiet_step (first | exact hcW _ _ | exact hcD _ _ | exact hcT _ _ | exact hcR _ _))
                    refine wpQuiet_nil ?_
                    intro _ hw'
                    obtain ⟨⟨dq, osq⟩, hw''⟩ := hw'
                    subst hw''
                    have bq := below_regrown wE dq osq
                    have y0 := cell_kept z0 bq
                    generalize grow (redrawn wE dq) osq = w2 at bq y0 ⊢
                    go_wp2
                    go_ret
                    exact ⟨ret_bool HNT.out.symm, (hb.trans (bE.mono hw)).trans (bq.mono (Nat.le_trans hw bE.size))⟩
                  · have HAL : Hid (pAt t k = true) := Lib.hid (HAT.out.2 ⟨by rw [HP.out]; first | omega | (simp only; omega), by first | omega | (simp only; omega), HW.out, of_decide_eq_true HD.out, HT.out, HRR.out⟩)
                    go_wp2_with fail
                    generalize hWE : wr.alloc (.cells #[.int .i64 x0, .string x1, .int .i64 x2, .slice sa x3.length sc] 60 (0, 0)) = wE
                    have bE : Below wr.heap.size wr wE := by rw [← hWE]; exact below_al (Below.refl _ _) _
                    have z0 : wE.cell? ⟨wr.heap.size, 0, none⟩ = some (.int .i64 x0) := by rw [← hWE]; exact cell_new wr _ _ 0 rfl
                    have z1 : wE.cell? ⟨wr.heap.size, 1, none⟩ = some (.string x1) := by rw [← hWE]; exact cell_new wr _ _ 1 rfl
                    have z2 : wE.cell? ⟨wr.heap.size, 2, none⟩ = some (.int .i64 x2) := by rw [← hWE]; exact cell_new wr _ _ 2 rfl
                    have z3 : wE.cell? ⟨wr.heap.size, 3, none⟩ = some (.slice sa x3.length sc) := by rw [← hWE]; exact cell_new wr _ _ 3 rfl
                    have m0 := cell_regrown z0
                    have m1 := cell_regrown z1
                    have m2 := cell_regrown z2
                    have m3 := cell_regrown z3
                    clear hWE
                    have hcW : ∀ d os, Calls Try.prog 47 #[.string x1] (grow (redrawn wE d) os) fun e w'' => e = .returned (.bool true) ∧ ∃ p : Regrown, w'' = grow (redrawn wE p.d) p.os := fun d os => Calls.regrown_of ((implIsWord_any x1 _ hts).mono (by rw [HW.out]; rintro e w' ⟨rfl, rfl⟩; exact ⟨rfl, Below.refl _ _⟩))
                    have hcD : ∀ d os, Calls Try.prog 48 #[.int .i64 x2] (grow (redrawn wE d) os) fun e w'' => e = .returned (.bool true) ∧ ∃ p : Regrown, w'' = grow (redrawn wE p.d) p.os := fun d os => Calls.regrown_of ((isDay_any x2 _).mono (by rw [HD.out]; rintro e w' ⟨rfl, rfl⟩; exact ⟨rfl, Below.refl _ _⟩))
                    have hcT : ∀ d os, Calls Try.prog 49 #[.slice (some ⟨b1, o1, none⟩) k c1, .string x1] (grow (redrawn wE d) os) fun e w'' => e = .returned (.bool false) ∧ ∃ p : Regrown, w'' = grow (redrawn wE p.d) p.os := fun d os => Calls.regrown_of (by have := hasFormatName_any _ _ x1 _ (HTK.out _ (bE.trans ((below_regrown wE d os).mono bE.size))); rwa [HT.out] at this)
                    have hcR : ∀ d os, Calls Try.prog 50 #[.slice (some ⟨b1, o1, none⟩) t.length c1, .agg #[.int .i64 x0, .string x1, .int .i64 x2, .slice sa x3.length sc]] (grow (redrawn wE d) os) fun e w'' => e = .returned (.bool true) ∧ ∃ p : Regrown, w'' = grow (redrawn wE p.d) p.os := fun d os => Calls.regrown_of (by have := readsOthers_any _ _ t _ _ ((H.out.below rFo_stable hb).below rFo_stable (bE.trans ((below_regrown wE d os).mono bE.size))) (HV.out _ (bE.trans ((below_regrown wE d os).mono bE.size))); rwa [HRR.out] at this)
                    refine wp_region_quiet_below (by kernel_rfl) (by kernel_rfl) ?_
                    repeat (go_big_quiet_step (first | exact hcW _ _ | exact hcD _ _ | exact hcT _ _ | exact hcR _ _))
                    refine wpQuiet_nil ?_
                    intro _ hw'
                    obtain ⟨⟨dq, osq⟩, hw''⟩ := hw'
                    subst hw''
                    have bq := below_regrown wE dq osq
                    have y0 := cell_kept z0 bq
                    generalize grow (redrawn wE dq) osq = w2 at bq y0 ⊢
                    go_wp2
                    go_roundw
                    case rel => exact ⟨k + 1, x0, by omega, by go_num, rfl, Lib.hid (by rw [prevFo, HX.out]), Lib.hid (upto_succ HU.out HAL.out), (hb.trans (bE.mono hw)).trans (bq.mono (Nat.le_trans hw bE.size))⟩
                    case measure => simp [intOf]; omega
                · have HNT : Hid (areFo t = false) := Lib.hid (areFo_no hlt (by rw [Bool.eq_false_iff]; intro hc; have hh := HAT.out.1 hc; have := hh.2.2.2.2.1; rw [HT.out] at this; cases this))
                  go_wp2_with fail
                  generalize hWE : wr.alloc (.cells #[.int .i64 x0, .string x1, .int .i64 x2, .slice sa x3.length sc] 60 (0, 0)) = wE
                  have bE : Below wr.heap.size wr wE := by rw [← hWE]; exact below_al (Below.refl _ _) _
                  have z0 : wE.cell? ⟨wr.heap.size, 0, none⟩ = some (.int .i64 x0) := by rw [← hWE]; exact cell_new wr _ _ 0 rfl
                  have z1 : wE.cell? ⟨wr.heap.size, 1, none⟩ = some (.string x1) := by rw [← hWE]; exact cell_new wr _ _ 1 rfl
                  have z2 : wE.cell? ⟨wr.heap.size, 2, none⟩ = some (.int .i64 x2) := by rw [← hWE]; exact cell_new wr _ _ 2 rfl
                  have z3 : wE.cell? ⟨wr.heap.size, 3, none⟩ = some (.slice sa x3.length sc) := by rw [← hWE]; exact cell_new wr _ _ 3 rfl
                  have m0 := cell_regrown z0
                  have m1 := cell_regrown z1
                  have m2 := cell_regrown z2
                  have m3 := cell_regrown z3
                  clear hWE
                  have hcW : ∀ d os, Calls Try.prog 47 #[.string x1] (grow (redrawn wE d) os) fun e w'' => e = .returned (.bool true) ∧ ∃ p : Regrown, w'' = grow (redrawn wE p.d) p.os := fun d os => Calls.regrown_of ((implIsWord_any x1 _ hts).mono (by rw [HW.out]; rintro e w' ⟨rfl, rfl⟩; exact ⟨rfl, Below.refl _ _⟩))
                  have hcD : ∀ d os, Calls Try.prog 48 #[.int .i64 x2] (grow (redrawn wE d) os) fun e w'' => e = .returned (.bool true) ∧ ∃ p : Regrown, w'' = grow (redrawn wE p.d) p.os := fun d os => Calls.regrown_of ((isDay_any x2 _).mono (by rw [HD.out]; rintro e w' ⟨rfl, rfl⟩; exact ⟨rfl, Below.refl _ _⟩))
                  have hcT : ∀ d os, Calls Try.prog 49 #[.slice (some ⟨b1, o1, none⟩) k c1, .string x1] (grow (redrawn wE d) os) fun e w'' => e = .returned (.bool true) ∧ ∃ p : Regrown, w'' = grow (redrawn wE p.d) p.os := fun d os => Calls.regrown_of (by have := hasFormatName_any _ _ x1 _ (HTK.out _ (bE.trans ((below_regrown wE d os).mono bE.size))); rwa [HT.out] at this)
                  refine wp_region_quiet_below (by kernel_rfl) (by kernel_rfl) ?_
                  repeat (go_big_quiet_step (first | exact hcW _ _ | exact hcD _ _ | exact hcT _ _))
                  refine wpQuiet_nil ?_
                  intro _ hw'
                  obtain ⟨⟨dq, osq⟩, hw''⟩ := hw'
                  subst hw''
                  have bq := below_regrown wE dq osq
                  have y0 := cell_kept z0 bq
                  generalize grow (redrawn wE dq) osq = w2 at bq y0 ⊢
                  go_wp2
                  go_ret
                  exact ⟨ret_bool HNT.out.symm, (hb.trans (bE.mono hw)).trans (bq.mono (Nat.le_trans hw bE.size))⟩
      · have hkt : k = t.length := by omega
        have HE : Hid (areFo t = true) := Lib.hid (areFo_yes (by have := HL.out; omega) (by have := HU.out; rw [hkt] at this; exact this))
        clear hkt
        go_wp2_with fail
        go_ret
        exact ⟨ret_bool HE.out.symm, hb⟩
end Go.Proofs.Ytcfghigmijibeaa
