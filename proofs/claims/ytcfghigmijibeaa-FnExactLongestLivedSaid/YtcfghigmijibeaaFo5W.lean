/- Formats, the model's: l7Ways, WaysTo, LongestLived. -/
import Derived.Test.YtcfghigmijibeaaFo2S
import Derived.Test.YtcfghigmijibeaaFo5P
import Derived.WalkSpells
namespace Go.Proofs.Ytcfghigmijibeaa
set_option linter.unusedVariables false
open Go.RowKit Go.Sort

def sliceLen : Value → Nat
  | .slice _ n _ => n
  | _ => 0
def boolOf : Value → Bool
  | .bool b => b
  | _ => false
/-- Closed at a format. -/
def ClosedAt (d : Int) (l : List Int) (f : Fo) : Prop := d ≤ f.til → (∃ r ∈ f.reads, r ∈ l) → f.id ∈ l

set_option maxRecDepth 20000 in
set_option maxHeartbeats 16000000 in
theorem l7Ways_any (v : Value) (t : List Fo) (x d : Int) (w : World) (h : RowR 4 rFo w v t) (hg : areFo t = true) (hid : hasId t x = true) :
    Calls Try.prog 64 #[v, .int .i64 x, .int .i64 d] w fun e w' => ∃ v', e = .returned v' ∧ IntsO w.heap.size w'.heap.size w' v' (wayF t x d) ∧ Below w.heap.size w w' := by
  have H := Lib.hid h
  have hcap := h.cap
  obtain ⟨a1, c1, rfl, hl1, hm1, r1⟩ := h.fos
  have R1 := Lib.hid r1
  unfold maxLen at hm1
  have HG := Lib.hid hg
  have HI := Lib.hid hid
  have h10 := (fo_iff.1 hg).1
  clear h r1 hg hid
  go_enter Try.func64, Try.ntmps64
  go_wp2_with fail
  have O1 : Hid ((w.alloc (.cells #[.int .i64 x] 3 (0, 0))).ownsRow w.heap.size 3 1 (.slice (some ⟨w.heap.size, 0, none⟩) 1 1) 1 ([x].map vI)) := Lib.hid (by have := World.ownsRow_lit (base := w.heap.size) (e := 3) (size := 1) w #[.int .i64 x] 1 (Nat.le_refl _) (by decide) rfl; simpa [vI] using this)
  have B1 := below_al (Below.refl w.heap.size w) (.cells #[.int .i64 x] 3 (0, 0))
  go_loopw [7, 8] (fun o g wr => ∃ (l : List Int) (av : Bool), g = .bool av ∧ sliceLen o = l.length ∧ Hid (WOut t d x l) ∧ Hid (wr.ownsRow w.heap.size 3 1 o l.length (l.map vI)) ∧ Below w.heap.size w wr ∧ Hid (av = false → ∀ f ∈ t, ClosedAt d l f)) (fun o g _ => 2 * (t.length - sliceLen o) + (if boolOf g then 1 else 0))
  case atStart => exact ⟨[x], true, rfl, rfl, Lib.hid (WOut.start t d x), O1, B1, Lib.hid (fun h => by cases h)⟩
  case round =>
    clear O1 B1
    obtain ⟨l, av, rfl, hsl, HW, HO, hb, HC⟩ := hrel
    have hbs := hb.size
    cases av
    · have HE : Hid (l = wayF t x d) := Lib.hid (HW.out.done HG.out HI.out (fun f hf h1 h2 => HC.out rfl f hf h1 h2))
      go_wp2_with fail
      go_ret
      exact ⟨_, rfl, by rw [← HE.out]; exact ints_rowN HO.out rfl, hb⟩
    · have hll := HW.out.len HI.out
      obtain ⟨wo, hwo⟩ : ∃ x, x = wr := ⟨_, rfl⟩
      subst hwo
      go_wp2_with fail
      go_loopw [7, 8, 9] (fun o2 g i wr => ∃ (k : Nat) (l2 : List Int) (av : Bool), k ≤ t.length ∧ i = .int .i64 k ∧ g = .bool av ∧ sliceLen o2 = l2.length ∧ Hid (WOut t d x l2) ∧ Hid (wr.ownsRow w.heap.size 3 1 o2 l2.length (l2.map vI)) ∧ Below wo.heap.size wo wr ∧ Hid ((av = false → l2 = l ∧ ∀ j, j < k → ClosedAt d l (t.getD j foD)) ∧ (av = true → l.length < l2.length))) (fun _ _ i _ => t.length - (Go.RowKit.intOf i).toNat)
      case atStart => exact ⟨0, l, false, Nat.zero_le _, rfl, rfl, hsl, HW, HO, Below.refl _ _, Lib.hid ⟨fun _ => ⟨rfl, fun j hj => absurd hj (Nat.not_lt_zero _)⟩, fun h => by cases h⟩⟩
      case round =>
        obtain ⟨k, l2, av, hk, rfl, rfl, hsl2, HW2, HO2, hb2, HI2⟩ := hrel
        have hwr2 := hb2.size
        by_cases hlt : k < t.length
        · obtain ⟨bR, oR, hbR, rfl, e1⟩ := R1.out.resolve_left (fun e => by rw [e] at hlt; simp at hlt)
          obtain ⟨⟨y0, y1, y2, y3⟩, hy⟩ : ∃ s, t.getD k foD = s := ⟨_, rfl⟩
          obtain ⟨s, r0, r1, r2, r3, hr, _⟩ := e1 k hlt
          rw [hy] at r0 r1 r2 hr
          simp only at r0 r1 r2 hr
          have hbw := hb.trans (hb2.mono hbs)
          have f0 := cell_kept r0 hbw
          have f2 := cell_kept r2 hbw
          have f3 := cell_kept r3 hbw
          have HS := Lib.hid (hr.below hbw)
          have HY := Lib.hid hy
          have HM : Hid ((⟨y0, y1, y2, y3⟩ : Fo) ∈ t) := Lib.hid (by rw [← hy, getFo_lt hlt]; exact List.getElem_mem hlt)
          have hl2 := HW2.out.len HI.out
          obtain ⟨sa, sc, rfl, hs1, hs2, hs3⟩ := hr
          have HS3 := Lib.hid hs3
          unfold maxLen at hs2
          have k0 : (0 : Int) ≤ (k : Int) := by omega
          have k1 : (k : Int) < (t.length : Int) := by omega
          obtain ⟨bi, hbi⟩ : ∃ b, decide (y0 ∈ l2) = b := ⟨_, rfl⟩
          have HBI := Lib.hid hbi
          have HNX : Hid (∀ (av : Bool), ((av = false → l2 = l ∧ ∀ j, j < k → ClosedAt d l (t.getD j foD)) ∧ (av = true → l.length < l2.length)) → ClosedAt d l2 ⟨y0, y1, y2, y3⟩ → ((av = false → l2 = l ∧ ∀ j, j < k + 1 → ClosedAt d l (t.getD j foD)) ∧ (av = true → l.length < l2.length))) := Lib.hid (fun av h hc => ⟨fun q => ⟨(h.1 q).1, fun j hj => by
            rcases Nat.lt_or_ge j k with c | c
            · exact (h.1 q).2 j c
            · have : j = k := by omega
              subst this
              rw [hy, ← (h.1 q).1]; exact hc⟩, h.2⟩)
          clear r0 r1 r2 r3 hy e1 hs3 hbi
          have HO2R := Lib.hid (RowOf.of_owns HO2.out)
          cases bi
          · by_cases ht2 : y2 < d
            · have hd1 : decide (y2 < d) = true := decide_eq_true ht2
              have HNX2 := Lib.hid (HNX.out av HI2.out (fun q => absurd q (by simp only; omega)))
              go_wp2_with (first | (go_at_call 60; refine (l1Has_any _ _ y0 _ HO2R.out).mono ?_; rw [HBI.out]; rintro e w5 ⟨rfl, b5⟩; have hbx := hb2.trans (b5.mono hwr2); have HO5 := Lib.hid (ownsRow_below HO2.out b5); replace f2 := cell_kept f2 b5))
              go_roundw
              case rel => exact ⟨k + 1, l2, av, by omega, by go_num, rfl, hsl2, HW2, HO5, hbx, HNX2⟩
              case measure => simp [Go.RowKit.intOf]; omega
            · have hd1 : decide (y2 < d) = false := decide_eq_false ht2
              go_wp2_with (first | (go_at_call 60; refine (l1Has_any _ _ y0 _ HO2R.out).mono ?_; rw [HBI.out]; rintro e w5 ⟨rfl, b5⟩; have hbx := hb2.trans (b5.mono hwr2); have HO5 := Lib.hid (ownsRow_below HO2.out b5); replace f0 := cell_kept f0 b5; replace f2 := cell_kept f2 b5; replace f3 := cell_kept f3 b5; have HS5 := Lib.hid (HS.out.below b5); have s5 := b5.size; clear HS))
              obtain ⟨wi, hwi⟩ : ∃ x, x = w5 := ⟨_, rfl⟩
              subst hwi
              have hbxs := hbx.size
              have F0 := Lib.hid f0
              have F3 := Lib.hid f3
              clear f0 f2 f3 b5
              go_loopw [7, 8, 10] (fun o3 g j wr => ∃ (m : Nat) (l3 : List Int) (av3 : Bool), m ≤ y3.length ∧ j = .int .i64 m ∧ g = .bool av3 ∧ sliceLen o3 = l3.length ∧ Hid (WOut t d x l3) ∧ Hid (wr.ownsRow w.heap.size 3 1 o3 l3.length (l3.map vI)) ∧ Below wi.heap.size wi wr ∧ Hid ((l3 = l2 ∧ av3 = av ∧ ∀ i, i < m → y3.getD i 0 ∉ l2) ∨ (l3 = putI l2 y0 ∧ av3 = true))) (fun _ _ j _ => y3.length - (Go.RowKit.intOf j).toNat)
              case atStart => exact ⟨0, l2, av, Nat.zero_le _, rfl, rfl, hsl2, HW2, HO5, Below.refl _ _, Lib.hid (.inl ⟨rfl, rfl, fun i hi => absurd hi (Nat.not_lt_zero _)⟩)⟩
              case round =>
                obtain ⟨m, l3, av3, hm, rfl, rfl, hsl3, HW3, HO3, hb3, HI3⟩ := hrel
                have hwr3 := hb3.size
                have f0 := cell_kept F0.out hb3
                have f3 := cell_kept F3.out hb3
                have hl3 := HW3.out.len HI.out
                by_cases hml : m < y3.length
                · obtain ⟨bS, oS, hbS, rfl, e3⟩ := HS3.out.resolve_left (fun e => by rw [e] at hml; simp at hml)
                  obtain ⟨z, hz⟩ : ∃ z, y3[m] = z := ⟨_, rfl⟩
                  have q := e3 m hml
                  rw [hz] at q
                  simp only [vI] at q
                  have fz := cell_kept (cell_kept q (hb.trans (hbx.mono hbs))) hb3
                  have HZ := Lib.hid hz
                  have m0 : (0 : Int) ≤ (m : Int) := by omega
                  have m1 : (m : Int) < (y3.length : Int) := by omega
                  have HO3R := Lib.hid (RowOf.of_owns HO3.out)
                  obtain ⟨bz, hbz⟩ : ∃ b, decide (z ∈ l3) = b := ⟨_, rfl⟩
                  have HBZ := Lib.hid hbz
                  clear q hz hbz e3
                  cases bz
                  · have HI4 : Hid ((l3 = l2 ∧ av3 = av ∧ ∀ i, i < m + 1 → y3.getD i 0 ∉ l2) ∨ (l3 = putI l2 y0 ∧ av3 = true)) := Lib.hid (HI3.out.imp (fun ⟨a, b, c⟩ => ⟨a, b, fun i hi => by
                      rcases Nat.lt_or_ge i m with e | e
                      · exact c i e
                      · have : i = m := by omega
                        subst this
                        rw [getI_lt hml, HZ.out, ← a]; exact of_decide_eq_false HBZ.out⟩) id)
                    go_wp2_with (first | (go_at_call 60; refine (l1Has_any _ _ z _ HO3R.out).mono ?_; rw [HBZ.out]; rintro e w6 ⟨rfl, b6⟩; have hby := hb3.trans (b6.mono hwr3); have HO6 := Lib.hid (ownsRow_below HO3.out b6)))
                    go_roundw
                    case rel => exact ⟨m + 1, l3, av3, by omega, by go_num, rfl, hsl3, HW3, HO6, hby, HI4⟩
                    case measure => simp [Go.RowKit.intOf]; omega
                  · obtain ⟨bq, hbq⟩ : ∃ b, decide (y0 ∈ l3) = b := ⟨_, rfl⟩
                    have HBQ := Lib.hid hbq
                    clear hbq
                    cases bq
                    · obtain ⟨HL3, HAV⟩ : Hid (l3 = l2) ∧ Hid (y0 ∉ l3) := ⟨Lib.hid (by
                        rcases HI3.out with ⟨a, _⟩ | ⟨a, _⟩
                        · exact a
                        · exact absurd ((putI_mem l2 y0 y0).2 (.inl rfl)) (by rw [← a]; exact of_decide_eq_false HBQ.out)), Lib.hid (of_decide_eq_false HBQ.out)⟩
                      have HW7 : Hid (WOut t d x (putI l3 y0)) := Lib.hid (HW3.out.put HM.out (by show d ≤ y2; omega) (r := z) (by show z ∈ y3; rw [← HZ.out]; exact List.getElem_mem hml) (of_decide_eq_true HBZ.out))
                      have hpos : 0 < l3.length := List.length_pos_of_mem (of_decide_eq_true HBZ.out)
                      have hup := HW3.out.up
                      have hni := HAV.out
                      go_wp2_with (first | (go_at_call 60; refine (l1Has_any _ _ z _ HO3R.out).mono ?_; rw [HBZ.out]; rintro e w6 ⟨rfl, b6⟩; have hby := hb3.trans (b6.mono hwr3); have HO6 := Lib.hid (ownsRow_below HO3.out b6); replace f0 := cell_kept f0 b6; have HO6R := Lib.hid (RowOf.of_owns HO6.out); have s6 := hby.size; clear HO3R) | (go_at_call 60; refine (l1Has_any _ _ y0 _ HO6R.out).mono ?_; rw [HBQ.out]; rintro e w7 ⟨rfl, b7⟩; have hbz := hby.trans (b7.mono s6); have HO7 := Lib.hid (ownsRow_below HO6.out b7); replace f0 := cell_kept f0 b7; have HO7R := Lib.hid (RowOf.of_owns HO7.out); have s7 := hbz.size; clear HO6R) | (go_at_call 83; refine (l1Put_any _ _ y0 _ HO7R.out hup hpos (by omega) hni).mono ?_; rintro e w8 ⟨v8, rfl, ho8, b8⟩; have HO8 := Lib.hid ho8; clear ho8))
                      obtain ⟨a8, c8, rfl, _⟩ := RowOf.of_owns HO8.out
                      have b08 := hbz.trans (b8.mono s7)
                      go_wp2_with fail
                      go_roundw
                      case rel => exact ⟨m + 1, putI l3 y0, true, by omega, by go_num, rfl, by simp [sliceLen], HW7, Lib.hid (ownsRow_base_a' HO8.out (by omega)), b08, Lib.hid (.inr ⟨by rw [HL3.out], rfl⟩)⟩
                      case measure => simp [Go.RowKit.intOf]; omega
                    · have HI4 : Hid (l3 = putI l2 y0 ∧ av3 = true) := Lib.hid (by
                        rcases HI3.out with ⟨a, _⟩ | h
                        · have := of_decide_eq_true HBQ.out
                          rw [a] at this
                          exact absurd this (of_decide_eq_false HBI.out)
                        · exact h)
                      go_wp2_with (first | (go_at_call 60; refine (l1Has_any _ _ z _ HO3R.out).mono ?_; rw [HBZ.out]; rintro e w6 ⟨rfl, b6⟩; have hby := hb3.trans (b6.mono hwr3); have HO6 := Lib.hid (ownsRow_below HO3.out b6); replace f0 := cell_kept f0 b6; have HO6R := Lib.hid (RowOf.of_owns HO6.out); have s6 := hby.size; clear HO3R) | (go_at_call 60; refine (l1Has_any _ _ y0 _ HO6R.out).mono ?_; rw [HBQ.out]; rintro e w7 ⟨rfl, b7⟩; have hbz := hby.trans (b7.mono s6); have HO7 := Lib.hid (ownsRow_below HO6.out b7)))
                      go_roundw
                      case rel => exact ⟨m + 1, l3, av3, by omega, by go_num, rfl, hsl3, HW3, HO7, hbz, Lib.hid (.inr HI4.out)⟩
                      case measure => simp [Go.RowKit.intOf]; omega
                · have hme : m = y3.length := by omega
                  have HF : Hid ((av3 = false → l3 = l ∧ ∀ j, j < k + 1 → ClosedAt d l (t.getD j foD)) ∧ (av3 = true → l.length < l3.length)) := Lib.hid (by
                    rcases HI3.out with ⟨a, b, c⟩ | ⟨a, b⟩
                    · subst a; subst b
                      refine HNX.out _ HI2.out (fun _ hx => ?_)
                      obtain ⟨r, hr, hr2⟩ := hx
                      obtain ⟨i, hi, rfl⟩ := List.getElem_of_mem hr
                      exact absurd hr2 (by rw [← getI_lt hi]; exact c i (by have : i < y3.length := hi; omega))
                    · subst b
                      refine ⟨fun h => by (cases h), fun _ => ?_⟩
                      rw [a, putI_len (of_decide_eq_false HBI.out) HW2.out.up]
                      rcases hav : av with _ | _
                      · have := (HI2.out.1 hav).1; rw [this]; omega
                      · have := HI2.out.2 hav; omega)
                  have hbend := hbx.trans (hb3.mono hbxs)
                  clear hme
                  go_wp2_with fail
                  go_roundw
                  case rel => exact ⟨k + 1, l3, av3, by omega, by go_num, rfl, hsl3, HW3, HO3, hbend, HF⟩
                  case measure => simp [Go.RowKit.intOf]; omega
          · have HNX2 := Lib.hid (HNX.out av HI2.out (fun _ _ => of_decide_eq_true HBI.out))
            go_wp2_with (first | (go_at_call 60; refine (l1Has_any _ _ y0 _ HO2R.out).mono ?_; rw [HBI.out]; rintro e w5 ⟨rfl, b5⟩; have hbx := hb2.trans (b5.mono hwr2); have HO5 := Lib.hid (ownsRow_below HO2.out b5)))
            go_roundw
            case rel => exact ⟨k + 1, l2, av, by omega, by go_num, rfl, hsl2, HW2, HO5, hbx, HNX2⟩
            case measure => simp [Go.RowKit.intOf]; omega
        · have hkt : k = t.length := by omega
          have hl2 := HW2.out.len HI.out
          have HF : Hid (av = false → ∀ f ∈ t, ClosedAt d l2 f) := Lib.hid (fun h f hf => by
            obtain ⟨i, hi, rfl⟩ := List.getElem_of_mem hf
            have h2 := HI2.out.1 h
            rw [← getFo_lt hi, h2.1]
            exact h2.2 i (by omega))
          have hms : 2 * (t.length - l2.length) + (if av then 1 else 0) < 2 * (t.length - l.length) + 1 := by
            rcases hav : av with _ | _
            · have := (HI2.out.1 hav).1; rw [this]; simp
            · have := HI2.out.2 hav; simp; omega
          have hbend := hb.trans (hb2.mono hbs)
          clear hkt
          go_wp2_with fail
          go_roundw
          case rel => exact ⟨l2, av, rfl, hsl2, HW2, HO2, hbend, HF⟩
          case measure =>
            cases av
            · simp [boolOf, hsl, hsl2] at hms ⊢
              omega
            · simp [boolOf, hsl, hsl2] at hms ⊢
              omega

set_option maxRecDepth 20000 in
set_option maxHeartbeats 4000000 in
theorem specWaysTo_any (v : Value) (t : List Fo) (x d : Int) (w : World) (h : RowR 4 rFo w v t) (xs : List Int) (b : Bool) (hres : wayRes t x d = (xs, b)) :
    Calls Try.prog 32 #[v, .int .i64 x, .int .i64 d] w fun e w' => ∃ v', e = .returned (.tuple #[v', .bool b]) ∧ IntsO w.heap.size w'.heap.size w' v' xs ∧ Below w.heap.size w w' := by
  have H := Lib.hid h
  have hcap := h.cap
  obtain ⟨bg, hg⟩ : ∃ b, areFo t = b := ⟨_, rfl⟩
  obtain ⟨bh, hh⟩ : ∃ b, hasId t x = b := ⟨_, rfl⟩
  obtain ⟨bd, hd⟩ : ∃ b, decide (0 ≤ d ∧ d ≤ 20000) = b := ⟨_, rfl⟩
  obtain ⟨c, hc⟩ : ∃ c, foI t x = c := ⟨_, rfl⟩
  have hcn : decide (c < 0) = !bh := by rw [← hc, foI_neg, hh]
  have HG := Lib.hid hg
  have HH := Lib.hid hh
  have HD := Lib.hid hd
  have HC := Lib.hid hc
  have NO := Lib.hid (fun hn => wayRes_no hres hn)
  have YES := Lib.hid (fun hn => wayRes_yes hres hn)
  clear h hg hh hc hd hres
  cases bg
  · obtain ⟨rfl, rfl⟩ := NO.out (fun h => by rw [HG.out] at h; exact absurd h.1 (by simp))
    go_enter Try.func32, Try.ntmps32
    go_wp2_with (first | (go_at_call 45; refine (l7Good_any _ t _ H.out).mono ?_; rw [HG.out]; rintro e w1 ⟨rfl, b1⟩))
    go_ret2
    exact ⟨_, rfl, (ints_newN w1).wide b1.size (Nat.le_refl _), below_al b1 _⟩
  · cases bh
    · obtain ⟨rfl, rfl⟩ := NO.out (fun h => by rw [HH.out] at h; exact absurd h.2.1 (by simp))
      have hcn' : c < 0 := by simpa using hcn
      clear hcn
      go_enter Try.func32, Try.ntmps32
      go_wp2_with (first | (go_at_call 45; refine (l7Good_any _ t _ H.out).mono ?_; rw [HG.out]; rintro e w1 ⟨rfl, b1⟩) | (go_at_call 57; refine (l7Find_any _ t _ _ (H.out.below rFo_stable b1)).mono ?_; rw [HC.out]; rintro e w2 ⟨rfl, h2⟩; subst w2))
      go_ret2
      exact ⟨_, rfl, (ints_newN w1).wide b1.size (Nat.le_refl _), below_al b1 _⟩
    · have hcn' : 0 ≤ c := by simpa using hcn
      have dcn : decide (c < 0) = false := decide_eq_false (by omega)
      clear hcn
      cases bd
      · obtain ⟨rfl, rfl⟩ := NO.out (fun h => by have := h.2.2; unfold dayB at this; rw [HD.out] at this; cases this)
        go_enter Try.func32, Try.ntmps32
        go_wp2_with (first | (go_at_call 45; refine (l7Good_any _ t _ H.out).mono ?_; rw [HG.out]; rintro e w1 ⟨rfl, b1⟩) | (go_at_call 57; refine (l7Find_any _ t _ _ (H.out.below rFo_stable b1)).mono ?_; rw [HC.out]; rintro e w2 ⟨rfl, h2⟩; subst w2) | (go_at_call 58; refine (l2Day_any _ _).mono ?_; rw [HD.out]; rintro e w3 ⟨rfl, h3⟩; subst w3))
        go_ret2
        exact ⟨_, rfl, (ints_newN w1).wide b1.size (Nat.le_refl _), below_al b1 _⟩
      · obtain ⟨rfl, rfl⟩ := YES.out ⟨HG.out, HH.out, HD.out⟩
        go_enter Try.func32, Try.ntmps32
        go_wp2_with (first | (go_at_call 45; refine (l7Good_any _ t _ H.out).mono ?_; rw [HG.out]; rintro e w1 ⟨rfl, b1⟩) | (go_at_call 57; refine (l7Find_any _ t _ _ (H.out.below rFo_stable b1)).mono ?_; rw [HC.out]; rintro e w2 ⟨rfl, h2⟩; subst w2) | (go_at_call 58; refine (l2Day_any _ _).mono ?_; rw [HD.out]; rintro e w3 ⟨rfl, h3⟩; subst w3) | (go_at_call 64; refine (l7Ways_any _ t _ _ _ (H.out.below rFo_stable b1) HG.out HH.out).mono ?_; rintro e w4 ⟨v4, rfl, ho4, b4⟩; have HO4 := Lib.hid ho4; clear ho4))
        go_ret2
        exact ⟨_, rfl, HO4.out.wide b1.size (Nat.le_refl _), below_chain b1 b4⟩

end Go.Proofs.Ytcfghigmijibeaa
