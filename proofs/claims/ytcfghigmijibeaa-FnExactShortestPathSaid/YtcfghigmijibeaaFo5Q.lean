/- Formats, the model's: l7Path, ShortestPath. -/
import Derived.Test.YtcfghigmijibeaaFo5W
import Derived.Deep.DeepCutAuto
namespace Go.Proofs.Ytcfghigmijibeaa
set_option linter.unusedVariables false
open Go.RowKit Go.Sort

theorem pathN_none {t : List Fo} {d a b : Int} {n : Nat} (h : ∀ j, j < t.length → edB d a (t.getD j foD) = true → pathN t d n (t.getD j foD).id b = none) : pathN t d (n + 1) a b = none := by
  unfold pathN
  rw [List.findSome?_eq_none_iff]
  intro f hf
  obtain ⟨j, hj, rfl⟩ := List.getElem_of_mem hf
  split
  · rename_i he
    have := h j hj (by rw [getFo_lt hj]; exact he)
    rw [getFo_lt hj] at this
    rw [this]; rfl
  · rfl
theorem pathN_at {t : List Fo} {d a b : Int} {n k : Nat} {r : List Int} (hk : k < t.length) (h : ∀ j, j < k → edB d a (t.getD j foD) = true → pathN t d n (t.getD j foD).id b = none) (he : edB d a (t.getD k foD) = true) (hr : pathN t d n (t.getD k foD).id b = some r) : pathN t d (n + 1) a b = some (a :: r) := by
  unfold pathN
  rw [List.findSome?_eq_some_iff]
  refine ⟨t.take k, t[k], t.drop (k + 1), by rw [List.getElem_cons_drop hk, List.take_append_drop], ?_, ?_⟩
  · rw [getFo_lt hk] at he hr
    rw [if_pos he, hr]; rfl
  · intro f hf
    obtain ⟨j, hj, rfl⟩ := List.mem_take_iff_getElem.1 hf
    split
    · rename_i he2
      have := h j (by omega) (by rw [getFo_lt (by omega)]; exact he2)
      rw [getFo_lt (by omega)] at this
      rw [this]; rfl
    · rfl

set_option maxRecDepth 100000 in
set_option maxHeartbeats 16000000 in
theorem l7Path_any (t : List Fo) (y d : Int) : ∀ (n : Nat), n ≤ 1000 → ∀ (v : Value) (x : Int) (w : World), RowR 4 rFo w v t →
    Calls Try.prog 67 #[v, .int .i64 x, .int .i64 y, .int .i64 d, .int .i64 n] w fun e w' => ∃ v', e = .returned (.tuple #[v', .bool (pathN t d n x y).isSome]) ∧ (∀ p, pathN t d n x y = some p → IntsO w.heap.size w'.heap.size w' v' p) ∧ Below w.heap.size w w' := by
  intro n
  induction n with
  | zero =>
    intro _ v x w h
    have e0 : (pathN t d 0 x y).isSome = (x == y) := by
      unfold pathN
      by_cases q : x = y
      · rw [if_pos q]; simp [q]
      · rw [if_neg q]; simp [q]
    rw [e0]
    have HP : Hid (∀ p, pathN t d 0 x y = some p → p = [x]) := Lib.hid (fun p hp => by
      unfold pathN at hp
      split at hp
      · exact (Option.some.inj hp).symm
      · cases hp)
    clear h e0
    go_enter Try.func67, Try.ntmps67
    go_wp2_with fail
    go_ret2
    refine ⟨_, rfl, fun p hp => ?_, below_al (Below.refl _ _) _⟩
    rw [HP.out p hp]
    have := World.ownsRow_lit (base := w.heap.size) (e := 3) (size := 1) w #[.int .i64 x] 1 (Nat.le_refl _) (by decide) rfl
    exact ints_rowN (n := 1) (by simpa [vI] using this) rfl
  | succ n ih =>
    intro hn v x w h
    obtain ⟨i0, hi, hz0, hz1, hz2⟩ := info_parts Try.info_intN
    have H := Lib.hid h
    have hcap := h.cap
    obtain ⟨a1, c1, rfl, hl1, hm1, r1⟩ := h.fos
    have R1 := Lib.hid r1
    have IH := Lib.hid (ih (by omega))
    unfold maxLen at hm1
    obtain ⟨N, hN⟩ : ∃ N : Int, ((n + 1 : Nat) : Int) = N := ⟨_, rfl⟩
    rw [hN]
    have hn0 : (N == 0) = false := by simp; omega
    have g0 : 0 ≤ N := by omega
    have g3 : N ≤ 1000 := by omega
    have g2 : N - 1 = (n : Int) := by omega
    clear h r1 ih hN
    go_enter Try.func67, Try.ntmps67
    go_wp2_with fail
    go_loopw [12] (fun i wr => ∃ k : Nat, k ≤ t.length ∧ i = .int .i64 k ∧ Hid (∀ j, j < k → edB d x (t.getD j foD) = true → pathN t d n (t.getD j foD).id y = none) ∧ Below w.heap.size w wr) (fun i _ => t.length - (Go.RowKit.intOf i).toNat)
    case atStart => exact ⟨0, Nat.zero_le _, rfl, Lib.hid (fun j hj => absurd hj (Nat.not_lt_zero _)), Below.refl _ _⟩
    case round =>
      obtain ⟨k, hk, rfl, HK, hb⟩ := hrel
      have hbs := hb.size
      by_cases hlt : k < t.length
      · obtain ⟨bR, oR, hbR, rfl, e1⟩ := R1.out.resolve_left (fun e => by rw [e] at hlt; simp at hlt)
        obtain ⟨⟨y0, y1, y2, y3⟩, hy⟩ : ∃ s, t.getD k foD = s := ⟨_, rfl⟩
        obtain ⟨s, r0, r1, r2, r3, hr, _⟩ := e1 k hlt
        rw [hy] at r0 r1 r2 hr
        simp only at r0 r1 r2 hr
        have f0 := cell_kept r0 hb
        have f2 := cell_kept r2 hb
        have f3 := cell_kept r3 hb
        have HS := Lib.hid (hr.below hb)
        have HY := Lib.hid hy
        obtain ⟨sa, sc, rfl, hs1, hs2, hs3⟩ := hr
        unfold maxLen at hs2
        have HNX : Hid ((edB d x ⟨y0, y1, y2, y3⟩ = true → pathN t d n y0 y = none) → ∀ j, j < k + 1 → edB d x (t.getD j foD) = true → pathN t d n (t.getD j foD).id y = none) := Lib.hid (fun h j hj he => by
          rcases Nat.lt_or_ge j k with c | c
          · exact HK.out j c he
          · have : j = k := by omega
            subst this
            rw [hy] at he ⊢
            exact h he)
        have k0 : (0 : Int) ≤ (k : Int) := by omega
        have k1 : (k : Int) < (t.length : Int) := by omega
        clear r0 r1 r2 r3 hy e1 hs3
        by_cases ht2 : y2 < d
        · have hd1 : decide (y2 < d) = true := decide_eq_true ht2
          have HNX2 := Lib.hid (HNX.out (fun he => by simp [edB] at he; omega))
          go_wp2_with fail
          go_roundw
          case rel => exact ⟨k + 1, by omega, by go_num, HNX2, hb⟩
          case measure => simp [Go.RowKit.intOf]; omega
        · have hd1 : decide (y2 < d) = false := decide_eq_false ht2
          obtain ⟨bi, hbi⟩ : ∃ b, decide (x ∈ y3) = b := ⟨_, rfl⟩
          have HBI := Lib.hid hbi
          clear hbi
          cases bi
          · have HNX2 := Lib.hid (HNX.out (fun he => by simp [edB] at he; exact absurd he.2 (of_decide_eq_false HBI.out)))
            go_wp2_with (first | (go_at_call 60; refine (l1Has_any _ _ x _ HS.out).mono ?_; rw [HBI.out]; rintro e w5 ⟨rfl, b5⟩; have hbx := hb.trans (b5.mono hbs)))
            go_roundw
            case rel => exact ⟨k + 1, by omega, by go_num, HNX2, hbx⟩
            case measure => simp [Go.RowKit.intOf]; omega
          · have HED : Hid (edB d x ⟨y0, y1, y2, y3⟩ = true) := Lib.hid (by simp [edB]; exact ⟨by omega, of_decide_eq_true HBI.out⟩)
            rcases hpr : pathN t d n y0 y with _ | r
            · have HPR := Lib.hid hpr
              have HPB : (pathN t d n y0 y).isSome = false := by rw [hpr]; rfl
              have HNX2 := Lib.hid (HNX.out (fun _ => HPR.out))
              clear hpr
              go_wp2_with (first | (go_at_call 60; refine (l1Has_any _ _ x _ HS.out).mono ?_; rw [HBI.out]; rintro e w5 ⟨rfl, b5⟩; replace f0 := cell_kept f0 b5; have hbx := hb.trans (b5.mono hbs); have sx := hbx.size) | (go_at_call 67; (try rw [g2]); refine (IH.out _ y0 _ (H.out.below rFo_stable hbx)).mono ?_; rw [HPB]; rintro e w6 ⟨v6, rfl, ho6, b6⟩; have HO6 := Lib.hid ho6; clear ho6; have hby := hbx.trans (b6.mono sx); have sy := hby.size))
              go_roundw
              case rel => exact ⟨k + 1, by omega, by go_num, HNX2, hby⟩
              case measure => simp [Go.RowKit.intOf]; omega
            · have HPR := Lib.hid hpr
              have HPB : (pathN t d n y0 y).isSome = true := by rw [hpr]; rfl
              clear hpr
              go_upto_region 9 with (first | (go_at_call 60; refine (l1Has_any _ _ x _ HS.out).mono ?_; rw [HBI.out]; rintro e w5 ⟨rfl, b5⟩; replace f0 := cell_kept f0 b5; have hbx := hb.trans (b5.mono hbs); have sx := hbx.size) | (go_at_call 67; (try rw [g2]); refine (IH.out _ y0 _ (H.out.below rFo_stable hbx)).mono ?_; rw [HPB]; rintro e w6 ⟨v6, rfl, ho6, b6⟩; have HO6 := Lib.hid ho6; clear ho6; have hby := hbx.trans (b6.mono sx); have sy := hby.size))
              have HO := Lib.hid (HO6.out r HPR.out)
              have hlr := (pathN_sound HPR.out).2
              have HAT : Hid (pathN t d (n + 1) x y = some (x :: r)) := Lib.hid (pathN_at hlt HK.out (by rw [HY.out]; exact HED.out) (by rw [HY.out]; exact HPR.out))
              obtain ⟨ar, cr, hav, hr1, hr2, hr3⟩ := HO.out.row
              subst hav
              unfold maxLen at hr2
              obtain ⟨bP, oP, hbP, rfl, eP⟩ := hr3.resolve_left (fun e => by rw [e] at hlr; simp at hlr)
              have HC : Hid (∀ W, Below w6.heap.size w6 W → ∀ j u, (r.map vI)[j]? = some u → W.cell? ((⟨bP, oP, none⟩ : Addr).add j) = some u) := Lib.hid (fun W hW j u hj => by
                rw [List.getElem?_map] at hj
                obtain ⟨z, hz, rfl⟩ := Option.map_eq_some_iff.1 hj
                obtain ⟨h1, h2⟩ := List.getElem?_eq_some_iff.1 hz
                rw [Addr.add_lit, ← h2]
                exact cell_kept (eP j h1) hW)
              have O1 : Hid ((w6.alloc (.cells #[.int .i64 x] 3 (0, 0))).ownsRow w6.heap.size 3 1 (.slice (some ⟨w6.heap.size, 0, none⟩) 1 1) 1 [.int .i64 x]) := Lib.hid (by have := World.ownsRow_lit (base := w6.heap.size) (e := 3) (size := 1) w6 #[.int .i64 x] 1 (Nat.le_refl _) (by decide) rfl; simpa using this)
              clear hr3 eP HO6
              go_wp2_with (first | (at_builtin; refine wpList_append_own _ rfl _ _ 39 rfl w6.heap.size 3 i0 (.int .i64 0) 1 8 Try.underlying39 hi hz0 hz1 hz2 rfl (by decide) _ _ _ rfl O1.out ⟨bP, oP, none⟩ r.length cr (r.map vI) rfl (by simp) (HC.out _ (below_al (Below.refl _ _) _)) (by intro u hu; obtain ⟨z, _, rfl⟩ := List.mem_map.1 hu; rfl) (by unfold maxLen; omega) (by omega) (by (first | (simp; done) | (simp; omega))) ?_; intro v' w7 hown' hgrow _))
              have HOWN := Lib.hid hown'
              have HB := Lib.hid ((below_al (Below.refl w6.heap.size w6) (.cells #[.int .i64 x] 3 (0, 0))).grown hgrow (by simp) (fun kk e => by cases e; exact Nat.le_refl _))
              clear hown' hgrow
              go_wp2_with fail
              go_ret2
              rw [HAT.out]
              refine ⟨_, rfl, fun p hp => ?_, hby.trans (HB.out.mono sy)⟩
              rw [← Option.some.inj hp]
              have h7 := HOWN.out
              have e7 : ([.int .i64 x] ++ r.map vI : List Value) = (x :: r).map vI := by simp [vI]
              rw [e7] at h7
              exact (ints_rowN h7 (by simp; omega)).wide (by omega) (Nat.le_refl _)
      · have HF : Hid (pathN t d (n + 1) x y = none) := Lib.hid (pathN_none (fun j hj he => HK.out j (by omega) he))
        go_wp2_with fail
        go_ret2
        rw [HF.out]
        exact ⟨_, rfl, fun p hp => (by cases hp), below_al hb _⟩

set_option maxRecDepth 20000 in
set_option maxHeartbeats 4000000 in
theorem specShortestPath_any (v : Value) (t : List Fo) (x y d : Int) (w : World) (h : RowR 4 rFo w v t) (xs : List Int) (b : Bool) (hres : spRes t x y d = (xs, b)) :
    Calls Try.prog 34 #[v, .int .i64 x, .int .i64 y, .int .i64 d] w fun e w' => ∃ v', e = .returned (.tuple #[v', .bool b]) ∧ IntsO w.heap.size w'.heap.size w' v' xs ∧ Below w.heap.size w w' := by
  have H := Lib.hid h
  have hcap := h.cap
  obtain ⟨ws, bw, hwr⟩ : ∃ xs b, wayRes t x d = (xs, b) := ⟨_, _, rfl⟩
  have HWR := Lib.hid hwr
  by_cases hn : areFo t = true ∧ hasId t x = true ∧ dayB d = true
  · obtain ⟨rfl, rfl⟩ := wayRes_yes hwr hn
    have h10 : (wayF t x d).length ≤ 10 := Nat.le_trans (wayF_len t x d) (fo_iff.1 hn.1).1
    have hyw : decide (y ∈ wayF t x d) = (lookP (pathsF t x d) y).isSome := by
      rcases hl : lookP (pathsF t x d) y with _ | p
      · refine decide_eq_false (fun q => ?_)
        have := (wayF_mem hn.1 hn.2.1 y).1 q
        rw [lookP_none.1 hl] at this; cases this
      · refine decide_eq_true ((wayF_mem hn.1 hn.2.1 y).2 ?_)
        rcases hk : hasK (pathsF t x d) y with _ | _
        · rw [lookP_none.2 hk] at hl; cases hl
        · rfl
    rcases hl : lookP (pathsF t x d) y with _ | p
    · obtain ⟨rfl, rfl⟩ := spRes_none hres hl
      rw [hl] at hyw
      have HYW : Hid (decide (y ∈ wayF t x d) = false) := Lib.hid hyw
      clear h hwr hres hn hl hyw
      go_enter Try.func34, Try.ntmps34
      go_wp2_with (first | (go_at_call 32; refine (specWaysTo_any _ t x d _ H.out _ true HWR.out).mono ?_; rintro e w4 ⟨v4, rfl, ho4, b4⟩; have HO4 := Lib.hid ho4; clear ho4) | (go_at_call 60; refine (l1Has_any _ _ y _ HO4.out.row).mono ?_; rw [HYW.out]; rintro e w5 ⟨rfl, b5⟩; have hb5 := below_chain b4 b5))
      go_ret2
      exact ⟨_, rfl, (ints_newN w5).wide hb5.size (Nat.le_refl _), below_al hb5 _⟩
    · obtain ⟨rfl, rfl⟩ := spRes_some hres hn hl
      obtain ⟨n, hn1, hn2, hn3, hn4⟩ := sp_some hn.1 hn.2.1 hl
      rw [hl] at hyw
      have HYW : Hid (decide (y ∈ wayF t x d) = true) := Lib.hid hyw
      have HN3 := Lib.hid hn3
      have HN4 := Lib.hid hn4
      clear h hwr hres hn hl hyw hn3 hn4
      go_enter Try.func34, Try.ntmps34
      go_wp2_with (first | (go_at_call 32; refine (specWaysTo_any _ t x d _ H.out _ true HWR.out).mono ?_; rintro e w4 ⟨v4, rfl, ho4, b4⟩; have HO4 := Lib.hid ho4; clear ho4) | (go_at_call 60; refine (l1Has_any _ _ y _ HO4.out.row).mono ?_; rw [HYW.out]; rintro e w5 ⟨rfl, b5⟩; have hb5 := below_chain b4 b5; have s5 := hb5.size))
      obtain ⟨a4, c4, rfl, hl4, hm4, _⟩ := HO4.out.row
      unfold maxLen at hm4
      go_loopw [12] (fun i wr => ∃ k : Nat, k ≤ n ∧ i = .int .i64 k ∧ Below w5.heap.size w5 wr) (fun i _ => n + 1 - (Go.RowKit.intOf i).toNat)
      case atStart => exact ⟨0, Nat.zero_le _, rfl, Below.refl _ _⟩
      case round =>
        obtain ⟨k, hk, rfl, hb⟩ := hrel
        have hwr := hb.size
        have hbw := hb5.trans (hb.mono s5)
        have sw := hbw.size
        have k1 : (k : Int) < ((wayF t x d).length : Int) := by omega
        by_cases hlt : k < n
        · have hnk : (pathN t d k x y).isSome = false := by rw [HN4.out k hlt]; rfl
          go_wp2_with (first | (go_at_call 67; refine (l7Path_any t y d k (by omega) _ x _ (H.out.below rFo_stable hbw)).mono ?_; rw [hnk]; rintro e w6 ⟨v6, rfl, ho6, b6⟩))
          go_roundw
          case rel => exact ⟨k + 1, by omega, by go_num, hb.trans (b6.mono hwr)⟩
          case measure => simp [Go.RowKit.intOf]; omega
        · obtain rfl : k = n := by omega
          have hnk : (pathN t d k x y).isSome = true := by rw [HN3.out]; rfl
          go_wp2_with (first | (go_at_call 67; refine (l7Path_any t y d k (by omega) _ x _ (H.out.below rFo_stable hbw)).mono ?_; rw [hnk]; rintro e w6 ⟨v6, rfl, ho6, b6⟩; have HO6 := Lib.hid (ho6 _ HN3.out); clear ho6))
          go_ret2
          exact ⟨_, rfl, HO6.out.wide sw (Nat.le_refl _), hbw.trans (b6.mono sw)⟩
  · obtain ⟨rfl, rfl⟩ := spRes_no hres hn
    obtain ⟨rfl, rfl⟩ := wayRes_no hwr hn
    clear h hwr hres hn
    go_enter Try.func34, Try.ntmps34
    go_wp2_with (first | (go_at_call 32; refine (specWaysTo_any _ t x d _ H.out _ false HWR.out).mono ?_; rintro e w4 ⟨v4, rfl, ho4, b4⟩; have HO4 := Lib.hid ho4; clear ho4))
    go_ret2
    exact ⟨_, rfl, (ints_newN w4).wide b4.size (Nat.le_refl _), below_al b4 _⟩
end Go.Proofs.Ytcfghigmijibeaa
