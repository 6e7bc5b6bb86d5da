/- The program's ParseInt: what it answers at every text. -/
import Derived.Test.YtpcdjpkcalbpkaaDoorTabI
import Derived.Test.YtpcdjpkcalbpkaaDoorParsePlain
import Derived.Lib.Strings
import Derived.Deep.LoopGhost
import Derived.WalkMore
namespace Go.Proofs.YtpcdjpkcalbpkaaDoor
set_option linter.unusedVariables false
open Go.RowKit

theorem trim_unsign (l : List UInt8) : Lib.trimPrefix l [45] = unsign l := by
  unfold Lib.trimPrefix unsign
  cases l with
  | nil => rfl
  | cons c l =>
    by_cases h : c = 45
    · subst h; simp [Lib.hasPrefix]
    · simp [Lib.hasPrefix, h]; intro e; exact absurd e.symm h
theorem trim_any (s : ByteArray) (w : World) : Calls Tryd.prog 68 #[.string s, .string ⟨#[45]⟩] w fun e w' => e = .returned (.string ⟨(unsign s.data.toList).toArray⟩) ∧ w = w' :=
  (Tryd.strings_TrimPrefix s ⟨#[45]⟩ w).mono fun e w' ⟨x, y⟩ => ⟨by rw [x, ← trim_unsign], y.symm⟩
theorem unsign_len (l : List UInt8) : (unsign l).length ≤ l.length := by
  unfold unsign; split
  · simp
  · exact Nat.le_refl _

theorem beq_bytes_no' {a b : ByteArray} (h : ¬ a = b) : (a.toList == b.toList) = false := by
  rw [beq_eq_false_iff_ne]
  intro e
  rw [ByteArray.toList_eq, ByteArray.toList_eq] at e
  exact h (ByteArray.ext (Array.ext' e))
theorem readN_neg {s : ByteArray} {t : List UInt8} {n : Nat} (hu : unsign s.data.toList = t) (h : t.length < s.size) (hn : n = scan t 0) : readN s.data.toList = -(n : Int) := by
  unfold readN; rw [hu, hn, if_pos (by simpa using h)]
theorem readN_pos {s : ByteArray} {t : List UInt8} {n : Nat} (hu : unsign s.data.toList = t) (h : ¬ t.length < s.size) (hn : n = scan t 0) : readN s.data.toList = (n : Int) := by
  unfold readN; rw [hu, hn, if_neg (by simpa using h)]
/-- The scan at k, from the number n. -/
theorem scan_drop (l : List UInt8) (k n : Nat) (h : k < l.length) : scan (l.drop k) n = if isD l[k] then if 999999 < n then n else scan (l.drop (k + 1)) (10 * n + (l[k].toNat - 48)) else n := by
  rw [List.drop_eq_getElem_cons h]; rfl

set_option maxHeartbeats 2000000 in
theorem implParse_any (s : ByteArray) (w : World) (hs : s.size ≤ 1099511627776) (ht : Tab w) :
    Calls Tryd.prog 56 #[.string s] w fun e w' => e = .returned (numAns s.data.toList) ∧ Below w.heap.size w w' := by
  have HT := Lib.hid ht
  have hul := unsign_len s.data.toList
  have hsl : s.data.toList.length = s.size := by simp
  rw [hsl] at hul
  obtain ⟨t, hu⟩ : ∃ t, unsign s.data.toList = t := ⟨_, rfl⟩
  have hc := trim_any s w
  rw [hu] at hul hc
  have HU := Lib.hid hu
  have HC := Lib.hid hc
  have hl0 := scan_lt t 0 (by omega)
  have HL0 := Lib.hid hl0
  clear ht hu hc hsl hl0
  go_enter Tryd.func56, Tryd.ntmps56
  go_wp2_with fail
  go_step3
  go_wp2_with fail
  refine HC.out.mono ?_
  rintro e w' ⟨rfl, rfl⟩
  go_wp2
  go_step3
  go_wp2
  go_loop [5, 14] (fun n i => ∃ k q : Nat, k ≤ t.length ∧ i = .int .i64 k ∧ n = .int .i64 q ∧ q < 10000010 ∧ Hid (scan (t.drop k) q = scan t 0)) (fun _ i => t.length - (intOf i).toNat)
  case atStart => exact ⟨0, 0, Nat.zero_le _, rfl, rfl, by omega, rfl⟩
  case round =>
    obtain ⟨k, n, hk, rfl, rfl, hq, HS⟩ := hrel
    by_cases hlt : k < t.length
    · obtain ⟨c, hcc⟩ : ∃ c, t[k] = c := ⟨_, rfl⟩
      have hsd := scan_drop t k n hlt
      rw [hcc] at hsd
      have HSD := Lib.hid hsd
      have HCC := Lib.hid hcc
      have hi : ∀ h, (⟨t.toArray⟩ : ByteArray)[k]'h = c := fun h => hcc
      have hcb := UInt8.toNat_lt c
      clear hsd hcc
      by_cases hd : isD c
      · have hd1 : ¬ (c.toNat : Int) < 48 := by unfold isD at hd; omega
        have hd2 : ¬ (57 : Int) < (c.toNat : Int) := by unfold isD at hd; omega
        by_cases hm : 999999 < n
        · have HR := Lib.hid (show n = scan t 0 by rw [← HS.out, HSD.out, if_pos hd, if_pos hm])
          have hm' : (999999 : Int) < (n : Int) := by omega
          clear hd
          by_cases hng : t.length < s.size
          · have HRN := Lib.hid (readN_neg HU.out hng HR.out)
            have hfin := fun w h => implFormat_any (-(n : Int)) w h
            by_cases hg : NumGood s.data.toList
            · have hF : fmtAns (-(n : Int)) = .tuple #[.string s, .bool true] := by
                rw [← HRN.out] at *
                rw [fmtAns_yes hg.1 hg.2.1, hg.2.2]
              rw [hF] at hfin
              have HFIN := Lib.hid hfin
              have HG := Lib.hid hg
              clear hfin hF hg
              go_wp2_with (go_at_call 69; refine (HFIN.out _ HT.out).mono ?_; rintro e w' ⟨rfl, hbf⟩)
              rw [Exit.noGoto_ret]
              go_ret2
              exact ⟨ret_val (Eq.symm (by rw [numAns_yes HG.out, HRN.out]; rfl)), hbf⟩
            · by_cases hrg : -999999 ≤ (-(n : Int) : Int) ∧ (-(n : Int) : Int) ≤ 999999
              · rw [fmtAns_yes hrg.1 hrg.2] at hfin
                obtain ⟨x, hx⟩ : ∃ x : ByteArray, (⟨(Lib.itoa (-(n : Int))).toArray⟩ : ByteArray) = x := ⟨_, rfl⟩
                have hne : ¬ x = s := fun e => hg ⟨by rw [HRN.out]; exact hrg.1, by rw [HRN.out]; exact hrg.2, by rw [HRN.out, ← e, ← hx]⟩
                have hbq := beq_bytes_no' hne
                rw [hx] at hfin
                have HFIN := Lib.hid hfin
                have HG := Lib.hid hg
                clear hfin hx hne hg hrg
                go_wp2_with (go_at_call 69; refine (HFIN.out _ HT.out).mono ?_; rintro e w' ⟨rfl, hbf⟩)
                rw [Exit.noGoto_ret]
                go_ret2
                exact ⟨ret_val (Eq.symm (numAns_no HG.out)), hbf⟩
              · rw [fmtAns_no hrg] at hfin
                have HFIN := Lib.hid hfin
                have HG := Lib.hid hg
                clear hfin hg hrg
                go_wp2_with (go_at_call 69; refine (HFIN.out _ HT.out).mono ?_; rintro e w' ⟨rfl, hbf⟩)
                rw [Exit.noGoto_ret]
                go_ret2
                exact ⟨ret_val (Eq.symm (numAns_no HG.out)), hbf⟩
          · have HRN := Lib.hid (readN_pos HU.out hng HR.out)
            have hfin := fun w h => implFormat_any ((n : Int)) w h
            by_cases hg : NumGood s.data.toList
            · have hF : fmtAns ((n : Int)) = .tuple #[.string s, .bool true] := by
                rw [← HRN.out] at *
                rw [fmtAns_yes hg.1 hg.2.1, hg.2.2]
              rw [hF] at hfin
              have HFIN := Lib.hid hfin
              have HG := Lib.hid hg
              clear hfin hF hg
              go_wp2_with (go_at_call 69; refine (HFIN.out _ HT.out).mono ?_; rintro e w' ⟨rfl, hbf⟩)
              rw [Exit.noGoto_ret]
              go_ret2
              exact ⟨ret_val (Eq.symm (by rw [numAns_yes HG.out, HRN.out]; rfl)), hbf⟩
            · by_cases hrg : -999999 ≤ ((n : Int) : Int) ∧ ((n : Int) : Int) ≤ 999999
              · rw [fmtAns_yes hrg.1 hrg.2] at hfin
                obtain ⟨x, hx⟩ : ∃ x : ByteArray, (⟨(Lib.itoa ((n : Int))).toArray⟩ : ByteArray) = x := ⟨_, rfl⟩
                have hne : ¬ x = s := fun e => hg ⟨by rw [HRN.out]; exact hrg.1, by rw [HRN.out]; exact hrg.2, by rw [HRN.out, ← e, ← hx]⟩
                have hbq := beq_bytes_no' hne
                rw [hx] at hfin
                have HFIN := Lib.hid hfin
                have HG := Lib.hid hg
                clear hfin hx hne hg hrg
                go_wp2_with (go_at_call 69; refine (HFIN.out _ HT.out).mono ?_; rintro e w' ⟨rfl, hbf⟩)
                rw [Exit.noGoto_ret]
                go_ret2
                exact ⟨ret_val (Eq.symm (numAns_no HG.out)), hbf⟩
              · rw [fmtAns_no hrg] at hfin
                have HFIN := Lib.hid hfin
                have HG := Lib.hid hg
                clear hfin hg hrg
                go_wp2_with (go_at_call 69; refine (HFIN.out _ HT.out).mono ?_; rintro e w' ⟨rfl, hbf⟩)
                rw [Exit.noGoto_ret]
                go_ret2
                exact ⟨ret_val (Eq.symm (numAns_no HG.out)), hbf⟩
        · have HN := Lib.hid (show scan (t.drop (k + 1)) (10 * n + (c.toNat - 48)) = scan t 0 by rw [← HS.out, HSD.out, if_pos hd, if_neg hm])
          have hm' : ¬ (999999 : Int) < (n : Int) := by omega
          have h48 : 48 ≤ c.toNat := by unfold isD at hd; omega
          clear hd
          go_wp2_with fail
          go_round
          case rel => exact ⟨k + 1, 10 * n + (c.toNat - 48), by omega, by go_num, by go_num, by omega, HN.out⟩
          case measure => simp [intOf]; omega
      · have HR := Lib.hid (show n = scan t 0 by rw [← HS.out, HSD.out, if_neg hd])
        by_cases hd0 : c.toNat < 48
        · have hd1 : (c.toNat : Int) < 48 := by omega
          clear hd
          by_cases hng : t.length < s.size
          · have HRN := Lib.hid (readN_neg HU.out hng HR.out)
            have hfin := fun w h => implFormat_any (-(n : Int)) w h
            by_cases hg : NumGood s.data.toList
            · have hF : fmtAns (-(n : Int)) = .tuple #[.string s, .bool true] := by
                rw [← HRN.out] at *
                rw [fmtAns_yes hg.1 hg.2.1, hg.2.2]
              rw [hF] at hfin
              have HFIN := Lib.hid hfin
              have HG := Lib.hid hg
              clear hfin hF hg
              go_wp2_with (go_at_call 69; refine (HFIN.out _ HT.out).mono ?_; rintro e w' ⟨rfl, hbf⟩)
              rw [Exit.noGoto_ret]
              go_ret2
              exact ⟨ret_val (Eq.symm (by rw [numAns_yes HG.out, HRN.out]; rfl)), hbf⟩
            · by_cases hrg : -999999 ≤ (-(n : Int) : Int) ∧ (-(n : Int) : Int) ≤ 999999
              · rw [fmtAns_yes hrg.1 hrg.2] at hfin
                obtain ⟨x, hx⟩ : ∃ x : ByteArray, (⟨(Lib.itoa (-(n : Int))).toArray⟩ : ByteArray) = x := ⟨_, rfl⟩
                have hne : ¬ x = s := fun e => hg ⟨by rw [HRN.out]; exact hrg.1, by rw [HRN.out]; exact hrg.2, by rw [HRN.out, ← e, ← hx]⟩
                have hbq := beq_bytes_no' hne
                rw [hx] at hfin
                have HFIN := Lib.hid hfin
                have HG := Lib.hid hg
                clear hfin hx hne hg hrg
                go_wp2_with (go_at_call 69; refine (HFIN.out _ HT.out).mono ?_; rintro e w' ⟨rfl, hbf⟩)
                rw [Exit.noGoto_ret]
                go_ret2
                exact ⟨ret_val (Eq.symm (numAns_no HG.out)), hbf⟩
              · rw [fmtAns_no hrg] at hfin
                have HFIN := Lib.hid hfin
                have HG := Lib.hid hg
                clear hfin hg hrg
                go_wp2_with (go_at_call 69; refine (HFIN.out _ HT.out).mono ?_; rintro e w' ⟨rfl, hbf⟩)
                rw [Exit.noGoto_ret]
                go_ret2
                exact ⟨ret_val (Eq.symm (numAns_no HG.out)), hbf⟩
          · have HRN := Lib.hid (readN_pos HU.out hng HR.out)
            have hfin := fun w h => implFormat_any ((n : Int)) w h
            by_cases hg : NumGood s.data.toList
            · have hF : fmtAns ((n : Int)) = .tuple #[.string s, .bool true] := by
                rw [← HRN.out] at *
                rw [fmtAns_yes hg.1 hg.2.1, hg.2.2]
              rw [hF] at hfin
              have HFIN := Lib.hid hfin
              have HG := Lib.hid hg
              clear hfin hF hg
              go_wp2_with (go_at_call 69; refine (HFIN.out _ HT.out).mono ?_; rintro e w' ⟨rfl, hbf⟩)
              rw [Exit.noGoto_ret]
              go_ret2
              exact ⟨ret_val (Eq.symm (by rw [numAns_yes HG.out, HRN.out]; rfl)), hbf⟩
            · by_cases hrg : -999999 ≤ ((n : Int) : Int) ∧ ((n : Int) : Int) ≤ 999999
              · rw [fmtAns_yes hrg.1 hrg.2] at hfin
                obtain ⟨x, hx⟩ : ∃ x : ByteArray, (⟨(Lib.itoa ((n : Int))).toArray⟩ : ByteArray) = x := ⟨_, rfl⟩
                have hne : ¬ x = s := fun e => hg ⟨by rw [HRN.out]; exact hrg.1, by rw [HRN.out]; exact hrg.2, by rw [HRN.out, ← e, ← hx]⟩
                have hbq := beq_bytes_no' hne
                rw [hx] at hfin
                have HFIN := Lib.hid hfin
                have HG := Lib.hid hg
                clear hfin hx hne hg hrg
                go_wp2_with (go_at_call 69; refine (HFIN.out _ HT.out).mono ?_; rintro e w' ⟨rfl, hbf⟩)
                rw [Exit.noGoto_ret]
                go_ret2
                exact ⟨ret_val (Eq.symm (numAns_no HG.out)), hbf⟩
              · rw [fmtAns_no hrg] at hfin
                have HFIN := Lib.hid hfin
                have HG := Lib.hid hg
                clear hfin hg hrg
                go_wp2_with (go_at_call 69; refine (HFIN.out _ HT.out).mono ?_; rintro e w' ⟨rfl, hbf⟩)
                rw [Exit.noGoto_ret]
                go_ret2
                exact ⟨ret_val (Eq.symm (numAns_no HG.out)), hbf⟩
        · have hd1 : ¬ (c.toNat : Int) < 48 := by omega
          have hd2 : (57 : Int) < (c.toNat : Int) := by unfold isD at hd; omega
          clear hd
          by_cases hng : t.length < s.size
          · have HRN := Lib.hid (readN_neg HU.out hng HR.out)
            have hfin := fun w h => implFormat_any (-(n : Int)) w h
            by_cases hg : NumGood s.data.toList
            · have hF : fmtAns (-(n : Int)) = .tuple #[.string s, .bool true] := by
                rw [← HRN.out] at *
                rw [fmtAns_yes hg.1 hg.2.1, hg.2.2]
              rw [hF] at hfin
              have HFIN := Lib.hid hfin
              have HG := Lib.hid hg
              clear hfin hF hg
              go_wp2_with (go_at_call 69; refine (HFIN.out _ HT.out).mono ?_; rintro e w' ⟨rfl, hbf⟩)
              rw [Exit.noGoto_ret]
              go_ret2
              exact ⟨ret_val (Eq.symm (by rw [numAns_yes HG.out, HRN.out]; rfl)), hbf⟩
            · by_cases hrg : -999999 ≤ (-(n : Int) : Int) ∧ (-(n : Int) : Int) ≤ 999999
              · rw [fmtAns_yes hrg.1 hrg.2] at hfin
                obtain ⟨x, hx⟩ : ∃ x : ByteArray, (⟨(Lib.itoa (-(n : Int))).toArray⟩ : ByteArray) = x := ⟨_, rfl⟩
                have hne : ¬ x = s := fun e => hg ⟨by rw [HRN.out]; exact hrg.1, by rw [HRN.out]; exact hrg.2, by rw [HRN.out, ← e, ← hx]⟩
                have hbq := beq_bytes_no' hne
                rw [hx] at hfin
                have HFIN := Lib.hid hfin
                have HG := Lib.hid hg
                clear hfin hx hne hg hrg
                go_wp2_with (go_at_call 69; refine (HFIN.out _ HT.out).mono ?_; rintro e w' ⟨rfl, hbf⟩)
                rw [Exit.noGoto_ret]
                go_ret2
                exact ⟨ret_val (Eq.symm (numAns_no HG.out)), hbf⟩
              · rw [fmtAns_no hrg] at hfin
                have HFIN := Lib.hid hfin
                have HG := Lib.hid hg
                clear hfin hg hrg
                go_wp2_with (go_at_call 69; refine (HFIN.out _ HT.out).mono ?_; rintro e w' ⟨rfl, hbf⟩)
                rw [Exit.noGoto_ret]
                go_ret2
                exact ⟨ret_val (Eq.symm (numAns_no HG.out)), hbf⟩
          · have HRN := Lib.hid (readN_pos HU.out hng HR.out)
            have hfin := fun w h => implFormat_any ((n : Int)) w h
            by_cases hg : NumGood s.data.toList
            · have hF : fmtAns ((n : Int)) = .tuple #[.string s, .bool true] := by
                rw [← HRN.out] at *
                rw [fmtAns_yes hg.1 hg.2.1, hg.2.2]
              rw [hF] at hfin
              have HFIN := Lib.hid hfin
              have HG := Lib.hid hg
              clear hfin hF hg
              go_wp2_with (go_at_call 69; refine (HFIN.out _ HT.out).mono ?_; rintro e w' ⟨rfl, hbf⟩)
              rw [Exit.noGoto_ret]
              go_ret2
              exact ⟨ret_val (Eq.symm (by rw [numAns_yes HG.out, HRN.out]; rfl)), hbf⟩
            · by_cases hrg : -999999 ≤ ((n : Int) : Int) ∧ ((n : Int) : Int) ≤ 999999
              · rw [fmtAns_yes hrg.1 hrg.2] at hfin
                obtain ⟨x, hx⟩ : ∃ x : ByteArray, (⟨(Lib.itoa ((n : Int))).toArray⟩ : ByteArray) = x := ⟨_, rfl⟩
                have hne : ¬ x = s := fun e => hg ⟨by rw [HRN.out]; exact hrg.1, by rw [HRN.out]; exact hrg.2, by rw [HRN.out, ← e, ← hx]⟩
                have hbq := beq_bytes_no' hne
                rw [hx] at hfin
                have HFIN := Lib.hid hfin
                have HG := Lib.hid hg
                clear hfin hx hne hg hrg
                go_wp2_with (go_at_call 69; refine (HFIN.out _ HT.out).mono ?_; rintro e w' ⟨rfl, hbf⟩)
                rw [Exit.noGoto_ret]
                go_ret2
                exact ⟨ret_val (Eq.symm (numAns_no HG.out)), hbf⟩
              · rw [fmtAns_no hrg] at hfin
                have HFIN := Lib.hid hfin
                have HG := Lib.hid hg
                clear hfin hg hrg
                go_wp2_with (go_at_call 69; refine (HFIN.out _ HT.out).mono ?_; rintro e w' ⟨rfl, hbf⟩)
                rw [Exit.noGoto_ret]
                go_ret2
                exact ⟨ret_val (Eq.symm (numAns_no HG.out)), hbf⟩
    · have HR := Lib.hid (show n = scan t 0 by have := HS.out; rw [List.drop_of_length_le (by omega)] at this; exact this)
      by_cases hng : t.length < s.size
      · have HRN := Lib.hid (readN_neg HU.out hng HR.out)
        have hfin := fun w h => implFormat_any (-(n : Int)) w h
        by_cases hg : NumGood s.data.toList
        · have hF : fmtAns (-(n : Int)) = .tuple #[.string s, .bool true] := by
            rw [← HRN.out] at *
            rw [fmtAns_yes hg.1 hg.2.1, hg.2.2]
          rw [hF] at hfin
          have HFIN := Lib.hid hfin
          have HG := Lib.hid hg
          clear hfin hF hg
          go_wp2_with (go_at_call 69; refine (HFIN.out _ HT.out).mono ?_; rintro e w' ⟨rfl, hbf⟩)
          rw [Exit.noGoto_ret]
          go_ret2
          exact ⟨ret_val (Eq.symm (by rw [numAns_yes HG.out, HRN.out]; rfl)), hbf⟩
        · by_cases hrg : -999999 ≤ (-(n : Int) : Int) ∧ (-(n : Int) : Int) ≤ 999999
          · rw [fmtAns_yes hrg.1 hrg.2] at hfin
            obtain ⟨x, hx⟩ : ∃ x : ByteArray, (⟨(Lib.itoa (-(n : Int))).toArray⟩ : ByteArray) = x := ⟨_, rfl⟩
            have hne : ¬ x = s := fun e => hg ⟨by rw [HRN.out]; exact hrg.1, by rw [HRN.out]; exact hrg.2, by rw [HRN.out, ← e, ← hx]⟩
            have hbq := beq_bytes_no' hne
            rw [hx] at hfin
            have HFIN := Lib.hid hfin
            have HG := Lib.hid hg
            clear hfin hx hne hg hrg
            go_wp2_with (go_at_call 69; refine (HFIN.out _ HT.out).mono ?_; rintro e w' ⟨rfl, hbf⟩)
            rw [Exit.noGoto_ret]
            go_ret2
            exact ⟨ret_val (Eq.symm (numAns_no HG.out)), hbf⟩
          · rw [fmtAns_no hrg] at hfin
            have HFIN := Lib.hid hfin
            have HG := Lib.hid hg
            clear hfin hg hrg
            go_wp2_with (go_at_call 69; refine (HFIN.out _ HT.out).mono ?_; rintro e w' ⟨rfl, hbf⟩)
            rw [Exit.noGoto_ret]
            go_ret2
            exact ⟨ret_val (Eq.symm (numAns_no HG.out)), hbf⟩
      · have HRN := Lib.hid (readN_pos HU.out hng HR.out)
        have hfin := fun w h => implFormat_any ((n : Int)) w h
        by_cases hg : NumGood s.data.toList
        · have hF : fmtAns ((n : Int)) = .tuple #[.string s, .bool true] := by
            rw [← HRN.out] at *
            rw [fmtAns_yes hg.1 hg.2.1, hg.2.2]
          rw [hF] at hfin
          have HFIN := Lib.hid hfin
          have HG := Lib.hid hg
          clear hfin hF hg
          go_wp2_with (go_at_call 69; refine (HFIN.out _ HT.out).mono ?_; rintro e w' ⟨rfl, hbf⟩)
          rw [Exit.noGoto_ret]
          go_ret2
          exact ⟨ret_val (Eq.symm (by rw [numAns_yes HG.out, HRN.out]; rfl)), hbf⟩
        · by_cases hrg : -999999 ≤ ((n : Int) : Int) ∧ ((n : Int) : Int) ≤ 999999
          · rw [fmtAns_yes hrg.1 hrg.2] at hfin
            obtain ⟨x, hx⟩ : ∃ x : ByteArray, (⟨(Lib.itoa ((n : Int))).toArray⟩ : ByteArray) = x := ⟨_, rfl⟩
            have hne : ¬ x = s := fun e => hg ⟨by rw [HRN.out]; exact hrg.1, by rw [HRN.out]; exact hrg.2, by rw [HRN.out, ← e, ← hx]⟩
            have hbq := beq_bytes_no' hne
            rw [hx] at hfin
            have HFIN := Lib.hid hfin
            have HG := Lib.hid hg
            clear hfin hx hne hg hrg
            go_wp2_with (go_at_call 69; refine (HFIN.out _ HT.out).mono ?_; rintro e w' ⟨rfl, hbf⟩)
            rw [Exit.noGoto_ret]
            go_ret2
            exact ⟨ret_val (Eq.symm (numAns_no HG.out)), hbf⟩
          · rw [fmtAns_no hrg] at hfin
            have HFIN := Lib.hid hfin
            have HG := Lib.hid hg
            clear hfin hg hrg
            go_wp2_with (go_at_call 69; refine (HFIN.out _ HT.out).mono ?_; rintro e w' ⟨rfl, hbf⟩)
            rw [Exit.noGoto_ret]
            go_ret2
            exact ⟨ret_val (Eq.symm (numAns_no HG.out)), hbf⟩
end Go.Proofs.YtpcdjpkcalbpkaaDoor
