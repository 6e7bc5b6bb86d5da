/- The program's parseRule. -/
import Derived.Test.YtpcdjpkcalbpkaaDoorPSM
import Derived.Test.YtpcdjpkcalbpkaaDoorPair
import Derived.Deep.DeepCutAuto
import Derived.IntWalk
import Derived.Test.YtpcdjpkcalbpkaaDoorReadS
namespace Go.Proofs.YtpcdjpkcalbpkaaDoor
set_option linter.unusedVariables false
open Go.RowKit Go.Sort

theorem numV_nil : numV [] = 0 := by
  have h := num_nil
  unfold numB at h
  unfold numV
  rw [if_neg (by simpa using h)]
theorem rdR_nil : rdR [] = ⟨0, 0, 0, 0⟩ ∧ rdB [] = false := by
  have c1 : cutL ([] : List UInt8) 46 = [] := List.length_eq_zero_iff.1 (Nat.le_zero.1 (cutL_len [] 46))
  have c2 : cutR ([] : List UInt8) 46 = [] := cutR_none (by simp)
  have c3 : cutL ([] : List UInt8) 43 = [] := List.length_eq_zero_iff.1 (Nat.le_zero.1 (cutL_len [] 43))
  have c4 : cutR ([] : List UInt8) 43 = [] := cutR_none (by simp)
  unfold rdR rdB
  rw [show ([] : List UInt8).dropLast = [] from rfl, c1, c2, c3, c4, numV_nil, num_nil]
  exact ⟨rfl, rfl⟩
theorem rdR_ok (l : List UInt8) : (rdR l).ok := by
  refine ⟨numV_in _, numV_in _, numV_in _, ?_⟩
  unfold rdR actOf inI
  simp only
  repeat' split
  all_goals omega
theorem index_act (c : UInt8) : Lib.indexByte [107, 116, 100] c + 1 = actOf c := by
  unfold actOf
  by_cases h1 : c = 107
  · subst h1; rfl
  · by_cases h2 : c = 116
    · subst h2; rfl
    · by_cases h3 : c = 100
      · subst h3; rfl
      · have e1 : ((107 : UInt8) == c) = false := by simpa using fun e => h1 e.symm
        have e2 : ((116 : UInt8) == c) = false := by simpa using fun e => h2 e.symm
        have e3 : ((100 : UInt8) == c) = false := by simpa using fun e => h3 e.symm
        simp [Lib.indexByte, e1, e2, e3, h1, h2, h3]
theorem actOf_rng (c : UInt8) : -1 ≤ actOf c - 1 ∧ actOf c - 1 ≤ 2 := by
  unfold actOf
  repeat' split
  all_goals omega
theorem pre_list (s : ByteArray) (m : Nat) (h : s.size = m + 1) : (s.extract 0 m).data.toList = s.data.toList.dropLast := by
  rw [Lib.extract_data, List.dropLast_eq_take, Array.length_toList]
  show (List.take (m - 0) (List.drop 0 s.data.toList)) = List.take (s.data.size - 1) s.data.toList
  rw [show s.data.size = m + 1 from h]
  simp
theorem last_list (s : ByteArray) (m : Nat) (h : s.size = m + 1) (hm : m < s.size) : s.data.toList.getLastD 0 = s[m] := by
  have e := get_data s m hm
  have hne : s.data.toList ≠ [] := fun e0 => by rw [e0] at e; simp at e
  rw [List.getLastD_eq_getLast?, List.getLast?_eq_getElem?, Array.length_toList, show s.data.size - 1 = m by (have : s.data.size = m + 1 := h); omega, e]
  rfl

theorem le_sz {p : ByteArray} : ∀ {ss : List ByteArray}, p ∈ ss → p.size ≤ sz ss
  | q :: ss, h => by
    have e : sz (q :: ss) = q.size + sz ss := by simp [sz]
    rw [e]
    rcases List.mem_cons.1 h with rfl | h
    · omega
    · have := le_sz h; omega
theorem spAll_le {s p : ByteArray} {c : UInt8} (h : p ∈ spAll s c) : p.size ≤ s.size := by
  have h1 := le_sz h
  have h2 := sj_len (spAll s c) c (spAll_ne s c)
  rw [(spAll_sj s c).1, Array.length_toList] at h2
  have h3 : s.data.size = s.size := rfl
  have h4 := List.length_pos_iff.2 (spAll_ne s c)
  omega
set_option maxRecDepth 20000 in
set_option maxHeartbeats 1000000 in
theorem parseRule_any (s : ByteArray) (w : World) (hs : s.size ≤ 1099511627) (he : EnvR w) :
    Calls Tryd.prog 39 #[.string s] w fun e w' =>
      e = .returned (.tuple #[.agg #[.int .i64 (rdR s.data.toList).series, .int .i64 (rdR s.data.toList).event, .int .i64 (rdR s.data.toList).days, .int .i64 (rdR s.data.toList).act], .bool (rdB s.data.toList)]) ∧ Below w.heap.size w w' := by
  have HE := Lib.hid he
  have b0 := below_al (Below.refl w.heap.size w) (.cells #[.int .i64 0, .int .i64 0, .int .i64 0, .int .i64 0] 30 (0, 0))
  by_cases h0 : s.size = 0
  · have hl : s.data.toList = [] := List.length_eq_zero_iff.1 (by rw [Array.length_toList]; exact h0)
    have hs0 : s = ⟨#[]⟩ := ByteArray.ext (Array.toList_inj.1 hl)
    subst hs0
    rw [show (⟨#[]⟩ : ByteArray).data.toList = [] from rfl, rdR_nil.1, rdR_nil.2]
    clear he
    go_enter Tryd.func39, Tryd.ntmps39
    go_wp2_with fail
    refine bodyPost_ret (v := .tuple #[.agg #[.int .i64 0, .int .i64 0, .int .i64 0, .int .i64 0], .bool false]) (by simp [results, Tryd.results39, go_sem]) rfl ⟨rfl, b0⟩
  · obtain ⟨m, hm⟩ : ∃ m, s.size = m + 1 := ⟨s.size - 1, by omega⟩
    have hpl := pre_list s m hm
    have hla := last_list s m hm (by omega)
    have hne : (s.toList == ([] : List UInt8)) = false := by
      have := beq_bytes_nos (a := s) (b := ⟨#[]⟩) (fun e => h0 (by rw [e]; rfl))
      first | exact this | simpa using this
    obtain ⟨P, hP⟩ : ∃ P, s.extract 0 m = P := ⟨_, rfl⟩
    rw [hP] at hpl
    have hPs : P.size ≤ s.size := by rw [← hP, ByteArray.size_extract]; omega
    unfold rdR rdB
    simp only
    rw [← hpl, hla]
    obtain ⟨L, hL⟩ : ∃ L, cutL P.data.toList 46 = L := ⟨_, rfl⟩
    obtain ⟨R, hR⟩ : ∃ R, cutR P.data.toList 46 = R := ⟨_, rfl⟩
    have hc := fun W (hW : EnvR W) => cut_any P 46 W (by omega) hW
    have hl := cutL_len P.data.toList 46
    have hr := cutR_len P.data.toList 46
    have hsz : P.data.toList.length = P.size := Array.length_toList
    rw [hL, hR] at hc ⊢
    rw [hL] at hl
    rw [hR] at hr
    have pl : ∀ W, EnvR W → Calls Tryd.prog 56 #[.string ⟨L.toArray⟩] W fun e w' => e = .returned (.tuple #[.int .i64 (numV L), .bool (numB L)]) ∧ Below W.heap.size W w' := fun W hW => by
      have := implParse_any ⟨L.toArray⟩ W (by rw [show (⟨L.toArray⟩ : ByteArray).size = L.length from List.size_toArray]; omega) hW.1
      rwa [show (⟨L.toArray⟩ : ByteArray).data.toList = L from rfl, numAns_is] at this
    have pr : ∀ W, EnvR W → Calls Tryd.prog 57 #[.string ⟨R.toArray⟩, .string ⟨#[43]⟩] W fun e w' => e = .returned (.tuple #[.int .i64 (numV (cutL R 43)), .int .i64 (numV (cutR R 43)), .bool (numB (cutL R 43) && numB (cutR R 43))]) ∧ Below W.heap.size W w' := fun W hW =>
      parsePair_any ⟨R.toArray⟩ 43 W (by rw [show (⟨R.toArray⟩ : ByteArray).size = R.length from List.size_toArray]; omega) hW
    obtain ⟨c, hcc⟩ : ∃ c, s[m]'(by omega) = c := ⟨_, rfl⟩
    rw [hcc]
    have pi : ∀ W, Calls Tryd.prog 58 #[.string ⟨#[107, 116, 100]⟩, .int .u8 (c.toNat : Int)] W fun e w' => e = .returned (.int .i64 (actOf c - 1)) ∧ w' = W := fun W => by
      have h := Tryd.strings_IndexByte ⟨#[107, 116, 100]⟩ (c.toNat : Int) W
      have e1 := index_act c
      have e2 : (c.toNat : Int).toNat.toUInt8 = c := by simp
      rw [e2, show (⟨#[107, 116, 100]⟩ : ByteArray).data.toList = [107, 116, 100] from rfl, show Lib.indexByte [107, 116, 100] c = actOf c - 1 by omega] at h
      exact h
    have ra := actOf_rng c
    obtain ⟨A, hA⟩ : ∃ A, actOf c = A := ⟨_, rfl⟩
    rw [hA] at pi ra ⊢
    obtain ⟨ra1, ra2⟩ := ra
    have hcm : ∀ h : m < s.size, s[m] = c := fun _ => hcc
    have hm1 : (m : Int) < (s.size : Int) := by omega
    have hm2 : m < s.size := by omega
    have hm3 : (m : Int) ≤ (s.size : Int) := by omega
    have hw1 : IntKind.i64.wrap ((s.size : Int) - 1) = (m : Int) := by rw [Go.IntWalk.i64_in _ (by omega)]; omega
    have hw2 : (s.size : Int) - 1 = (m : Int) := by omega
    have HC := Lib.hid hc
    have HL := Lib.hid pl
    have HR := Lib.hid pr
    have HP := Lib.hid pi
    obtain ⟨bl, hbl⟩ : ∃ b, numB L = b := ⟨_, rfl⟩
    obtain ⟨br, hbr⟩ : ∃ b, (numB (cutL R 43) && numB (cutR R 43)) = b := ⟨_, rfl⟩
    rw [hbl] at HL ⊢
    rw [hbr] at HR ⊢
    clear hc pl pr pi he hl hr hsz hL hR hbl hbr hA hcc hla hpl hm hPs
    cases bl
    all_goals
      go_enter Tryd.func39, Tryd.ntmps39
      go_wp2_with fail
      refine (HC.out _ (HE.out.later b0)).mono ?_
      rintro e w1 ⟨rfl, b1⟩
      have z := box_kept (heap_alloc_new w _) b1
      replace b1 := below_chain b0 b1
      go_wp2_with fail
      refine (HL.out _ (HE.out.later b1)).mono ?_
      rintro e w2 ⟨rfl, b2⟩
      replace z := box_kept z b2
      replace b1 := below_chain b1 b2
      go_wp2_with fail
      refine (HR.out _ (HE.out.later b1)).mono ?_
      rintro e w3 ⟨rfl, b3⟩
      replace z := box_kept z b3
      replace b1 := below_chain b1 b3
      go_wp2_with fail
      refine (HP.out _).mono ?_
      rintro e w4 ⟨rfl, rfl⟩
      have z0 := box_cell z 0 rfl
      have y0 := blk_frozen z 0
      have z1 := box_cell z 1 rfl
      have y1 := blk_frozen z 1
      have z2 := box_cell z 2 rfl
      have y2 := blk_frozen z 2
      have z3 := box_cell z 3 rfl
      have y3 := blk_frozen z 3
      simp at z0 z1 z2 z3 y0 y1 y2 y3
      have hw3 : IntKind.i64.wrap (A - 1 + 1) = A := by rw [Go.IntWalk.i64_in _ (by omega)]; omega
      go_wp2_with fail
      refine bodyPost_ret (v := .tuple #[.agg #[.int .i64 (numV L), .int .i64 (numV (cutL R 43)), .int .i64 (numV (cutR R 43)), .int .i64 A], .bool _]) (by simp [results, Tryd.results39, go_sem, z0, z1, z2, z3]; rfl) rfl ⟨by simp, ?_⟩
      exact (((b1.setCell (by simp) _).setCell (by simp) _).setCell (by simp) _).setCell (by simp) _
end Go.Proofs.YtpcdjpkcalbpkaaDoor
