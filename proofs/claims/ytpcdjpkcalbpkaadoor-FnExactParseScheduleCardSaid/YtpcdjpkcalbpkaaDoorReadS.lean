/- The model's l1Read: the number of a text. -/
import Derived.Test.YtpcdjpkcalbpkaaDoorTabI
import Derived.Test.YtpcdjpkcalbpkaaDoorParsePlain
import Derived.Test.YtpcdjpkcalbpkaaDoorStr
import Derived.Lib.Strings
namespace Go.Proofs.YtpcdjpkcalbpkaaDoor
set_option linter.unusedVariables false
open Go.RowKit

theorem beq_bytes_nos {a b : ByteArray} (h : ¬ a = b) : (a.toList == b.toList) = false := by
  rw [beq_eq_false_iff_ne]
  intro e
  rw [ByteArray.toList_eq, ByteArray.toList_eq] at e
  exact h (ByteArray.ext (Array.ext' e))
/-- A text with a sign and one letter more at least. -/
def Signed (s : ByteArray) : Prop := 1 < s.size ∧ s.data.toList.head? = some 45
theorem signed_unsign {s : ByteArray} (h : Signed s) : (s.extract 1 s.size).data.toList = unsign s.data.toList := by
  rw [Lib.extract_data]
  unfold unsign
  rw [if_pos h.2]
  have e : s.data.toList.length = s.size := by simp
  cases hl : s.data.toList with
  | nil => rw [hl] at e; simp at e; have := h.1; omega
  | cons c l =>
    rw [hl] at e
    simp only [List.drop_succ_cons, List.drop_zero, List.tail_cons]
    exact List.take_of_length_le (by simp at e; omega)
/-- The number that the model reads out of digits alone. -/
theorem good_digits {l : List UInt8} (h : NumGood l) : (∀ c ∈ unsign l, isD c) ∧ 1 ≤ (unsign l).length ∧ (unsign l).length ≤ 6 ∧ ((l.head? = some 45 ∧ 1 < l.length ∧ readN l = -(val (unsign l) : Int)) ∨ (l.head? ≠ some 45 ∧ readN l = (val (unsign l) : Int))) := by
  obtain ⟨h0, h1, h2⟩ := h
  obtain ⟨m, hm⟩ : ∃ m, readN l = m := ⟨_, rfl⟩
  rw [hm] at h0 h1 h2 ⊢
  by_cases hp : 0 ≤ m
  · obtain ⟨u, rfl⟩ := Int.eq_ofNat_of_zero_le hp
    rw [Lib.itoa_nonneg] at h2
    have hu := unsign_dec u
    have hd := dec_digits u
    have hl := dec_len 5 u (by omega)
    rw [← h2, hu.1]
    exact ⟨hd.1, hl.1, hl.2, .inr ⟨hu.2, by rw [hd.2]⟩⟩
  · obtain ⟨u, rfl⟩ : ∃ u : Nat, m = -(u : Int) := ⟨(-m).toNat, by omega⟩
    rw [Lib.itoa_neg u (by omega)] at h2
    have hu : unsign (45 :: Lib.decDigits u) = Lib.decDigits u := by unfold unsign; simp
    have hd := dec_digits u
    have hl := dec_len 5 u (by omega)
    rw [← h2, hu]
    refine ⟨hd.1, hl.1, hl.2, .inl ⟨rfl, by simp; omega, by rw [hd.2]⟩⟩

theorem head_get (s : ByteArray) (h : 0 < s.size) : s.data.toList.head? = some s[0] := by
  rw [List.head?_eq_getElem?, List.getElem?_eq_getElem (by simpa using h)]
  rfl
theorem signed_first {s : ByteArray} (h : Signed s) : ∀ h0 : 0 < s.size, ((s[0].toNat : Int) == 45) = true := fun h0 => by
  have := h.2
  rw [head_get s h0] at this
  rw [Option.some.inj this]; rfl
theorem plain_first {s : ByteArray} (h1 : 1 < s.size) (h : ¬ Signed s) : ∀ h0 : 0 < s.size, ((s[0].toNat : Int) == 45) = false := fun h0 => by
  rw [beq_eq_false_iff_ne]
  intro e
  refine h ⟨h1, ?_⟩
  rw [head_get s h0]
  exact congrArg some (UInt8.toNat_inj.1 (by show s[0].toNat = 45; omega))

set_option maxHeartbeats 2000000 in
theorem specRead_signed (s tb : ByteArray) (w : World) (hs : s.size ≤ 1099511627776) (hsg : Signed s) (hext : s.extract 1 s.size = tb) (hsz : tb.size + 1 = s.size) :
    Calls Tryd.prog 52 #[.string s] w fun e w' => e = .returned (numAns s.data.toList) ∧ Below w.heap.size w w' := by
  have hgd : NumGood s.data.toList → (∀ c ∈ tb.data.toList, isD c) ∧ 1 ≤ tb.size ∧ tb.size ≤ 6 ∧ readN s.data.toList = -(val tb.data.toList : Int) := fun g => by
    obtain ⟨h1, h2, h3, h4⟩ := good_digits g
    have e : tb.data.toList = unsign s.data.toList := by rw [← hext]; exact signed_unsign hsg
    have e2 : tb.data.toList.length = tb.size := by simp
    rw [← e] at h1 h2 h3 h4
    rcases h4 with ⟨_, _, h4⟩ | ⟨h5, _⟩
    · exact ⟨h1, by omega, by omega, h4⟩
    · exact absurd hsg.2 h5
  have HGD := Lib.hid hgd
  clear hgd
  have hts : tb.data.toList.length = tb.size := by simp
  have HTS := Lib.hid hts
  clear hts
  by_cases hlen : 1 ≤ tb.size ∧ tb.size ≤ 6
  · obtain ⟨hl1, hl6⟩ := hlen
    have h1 : (1 : Int) < (s.size : Int) := by have := hsg.1; omega
    have h45 := signed_first hsg
    have HSG := Lib.hid hsg
    clear hsg
    go_enter Tryd.func52, Tryd.ntmps52
    go_wp2_with (go_at_call 40; refine (in_any _ _ _ _ true (by simp; omega)).mono ?_; rintro e w' ⟨rfl, rfl⟩)
    go_loop [5, 6] (fun n i => ∃ k q : Nat, k ≤ tb.size ∧ i = .int .i64 k ∧ n = .int .i64 q ∧ q < 1000000 ∧ Hid (q = val (tb.data.toList.take k) ∧ ∀ c ∈ tb.data.toList.take k, isD c)) (fun _ i => tb.size - (intOf i).toNat)
    case atStart => exact ⟨0, 0, Nat.zero_le _, rfl, rfl, by omega, ⟨rfl, fun c h => by simp at h⟩⟩
    case round =>
      obtain ⟨k, n, hk, rfl, rfl, hq, HS⟩ := hrel
      by_cases hlt : k < tb.size
      · have hcb := UInt8.toNat_lt tb[k]
        have htk := take_snoc tb k hlt
        have HTK := Lib.hid htk
        clear htk
        by_cases hd : isD tb[k]
        · have hd1 : ¬ (tb[k].toNat : Int) < 48 := by unfold isD at hd; omega
          have hd2 : ¬ (57 : Int) < (tb[k].toNat : Int) := by unfold isD at hd; omega
          have h48 : 48 ≤ tb[k].toNat := hd.1
          have hnew : 10 * n + (tb[k].toNat - 48) = val (tb.data.toList.take (k + 1)) ∧ ∀ c ∈ tb.data.toList.take (k + 1), isD c := by
            rw [HTK.out, val_snoc, ← HS.out.1]
            refine ⟨rfl, fun c hc => ?_⟩
            rcases List.mem_append.1 hc with h | h
            · exact HS.out.2 c h
            · rw [List.mem_singleton.1 h]; exact hd
          have hbd : 10 * n + (tb[k].toNat - 48) < 1000000 := by
            have h1 := val_lt _ hnew.2
            rw [← hnew.1, List.length_take, HTS.out] at h1
            have h2 : 10 ^ (min (k + 1) tb.size) ≤ 10 ^ 6 := Nat.pow_le_pow_right (by omega) (by omega)
            omega
          have HNEW := Lib.hid hnew
          clear hnew hd
          go_wp2_with fail
          go_round
          case rel => exact ⟨k + 1, 10 * n + (tb[k].toNat - 48), by omega, by go_num, by go_num, hbd, HNEW.out⟩
          case measure => simp [intOf]; omega
        · have hno : ¬ NumGood s.data.toList := fun g => hd ((HGD.out g).1 _ (List.mem_of_getElem? (i := k) (by rw [List.getElem?_eq_getElem (by rw [HTS.out]; exact hlt)]; rfl)))
          have HNO := Lib.hid hno
          by_cases hd0 : tb[k].toNat < 48
          · have hd1 : (tb[k].toNat : Int) < 48 := by omega
            clear hd hno
            go_wp2_with fail
            go_ret2
            exact ⟨ret_val (Eq.symm (numAns_no HNO.out)), Below.refl _ _⟩
          · have hd1 : ¬ (tb[k].toNat : Int) < 48 := by omega
            have hd2 : (57 : Int) < (tb[k].toNat : Int) := by unfold isD at hd; omega
            clear hd hno
            go_wp2_with fail
            go_ret2
            exact ⟨ret_val (Eq.symm (numAns_no HNO.out)), Below.refl _ _⟩
      · have hv : n = val tb.data.toList := by
          have := HS.out.1
          rwa [List.take_of_length_le (by rw [HTS.out]; omega)] at this
        have HV := Lib.hid hv
        have hnum := fun w => num_any (-(n : Int)) w (by omega) (by omega)
        obtain ⟨x, hx0⟩ : ∃ x : ByteArray, (⟨(Lib.itoa (-(n : Int))).toArray⟩ : ByteArray) = x := ⟨_, rfl⟩
        rw [hx0] at hnum
        have HNUM := Lib.hid hnum
        clear hv hnum
        by_cases he : x = s
        · have hit : Lib.itoa (-(n : Int)) = s.data.toList := by rw [← he, ← hx0]
          have hg := numGood_of (by omega) (by omega) hit
          have HG := Lib.hid hg
          subst he
          clear hx0 hit hg
          go_wp2_with (go_at_call 47; refine (HNUM.out _).mono ?_; rintro e w' ⟨rfl, kk, rfl⟩)
          go_ret2
          exact ⟨ret_val (Eq.symm (by rw [numAns_yes HG.out.1, HG.out.2]; rfl)), below_drewN (Below.refl _ _) _⟩
        · have hno : ¬ NumGood s.data.toList := fun g => he (by
            have h1 := (HGD.out g).2.2.2
            rw [← HV.out] at h1
            have h2 := g.2.2
            rw [h1] at h2
            rw [← hx0, h2])
          have HNO := Lib.hid hno
          have hbq := beq_bytes_nos he
          clear hx0 hno he
          go_wp2_with (go_at_call 47; refine (HNUM.out _).mono ?_; rintro e w' ⟨rfl, kk, rfl⟩)
          go_ret2
          exact ⟨ret_val (Eq.symm (numAns_no HNO.out)), below_drewN (Below.refl _ _) _⟩
  · have hno : ¬ NumGood s.data.toList := fun g => hlen ⟨(HGD.out g).2.1, (HGD.out g).2.2.1⟩
    have HNO := Lib.hid hno
    have HLEN := Lib.hid hlen
    clear hno hlen
    have h1 : (1 : Int) < (s.size : Int) := by have := hsg.1; omega
    have h45 := signed_first hsg
    have HSG := Lib.hid hsg
    clear hsg
    go_enter Tryd.func52, Tryd.ntmps52
    go_wp2_with (go_at_call 40; refine (in_any _ _ _ _ false (decide_eq_false (fun h => HLEN.out ⟨by omega, by omega⟩))).mono ?_; rintro e w' ⟨rfl, rfl⟩)
    go_ret2
    exact ⟨ret_val (Eq.symm (numAns_no HNO.out)), Below.refl _ _⟩

set_option maxHeartbeats 2000000 in
theorem specRead_short (s : ByteArray) (w : World) (hs : s.size ≤ 1099511627776) (hsg : ¬ Signed s) (hsz : s.size ≤ 1) :
    Calls Tryd.prog 52 #[.string s] w fun e w' => e = .returned (numAns s.data.toList) ∧ Below w.heap.size w w' := by
  have hgd : NumGood s.data.toList → (∀ c ∈ s.data.toList, isD c) ∧ 1 ≤ s.size ∧ s.size ≤ 6 ∧ readN s.data.toList = (val s.data.toList : Int) := fun g => by
    obtain ⟨h1, h2, h3, h4⟩ := good_digits g
    have e2 : s.data.toList.length = s.size := by simp
    rcases h4 with ⟨h5, h6, _⟩ | ⟨h5, h4⟩
    · exact absurd ⟨by omega, h5⟩ hsg
    · have e : unsign s.data.toList = s.data.toList := by unfold unsign; rw [if_neg h5]
      rw [e] at h1 h2 h3 h4
      exact ⟨h1, by omega, by omega, h4⟩
  have HGD := Lib.hid hgd
  clear hgd
  have hts : s.data.toList.length = s.size := by simp
  have HTS := Lib.hid hts
  clear hts
  by_cases hlen : 1 ≤ s.size ∧ s.size ≤ 6
  · obtain ⟨hl1, hl6⟩ := hlen
    clear hsg
    go_enter Tryd.func52, Tryd.ntmps52
    go_wp2_with (go_at_call 40; refine (in_any _ _ _ _ true (by simp; omega)).mono ?_; rintro e w' ⟨rfl, rfl⟩)
    go_loop [5, 6] (fun n i => ∃ k q : Nat, k ≤ s.size ∧ i = .int .i64 k ∧ n = .int .i64 q ∧ q < 1000000 ∧ Hid (q = val (s.data.toList.take k) ∧ ∀ c ∈ s.data.toList.take k, isD c)) (fun _ i => s.size - (intOf i).toNat)
    case atStart => exact ⟨0, 0, Nat.zero_le _, rfl, rfl, by omega, ⟨rfl, fun c h => by simp at h⟩⟩
    case round =>
      obtain ⟨k, n, hk, rfl, rfl, hq, HS⟩ := hrel
      by_cases hlt : k < s.size
      · have hcb := UInt8.toNat_lt s[k]
        have htk := take_snoc s k hlt
        have HTK := Lib.hid htk
        clear htk
        by_cases hd : isD s[k]
        · have hd1 : ¬ (s[k].toNat : Int) < 48 := by unfold isD at hd; omega
          have hd2 : ¬ (57 : Int) < (s[k].toNat : Int) := by unfold isD at hd; omega
          have h48 : 48 ≤ s[k].toNat := hd.1
          have hnew : 10 * n + (s[k].toNat - 48) = val (s.data.toList.take (k + 1)) ∧ ∀ c ∈ s.data.toList.take (k + 1), isD c := by
            rw [HTK.out, val_snoc, ← HS.out.1]
            refine ⟨rfl, fun c hc => ?_⟩
            rcases List.mem_append.1 hc with h | h
            · exact HS.out.2 c h
            · rw [List.mem_singleton.1 h]; exact hd
          have hbd : 10 * n + (s[k].toNat - 48) < 1000000 := by
            have h1 := val_lt _ hnew.2
            rw [← hnew.1, List.length_take, HTS.out] at h1
            have h2 : 10 ^ (min (k + 1) s.size) ≤ 10 ^ 6 := Nat.pow_le_pow_right (by omega) (by omega)
            omega
          have HNEW := Lib.hid hnew
          clear hnew hd
          go_wp2_with fail
          go_round
          case rel => exact ⟨k + 1, 10 * n + (s[k].toNat - 48), by omega, by go_num, by go_num, hbd, HNEW.out⟩
          case measure => simp [intOf]; omega
        · have hno : ¬ NumGood s.data.toList := fun g => hd ((HGD.out g).1 _ (List.mem_of_getElem? (i := k) (by rw [List.getElem?_eq_getElem (by rw [HTS.out]; exact hlt)]; rfl)))
          have HNO := Lib.hid hno
          by_cases hd0 : s[k].toNat < 48
          · have hd1 : (s[k].toNat : Int) < 48 := by omega
            clear hd hno
            go_wp2_with fail
            go_ret2
            exact ⟨ret_val (Eq.symm (numAns_no HNO.out)), Below.refl _ _⟩
          · have hd1 : ¬ (s[k].toNat : Int) < 48 := by omega
            have hd2 : (57 : Int) < (s[k].toNat : Int) := by unfold isD at hd; omega
            clear hd hno
            go_wp2_with fail
            go_ret2
            exact ⟨ret_val (Eq.symm (numAns_no HNO.out)), Below.refl _ _⟩
      · have hv : n = val s.data.toList := by
          have := HS.out.1
          rwa [List.take_of_length_le (by rw [HTS.out]; omega)] at this
        have HV := Lib.hid hv
        have hnum := fun w => num_any ((n : Int)) w (by omega) (by omega)
        obtain ⟨x, hx0⟩ : ∃ x : ByteArray, (⟨(Lib.itoa ((n : Int))).toArray⟩ : ByteArray) = x := ⟨_, rfl⟩
        rw [hx0] at hnum
        have HNUM := Lib.hid hnum
        clear hv hnum
        by_cases he : x = s
        · have hit : Lib.itoa ((n : Int)) = s.data.toList := by rw [← he, ← hx0]
          have hg := numGood_of (by omega) (by omega) hit
          have HG := Lib.hid hg
          subst he
          clear hx0 hit hg
          go_wp2_with (go_at_call 47; refine (HNUM.out _).mono ?_; rintro e w' ⟨rfl, kk, rfl⟩)
          go_ret2
          exact ⟨ret_val (Eq.symm (by rw [numAns_yes HG.out.1, HG.out.2]; rfl)), below_drewN (Below.refl _ _) _⟩
        · have hno : ¬ NumGood s.data.toList := fun g => he (by
            have h1 := (HGD.out g).2.2.2
            rw [← HV.out] at h1
            have h2 := g.2.2
            rw [h1] at h2
            rw [← hx0, h2])
          have HNO := Lib.hid hno
          have hbq := beq_bytes_nos he
          clear hx0 hno he
          go_wp2_with (go_at_call 47; refine (HNUM.out _).mono ?_; rintro e w' ⟨rfl, kk, rfl⟩)
          go_ret2
          exact ⟨ret_val (Eq.symm (numAns_no HNO.out)), below_drewN (Below.refl _ _) _⟩
  · have hno : ¬ NumGood s.data.toList := fun g => hlen ⟨(HGD.out g).2.1, (HGD.out g).2.2.1⟩
    have HNO := Lib.hid hno
    have HLEN := Lib.hid hlen
    clear hno hlen
    clear hsg
    go_enter Tryd.func52, Tryd.ntmps52
    go_wp2_with (go_at_call 40; refine (in_any _ _ _ _ false (decide_eq_false (fun h => HLEN.out ⟨by omega, by omega⟩))).mono ?_; rintro e w' ⟨rfl, rfl⟩)
    go_ret2
    exact ⟨ret_val (Eq.symm (numAns_no HNO.out)), Below.refl _ _⟩

set_option maxHeartbeats 2000000 in
theorem specRead_plain (s : ByteArray) (w : World) (hs : s.size ≤ 1099511627776) (hsg : ¬ Signed s) (hsz : 1 < s.size) :
    Calls Tryd.prog 52 #[.string s] w fun e w' => e = .returned (numAns s.data.toList) ∧ Below w.heap.size w w' := by
  have hgd : NumGood s.data.toList → (∀ c ∈ s.data.toList, isD c) ∧ 1 ≤ s.size ∧ s.size ≤ 6 ∧ readN s.data.toList = (val s.data.toList : Int) := fun g => by
    obtain ⟨h1, h2, h3, h4⟩ := good_digits g
    have e2 : s.data.toList.length = s.size := by simp
    rcases h4 with ⟨h5, h6, _⟩ | ⟨h5, h4⟩
    · exact absurd ⟨by omega, h5⟩ hsg
    · have e : unsign s.data.toList = s.data.toList := by unfold unsign; rw [if_neg h5]
      rw [e] at h1 h2 h3 h4
      exact ⟨h1, by omega, by omega, h4⟩
  have HGD := Lib.hid hgd
  clear hgd
  have hts : s.data.toList.length = s.size := by simp
  have HTS := Lib.hid hts
  clear hts
  by_cases hlen : 1 ≤ s.size ∧ s.size ≤ 6
  · obtain ⟨hl1, hl6⟩ := hlen
    have h1 : (1 : Int) < (s.size : Int) := by omega
    have h45 := plain_first hsz hsg
    clear hsg
    go_enter Tryd.func52, Tryd.ntmps52
    go_wp2_with (go_at_call 40; refine (in_any _ _ _ _ true (by simp; omega)).mono ?_; rintro e w' ⟨rfl, rfl⟩)
    go_loop [5, 6] (fun n i => ∃ k q : Nat, k ≤ s.size ∧ i = .int .i64 k ∧ n = .int .i64 q ∧ q < 1000000 ∧ Hid (q = val (s.data.toList.take k) ∧ ∀ c ∈ s.data.toList.take k, isD c)) (fun _ i => s.size - (intOf i).toNat)
    case atStart => exact ⟨0, 0, Nat.zero_le _, rfl, rfl, by omega, ⟨rfl, fun c h => by simp at h⟩⟩
    case round =>
      obtain ⟨k, n, hk, rfl, rfl, hq, HS⟩ := hrel
      by_cases hlt : k < s.size
      · have hcb := UInt8.toNat_lt s[k]
        have htk := take_snoc s k hlt
        have HTK := Lib.hid htk
        clear htk
        by_cases hd : isD s[k]
        · have hd1 : ¬ (s[k].toNat : Int) < 48 := by unfold isD at hd; omega
          have hd2 : ¬ (57 : Int) < (s[k].toNat : Int) := by unfold isD at hd; omega
          have h48 : 48 ≤ s[k].toNat := hd.1
          have hnew : 10 * n + (s[k].toNat - 48) = val (s.data.toList.take (k + 1)) ∧ ∀ c ∈ s.data.toList.take (k + 1), isD c := by
            rw [HTK.out, val_snoc, ← HS.out.1]
            refine ⟨rfl, fun c hc => ?_⟩
            rcases List.mem_append.1 hc with h | h
            · exact HS.out.2 c h
            · rw [List.mem_singleton.1 h]; exact hd
          have hbd : 10 * n + (s[k].toNat - 48) < 1000000 := by
            have h1 := val_lt _ hnew.2
            rw [← hnew.1, List.length_take, HTS.out] at h1
            have h2 : 10 ^ (min (k + 1) s.size) ≤ 10 ^ 6 := Nat.pow_le_pow_right (by omega) (by omega)
            omega
          have HNEW := Lib.hid hnew
          clear hnew hd
          go_wp2_with fail
          go_round
          case rel => exact ⟨k + 1, 10 * n + (s[k].toNat - 48), by omega, by go_num, by go_num, hbd, HNEW.out⟩
          case measure => simp [intOf]; omega
        · have hno : ¬ NumGood s.data.toList := fun g => hd ((HGD.out g).1 _ (List.mem_of_getElem? (i := k) (by rw [List.getElem?_eq_getElem (by rw [HTS.out]; exact hlt)]; rfl)))
          have HNO := Lib.hid hno
          by_cases hd0 : s[k].toNat < 48
          · have hd1 : (s[k].toNat : Int) < 48 := by omega
            clear hd hno
            go_wp2_with fail
            go_ret2
            exact ⟨ret_val (Eq.symm (numAns_no HNO.out)), Below.refl _ _⟩
          · have hd1 : ¬ (s[k].toNat : Int) < 48 := by omega
            have hd2 : (57 : Int) < (s[k].toNat : Int) := by unfold isD at hd; omega
            clear hd hno
            go_wp2_with fail
            go_ret2
            exact ⟨ret_val (Eq.symm (numAns_no HNO.out)), Below.refl _ _⟩
      · have hv : n = val s.data.toList := by
          have := HS.out.1
          rwa [List.take_of_length_le (by rw [HTS.out]; omega)] at this
        have HV := Lib.hid hv
        have hnum := fun w => num_any ((n : Int)) w (by omega) (by omega)
        obtain ⟨x, hx0⟩ : ∃ x : ByteArray, (⟨(Lib.itoa ((n : Int))).toArray⟩ : ByteArray) = x := ⟨_, rfl⟩
        rw [hx0] at hnum
        have HNUM := Lib.hid hnum
        clear hv hnum
        by_cases he : x = s
        · have hit : Lib.itoa ((n : Int)) = s.data.toList := by rw [← he, ← hx0]
          have hg := numGood_of (by omega) (by omega) hit
          have HG := Lib.hid hg
          subst he
          clear hx0 hit hg
          go_wp2_with (go_at_call 47; refine (HNUM.out _).mono ?_; rintro e w' ⟨rfl, kk, rfl⟩)
          go_ret2
          exact ⟨ret_val (Eq.symm (by rw [numAns_yes HG.out.1, HG.out.2]; rfl)), below_drewN (Below.refl _ _) _⟩
        · have hno : ¬ NumGood s.data.toList := fun g => he (by
            have h1 := (HGD.out g).2.2.2
            rw [← HV.out] at h1
            have h2 := g.2.2
            rw [h1] at h2
            rw [← hx0, h2])
          have HNO := Lib.hid hno
          have hbq := beq_bytes_nos he
          clear hx0 hno he
          go_wp2_with (go_at_call 47; refine (HNUM.out _).mono ?_; rintro e w' ⟨rfl, kk, rfl⟩)
          go_ret2
          exact ⟨ret_val (Eq.symm (numAns_no HNO.out)), below_drewN (Below.refl _ _) _⟩
  · have hno : ¬ NumGood s.data.toList := fun g => hlen ⟨(HGD.out g).2.1, (HGD.out g).2.2.1⟩
    have HNO := Lib.hid hno
    have HLEN := Lib.hid hlen
    clear hno hlen
    have h1 : (1 : Int) < (s.size : Int) := by omega
    have h45 := plain_first hsz hsg
    clear hsg
    go_enter Tryd.func52, Tryd.ntmps52
    go_wp2_with (go_at_call 40; refine (in_any _ _ _ _ false (decide_eq_false (fun h => HLEN.out ⟨by omega, by omega⟩))).mono ?_; rintro e w' ⟨rfl, rfl⟩)
    go_ret2
    exact ⟨ret_val (Eq.symm (numAns_no HNO.out)), Below.refl _ _⟩

theorem specRead_any (s : ByteArray) (w : World) (hs : s.size ≤ 1099511627776) :
    Calls Tryd.prog 52 #[.string s] w fun e w' => e = .returned (numAns s.data.toList) ∧ Below w.heap.size w w' := by
  by_cases hsg : Signed s
  · refine specRead_signed s (s.extract 1 s.size) w hs hsg rfl ?_
    have := hsg.1
    simp; omega
  · by_cases hsz : s.size ≤ 1
    · exact specRead_short s w hs hsg hsz
    · exact specRead_plain s w hs hsg (by omega)
end Go.Proofs.YtpcdjpkcalbpkaaDoor
