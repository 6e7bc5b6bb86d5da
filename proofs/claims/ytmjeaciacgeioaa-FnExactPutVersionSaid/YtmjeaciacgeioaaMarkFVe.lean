/- The laws' own marks of a list of Version: what is written, and that it is found again. -/
import Derived.Test.YtmjeaciacgeioaaMarkVe
namespace Go.Proofs.Ytmjeaciacgeioaa
set_option linter.unusedVariables false
open Go.RowKit

/-- The marks of one that begins at number n, with a list of len numbers. -/
def mVe (n len : Nat) : Ve := ⟨(n : Int), mRus (n + 1) len⟩
/-- Where the i-th one's marks begin. -/
def atVe (k0 : Nat) (xs : List Ve) (i : Nat) : Nat := k0 + i * 1 + msVe (xs.take i)
def mVes (k0 : Nat) (xs : List Ve) : List Ve := (List.range xs.length).map (fun i => mVe (atVe k0 xs i) ((xs[i]?.map (fun x => x.rules.length)).getD 0))
theorem mVes_len (k0 : Nat) (xs : List Ve) : (mVes k0 xs).length = xs.length := by simp [mVes]
theorem mVes_at (k0 : Nat) (xs : List Ve) (i : Nat) (h : i < xs.length) (h' : i < (mVes k0 xs).length) : (mVes k0 xs)[i] = mVe (atVe k0 xs i) xs[i].rules.length := by
  simp [mVes, h]
theorem atVe_le (k0 : Nat) (xs : List Ve) (i : Nat) (h : i < xs.length) : atVe k0 xs i + 1 + xs[i].rules.length * 4 ≤ k0 + xs.length * 1 + msVe xs := by
  have h1 := msVe_take_succ xs i h
  have h2 := msVe_take_le xs (i + 1)
  unfold atVe
  omega
theorem mVe_ok (n len : Nat) (h : n + 1 + len * 4 ≤ 1099511627776) : (mVe n len).ok := by
  simp only [Ve.ok, mVe, inI]
  omega

set_option maxHeartbeats 2000000 in
theorem markVeS_any (v : Value) (rs : List Ve) (lo hi k0 : Nat) (w : World) (hk0 : 1 ≤ k0) (hk1 : k0 + rs.length * 1 + msVe rs ≤ 1099511627776) (h : VesO lo hi w v rs) :
    Calls Try.prog 42 #[v, .int .i64 k0] w fun e w' => ∃ n : Nat, e = .returned (.int .i64 n) ∧ n = k0 + rs.length * 1 + msVe rs ∧ VesO lo hi w' v (mVes k0 rs) ∧ Only lo hi w w' := by
  obtain ⟨css, f, hl, ho, hu, hlo, hm, hhi, he⟩ := h
  rcases ho.form with ⟨rfl, h0⟩ | ⟨g, cap, hv, hg, hgl, hn, hmx⟩
  · have hx : rs = [] := by rw [h0] at hl; exact List.length_eq_zero_iff.1 hl.symm
    subst hx
    subst h0
    have HNIL := Lib.hid ho
    have HB : Hid (lo ≤ f 0 ∧ f ([] : List Ve).length ≤ hi) := Lib.hid ⟨hlo, hhi⟩
    clear ho he hl hu hlo hm hhi
    go_enter Try.func42, Try.ntmps42
    go_wp2
    refine wp_loop_rounds 1 ?_
    rw [rounds_succ]
    go_wp2
    go_ret
    exact ⟨k0, rfl, by simp [msVe], ⟨[], f, rfl, HNIL.out, Under.nil _ _ _, HB.out.1, fun i h => absurd h (by rw [mVes_len]; exact Nat.not_lt_zero _), HB.out.2, fun i h1 h2 => by simp at h1⟩, Only.refl _ _ _⟩
  · rw [hl] at hv hn
    subst hv
    unfold maxLen at hmx
    have hg0 : g < f 0 := hu g rfl
    have HM := Lib.hid hm
    have HL := Lib.hid hl
    have HO0 := Lib.hid ho
    have HE := Lib.hid he
    have HF := Lib.hid (And.intro hlo hhi)
    have HU := Lib.hid hu
    clear ho he hm hl hlo hhi hu
    go_enter Try.func42, Try.ntmps42
    go_wp2
    go_loopw [1, 5] (fun q i wr => ∃ (k n : Nat) (cs : List (List Value)), k ≤ rs.length ∧ i = .int .i64 k ∧ q = .int .i64 n ∧ Hid (n = k0 + k * 1 + msVe (rs.take k)) ∧ n ≤ 1099511627776 ∧
        Own lo 27 2 wr (.slice (some ⟨g, 0, none⟩) rs.length cap) cs ∧ Hid (cs.length = rs.length ∧ ∀ i (h1 : i < cs.length) (h2 : i < rs.length), k ≤ i → ∃ s, cs[i] = veC rs[i] s ∧ RusO (f i) (f (i + 1)) wr s rs[i].rules) ∧ Hid (∀ i (h1 : i < cs.length) (h2 : i < rs.length), i < k → ∃ s, cs[i] = veC (mVe (atVe k0 rs i) rs[i].rules.length) s ∧ RusO (f i) (f (i + 1)) wr s (mRus (atVe k0 rs i + 1) rs[i].rules.length)) ∧ Only lo hi w wr) (fun _ i _ => rs.length - (intOf i).toNat)
    case atStart => exact ⟨0, k0, css, Nat.zero_le _, rfl, rfl, Lib.hid (by simp [msVe]), by omega, HO0.out, Lib.hid ⟨HL.out, fun i h1 h2 _ => by obtain ⟨s, e1, e2, _⟩ := HE.out i h1 h2; exact ⟨s, e1, e2⟩⟩, Lib.hid (fun i h1 h2 h3 => absurd h3 (Nat.not_lt_zero _)), Only.refl _ _ _⟩
    case round =>
      obtain ⟨k, n, cs, hk, rfl, rfl, HN, hnb, hO, I, D, hOn⟩ := hrel
      have HO := Lib.hid hO
      by_cases hlt : k < rs.length
      · obtain ⟨r, hx⟩ : ∃ r, rs[k] = r := ⟨_, rfl⟩
        obtain ⟨s, e1, e2⟩ := I.out.2 k (by rw [I.out.1]; exact hlt) hlt (Nat.le_refl _)
        obtain ⟨sa, sn, sc, rfl⟩ := e2.slice
        rw [hx] at e1 e2
        simp only [veC] at e1
        have hkc : k < cs.length := by rw [I.out.1]; exact hlt
        have HKC := Lib.hid hkc
        have HX := Lib.hid hx
        have E2 := Lib.hid e2
        have HI : Hid (Own lo 27 2 wr (.slice (some ⟨g, 0, none⟩) rs.length cap) cs ∧ ∃ h : k < cs.length, cs[k] = [.int .i64 r.frm, .slice sa sn sc]) := ⟨HO.out, hkc, e1⟩
        have HON : Hid (Only g (g + 1) wr wr) := Lib.hid (Only.refl _ _ _)
        have g0 : (0 : Int) ≤ (k : Int) := by omega
        have g1 : (k : Int) < (rs.length : Int) := by omega
        have hszk := msVe_take_succ rs k hlt
        have hszl := msVe_take_le rs (k + 1)
        rw [hx] at hszk
        have hnn : n + 1 + r.rules.length * 4 ≤ 1099511627776 := by have := HN.out; omega
        have HSZ := Lib.hid hszk
        have c0 := HI.out.1.cell k 0 HI.out.2.1 (by omega)
        have c1 := HI.out.1.cell k 1 HI.out.2.1 (by omega)
        rw [HI.out.2.2] at c0 c1
        simp at c0 c1
        have fr0 := HI.out.1.frozen (k * 2)
        have fr1 := HI.out.1.frozen (k * 2 + 1)
        clear hO e1 e2 hx hszk hszl hkc HO
        go_wp2_with fail
        obtain ⟨p1, p2⟩ := Own.puts [.int .i64 ((n : Int))] _ _ k 0 HI.out.2.1 (by simp) HI.out.1
        rw [HI.out.2.2] at p1
        simp only [setFrom, List.set_cons_zero, Nat.add_zero] at p1 p2
        replace HI : Hid (Own lo 27 2 _ (.slice (some ⟨g, 0, none⟩) rs.length cap) (cs.set k [.int .i64 ((n : Int)), .slice sa sn sc]) ∧ ∃ h : k < (cs.set k [.int .i64 ((n : Int)), .slice sa sn sc]).length, (cs.set k [.int .i64 ((n : Int)), .slice sa sn sc])[k] = [.int .i64 ((n : Int)), .slice sa sn sc]) := ⟨p1, by simpa using HKC.out, by rw [List.getElem_set_self]⟩
        replace HON := Lib.hid (HON.out.trans (Only.of_grown (lo := g) (hi := g + 1) (v := .slice (some ⟨g, 0, none⟩) rs.length cap) p2 (fun g' hg' => by simp [Value.ownBlock] at hg'; omega) (fun g' hg' => by simp [Value.ownBlock] at hg'; omega)))
        clear p1 p2
        have hon := HON.out
        have hmk : ∀ i, i ≤ rs.length → g + 1 ≤ f i := fun i hi => Nat.le_trans hg0 (mono_up HM.out 0 i (Nat.zero_le _) hi)
        have hev := E2.out.only hon (hmk k (by omega))
        (first | rw [show (n : Int) + 1 = ((n + 1 : Nat) : Int) by omega] | rw [show (n : Int) + 1 = ((n + 1 : Nat) : Int) by omega])
        refine (markRuS_any _ r.rules (f k) (f (k + 1)) (n + 1) _ (by omega) (by omega) hev).mono ?_
        rintro e w2 ⟨rfl, hmi, hon2⟩
        have HMI := Lib.hid hmi
        clear hmi
        clear hev
        go_wp2_with fail
        go_roundw
        case rel =>
          have hat : n = atVe k0 rs k := by have := HN.out; unfold atVe; omega
          have hfl : lo ≤ f k := Nat.le_trans HF.out.1 (mono_up HM.out 0 k (Nat.zero_le _) (by omega))
          have hfh : f (k + 1) ≤ hi := Nat.le_trans (mono_up HM.out (k + 1) rs.length (by omega) (Nat.le_refl _)) HF.out.2
          have hgh : g + 1 ≤ hi := Nat.le_trans (hmk rs.length (Nat.le_refl _)) HF.out.2
          refine ⟨k + 1, n + 1 + r.rules.length * 4, _, by omega, by go_num, by go_num, Lib.hid (by have h1 := HN.out; have h2 := HSZ.out; omega), hnn, HI.out.1.only2 hon2 (fun g' hg' => by simp [Value.ownBlock] at hg'; have := hmk k (by omega); omega),
            Lib.hid ⟨by simpa using I.out.1, fun i h1 h2 h3 => ?_⟩, Lib.hid (fun i h1 h2 h3 => ?_), (hOn.trans (hon.wide hg hgh)).trans (hon2.wide hfl hfh)⟩
          · obtain ⟨s, q1, q2⟩ := I.out.2 i (by rw [I.out.1]; exact h2) h2 (by omega)
            exact ⟨s, by simpa [List.getElem_set_ne (show k ≠ i by omega)] using q1, (q2.only hon (hmk i (by omega))).only hon2 (mono_up HM.out (k + 1) i h3 (by omega))⟩
          · by_cases hik : i = k
            · subst hik
              refine ⟨.slice sa sn sc, ?_, ?_⟩
              · have hx := HX.out
                rw [hx, ← hat]
                simp only [List.getElem_set_self, veC, mVe]
              · have hx := HX.out
                have q := HMI.out
                rw [hx, ← hat]
                exact q
            · obtain ⟨s, q1, q2⟩ := D.out i (by rw [I.out.1]; exact h2) h2 (by omega)
              exact ⟨s, by simpa [List.getElem_set_ne (show k ≠ i by omega)] using q1, (q2.only hon (hmk i (by omega))).only2 hon2 (mono_up HM.out (i + 1) k (by omega) (by omega))⟩
        case measure => simp [intOf]; omega
      · clear hO
        go_wp2_with fail
        go_ret
        obtain rfl : k = rs.length := (by omega)
        refine ⟨n, rfl, by have h1 := HN.out; rwa [List.take_length] at h1, ⟨cs, f, by rw [mVes_len]; exact I.out.1, HO.out, HU.out, HF.out.1, fun i h => HM.out i (by rwa [mVes_len] at h), by rw [mVes_len]; exact HF.out.2, fun i h1 h2 => ?_⟩, hOn⟩
        have h3 : i < rs.length := by rwa [mVes_len] at h2
        obtain ⟨s, q1, q2⟩ := D.out i h1 h3 h3
        have hle := atVe_le k0 rs i h3
        refine ⟨s, by rw [mVes_at k0 rs i h3]; exact q1, ?_, ?_⟩
        · rw [mVes_at k0 rs i h3]; exact q2
        · rw [mVes_at k0 rs i h3]; exact mVe_ok _ _ (by omega)

set_option maxHeartbeats 2000000 in
theorem heldVeS_any (v : Value) (rs : List Ve) (k0 : Nat) (w : World) (hk0 : 1 ≤ k0) (hk1 : k0 + rs.length * 1 + msVe rs ≤ 1099511627776) (h1 : RowR 2 rVe w v (mVes k0 rs)) :
    Calls Try.prog 44 #[v, .int .i64 k0] w fun e w' => ∃ n : Nat, e = .returned (.int .i64 n) ∧ n = k0 + rs.length * 1 + msVe rs ∧ Below w.heap.size w w' := by
  obtain ⟨a1, c1, rfl, hl1, hm1, r1⟩ := h1
  rw [mVes_len] at hl1
  rw [mVes_len]
  have R1 := Lib.hid r1
  clear r1
  go_enter Try.func44, Try.ntmps44
  go_wp2
  go_loopw [1, 5] (fun q i wr => ∃ k n : Nat, k ≤ rs.length ∧ i = .int .i64 k ∧ q = .int .i64 n ∧ Hid (n = atVe k0 rs k) ∧ n ≤ 1099511627776 ∧ Below w.heap.size w wr) (fun _ i _ => rs.length - (intOf i).toNat)
  case atStart => exact ⟨0, k0, Nat.zero_le _, rfl, rfl, Lib.hid (by simp [atVe, msVe]), by omega, Below.refl _ _⟩
  case round =>
    obtain ⟨k, n, hk, rfl, rfl, HN, hnb, hb⟩ := hrel
    by_cases hlt : k < rs.length
    · obtain ⟨b1, o1, hb1, rfl, e1⟩ := R1.out.resolve_left (fun e => by have := mVes_len k0 rs; rw [e] at this; simp at this; omega)
      obtain ⟨cs, hcl, hcs, hre⟩ := e1 k (by rw [mVes_len]; exact hlt)
      rw [mVes_at k0 rs k hlt, ← HN.out] at hre
      obtain ⟨sv, rfl, hsv, _⟩ := hre
      have hle := atVe_le k0 rs k hlt
      rw [← HN.out] at hle
      obtain ⟨len, hlen⟩ : ∃ l, rs[k].rules.length = l := ⟨_, rfl⟩
      rw [hlen] at hcs hsv hle
      have HLEN := Lib.hid hlen
      have HLE := Lib.hid hle
      have hn2 : n + 1 + len * 4 ≤ 1099511627776 := by omega
      clear hlen hle
      obtain ⟨m, hm⟩ : ∃ m, n + 1 + len * 4 = m := ⟨_, rfl⟩
      simp only [mVe] at hcs hsv
      have HMM := Lib.hid hm
      have hmb : m + 0 ≤ 1099511627776 := by omega
      have f0 := (hb.cell (p := ⟨b1, o1 + k * 2, none⟩) hb1).trans (hcs 0 (by simp only [List.length_cons, List.length_nil]; omega))
      have f1 := (hb.cell (p := ⟨b1, o1 + k * 2 + 1, none⟩) hb1).trans (hcs 1 (by simp only [List.length_cons, List.length_nil]; omega))
      simp only [List.getElem_cons_zero, List.getElem_cons_succ] at f0 f1
      have g0 : (0 : Int) ≤ (k : Int) := by omega
      have g1 : (k : Int) < (rs.length : Int) := by omega
      have hsz := hb.size
      have n0 : (((n : Int)) != ((n : Int))) = false := by simp
      have HSV := Lib.hid hsv
      clear hcs hcl e1 hsv hm
      go_wp2_with fail
      have hev := HSV.out.below rRu_stable hb
      (first | rw [show (n : Int) + 1 = ((n + 1 : Nat) : Int) by omega] | rw [show (n : Int) + 1 = ((n + 1 : Nat) : Int) by omega])
      refine (heldRuS_any _ (n + 1) len _ (by omega) (by omega) hev).mono ?_
      rintro e w2 ⟨rfl, hb2⟩
      clear hev
      rw [show n + 1 + len * 4 = m from HMM.out]
      have hbb := hb.trans (hb2.mono hb.size)
      have hsz2 := hbb.size
      go_wp2_with fail
      go_roundw
      case rel => exact ⟨k + 1, n + 1 + len * 4, by omega, by go_num, by rw [show n + 1 + len * 4 = m by have := HMM.out; omega], Lib.hid (by have h1 := HN.out; have h2 := msVe_take_succ rs k hlt; have h3 := HLEN.out; unfold atVe at *; omega), hn2, hbb⟩
      case measure => simp [intOf]; omega
    · go_wp2_with fail
      go_ret
      obtain rfl : k = rs.length := (by omega)
      exact ⟨n, rfl, by have h1 := HN.out; unfold atVe at h1; rwa [List.take_length] at h1, hb⟩
end Go.Proofs.Ytmjeaciacgeioaa
