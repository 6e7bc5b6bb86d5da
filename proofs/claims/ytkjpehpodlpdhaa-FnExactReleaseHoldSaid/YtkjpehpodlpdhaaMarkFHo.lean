/- The laws' own marks of a list of Hold: what is written, and that it is found again. -/
import Derived.Test.YtkjpehpodlpdhaaMarkHo
namespace Go.Proofs.Ytkjpehpodlpdhaa
set_option linter.unusedVariables false
open Go.RowKit

/-- The marks of one that begins at number n, with a list of len numbers. -/
def mHo (n len : Nat) : Ho := ⟨(n : Int), (n : Int) + 1, (n : Int) + 1 + 1, mInts (n + 3) len, ((n + 3 + len : Nat) : Int), ((n + 3 + len : Nat) : Int) + 1⟩
/-- Where the i-th one's marks begin. -/
def atHo (k0 : Nat) (xs : List Ho) (i : Nat) : Nat := k0 + i * 5 + msHo (xs.take i)
def mHos (k0 : Nat) (xs : List Ho) : List Ho := (List.range xs.length).map (fun i => mHo (atHo k0 xs i) ((xs[i]?.map (fun x => x.ser.length)).getD 0))
theorem mHos_len (k0 : Nat) (xs : List Ho) : (mHos k0 xs).length = xs.length := by simp [mHos]
theorem mHos_at (k0 : Nat) (xs : List Ho) (i : Nat) (h : i < xs.length) (h' : i < (mHos k0 xs).length) : (mHos k0 xs)[i] = mHo (atHo k0 xs i) xs[i].ser.length := by
  simp [mHos, h]
theorem atHo_le (k0 : Nat) (xs : List Ho) (i : Nat) (h : i < xs.length) : atHo k0 xs i + 5 + xs[i].ser.length ≤ k0 + xs.length * 5 + msHo xs := by
  have h1 := msHo_take_succ xs i h
  have h2 := msHo_take_le xs (i + 1)
  unfold atHo
  omega
theorem mHo_ok (n len : Nat) (h : n + 5 + len ≤ 1099511627776) : (mHo n len).ok := by
  simp only [Ho.ok, mHo, inI]
  omega

set_option maxHeartbeats 2000000 in
theorem markHoS_any (v : Value) (rs : List Ho) (lo hi k0 : Nat) (w : World) (hk0 : 1 ≤ k0) (hk1 : k0 + rs.length * 5 + msHo rs ≤ 1099511627776) (h : HosO lo hi w v rs) :
    Calls Try.prog 26 #[v, .int .i64 k0] w fun e w' => ∃ n : Nat, e = .returned (.int .i64 n) ∧ n = k0 + rs.length * 5 + msHo rs ∧ HosO lo hi w' v (mHos k0 rs) ∧ Only lo hi w w' := by
  obtain ⟨css, f, hl, ho, hu, hlo, hm, hhi, he⟩ := h
  rcases ho.form with ⟨rfl, h0⟩ | ⟨g, cap, hv, hg, hgl, hn, hmx⟩
  · have hx : rs = [] := by rw [h0] at hl; exact List.length_eq_zero_iff.1 hl.symm
    subst hx
    subst h0
    have HNIL := Lib.hid ho
    have HB : Hid (lo ≤ f 0 ∧ f ([] : List Ho).length ≤ hi) := Lib.hid ⟨hlo, hhi⟩
    clear ho he hl hu hlo hm hhi
    go_enter Try.func26, Try.ntmps26
    go_wp2
    refine wp_loop_rounds 1 ?_
    rw [rounds_succ]
    go_wp2
    go_ret
    exact ⟨k0, rfl, by simp [msHo], ⟨[], f, rfl, HNIL.out, Under.nil _ _ _, HB.out.1, fun i h => absurd h (by rw [mHos_len]; exact Nat.not_lt_zero _), HB.out.2, fun i h1 h2 => by simp at h1⟩, Only.refl _ _ _⟩
  · rw [hl] at hv hn
    subst hv
    unfold maxLen at hmx
    have hg0 : g < f 0 := hu g rfl
    have HM := Lib.hid hm
    have HL := Lib.hid hl
    have HO0 := Lib.hid ho
    have HE := Lib.hid he
    have HF := Lib.hid (And.intro hlo hhi)
    have HU := Lib.hid hu
    clear ho he hm hl hlo hhi hu
    go_enter Try.func26, Try.ntmps26
    go_wp2
    go_loopw [1, 5] (fun q i wr => ∃ (k n : Nat) (cs : List (List Value)), k ≤ rs.length ∧ i = .int .i64 k ∧ q = .int .i64 n ∧ Hid (n = k0 + k * 5 + msHo (rs.take k)) ∧ n ≤ 1099511627776 ∧
        Own lo 100 6 wr (.slice (some ⟨g, 0, none⟩) rs.length cap) cs ∧ Hid (cs.length = rs.length ∧ ∀ i (h1 : i < cs.length) (h2 : i < rs.length), k ≤ i → ∃ s, cs[i] = hoC rs[i] s ∧ IntsO (f i) (f (i + 1)) wr s rs[i].ser) ∧ Hid (∀ i (h1 : i < cs.length) (h2 : i < rs.length), i < k → ∃ s, cs[i] = hoC (mHo (atHo k0 rs i) rs[i].ser.length) s ∧ IntsO (f i) (f (i + 1)) wr s (mInts (atHo k0 rs i + 3) rs[i].ser.length)) ∧ Only lo hi w wr) (fun _ i _ => rs.length - (intOf i).toNat)
    case atStart => exact ⟨0, k0, css, Nat.zero_le _, rfl, rfl, Lib.hid (by simp [msHo]), by omega, HO0.out, Lib.hid ⟨HL.out, fun i h1 h2 _ => by obtain ⟨s, e1, e2, _⟩ := HE.out i h1 h2; exact ⟨s, e1, e2⟩⟩, Lib.hid (fun i h1 h2 h3 => absurd h3 (Nat.not_lt_zero _)), Only.refl _ _ _⟩
    case round =>
      obtain ⟨k, n, cs, hk, rfl, rfl, HN, hnb, hO, I, D, hOn⟩ := hrel
      have HO := Lib.hid hO
      by_cases hlt : k < rs.length
      · obtain ⟨r, hx⟩ : ∃ r, rs[k] = r := ⟨_, rfl⟩
        obtain ⟨s, e1, e2⟩ := I.out.2 k (by rw [I.out.1]; exact hlt) hlt (Nat.le_refl _)
        obtain ⟨sa, sn, sc, rfl⟩ := e2.slice
        rw [hx] at e1 e2
        simp only [hoC] at e1
        have hkc : k < cs.length := by rw [I.out.1]; exact hlt
        have HKC := Lib.hid hkc
        have HX := Lib.hid hx
        have E2 := Lib.hid e2
        have HI : Hid (Own lo 100 6 wr (.slice (some ⟨g, 0, none⟩) rs.length cap) cs ∧ ∃ h : k < cs.length, cs[k] = [.int .i64 r.id, .int .i64 r.frm, .int .i64 r.til, .slice sa sn sc, .int .i64 r.fst, .int .i64 r.lst]) := ⟨HO.out, hkc, e1⟩
        have HON : Hid (Only g (g + 1) wr wr) := Lib.hid (Only.refl _ _ _)
        have g0 : (0 : Int) ≤ (k : Int) := by omega
        have g1 : (k : Int) < (rs.length : Int) := by omega
        have hszk := msHo_take_succ rs k hlt
        have hszl := msHo_take_le rs (k + 1)
        rw [hx] at hszk
        have hnn : n + 5 + r.ser.length ≤ 1099511627776 := by have := HN.out; omega
        have HSZ := Lib.hid hszk
        have c0 := HI.out.1.cell k 0 HI.out.2.1 (by omega)
        have c1 := HI.out.1.cell k 1 HI.out.2.1 (by omega)
        have c2 := HI.out.1.cell k 2 HI.out.2.1 (by omega)
        have c3 := HI.out.1.cell k 3 HI.out.2.1 (by omega)
        have c4 := HI.out.1.cell k 4 HI.out.2.1 (by omega)
        have c5 := HI.out.1.cell k 5 HI.out.2.1 (by omega)
        rw [HI.out.2.2] at c0 c1 c2 c3 c4 c5
        simp at c0 c1 c2 c3 c4 c5
        have fr0 := HI.out.1.frozen (k * 6)
        have fr1 := HI.out.1.frozen (k * 6 + 1)
        have fr2 := HI.out.1.frozen (k * 6 + 2)
        have fr3 := HI.out.1.frozen (k * 6 + 3)
        have fr4 := HI.out.1.frozen (k * 6 + 4)
        have fr5 := HI.out.1.frozen (k * 6 + 5)
        clear hO e1 e2 hx hszk hszl hkc HO
        go_wp2_with fail
        obtain ⟨p1, p2⟩ := Own.puts [.int .i64 ((n : Int)), .int .i64 ((n : Int) + 1), .int .i64 ((n : Int) + 1 + 1)] _ _ k 0 HI.out.2.1 (by simp) HI.out.1
        rw [HI.out.2.2] at p1
        simp only [setFrom, List.set_cons_zero, List.set_cons_succ, Nat.zero_add, Nat.add_zero] at p1 p2
        replace HI : Hid (Own lo 100 6 _ (.slice (some ⟨g, 0, none⟩) rs.length cap) (cs.set k [.int .i64 ((n : Int)), .int .i64 ((n : Int) + 1), .int .i64 ((n : Int) + 1 + 1), .slice sa sn sc, .int .i64 r.fst, .int .i64 r.lst]) ∧ ∃ h : k < (cs.set k [.int .i64 ((n : Int)), .int .i64 ((n : Int) + 1), .int .i64 ((n : Int) + 1 + 1), .slice sa sn sc, .int .i64 r.fst, .int .i64 r.lst]).length, (cs.set k [.int .i64 ((n : Int)), .int .i64 ((n : Int) + 1), .int .i64 ((n : Int) + 1 + 1), .slice sa sn sc, .int .i64 r.fst, .int .i64 r.lst])[k] = [.int .i64 ((n : Int)), .int .i64 ((n : Int) + 1), .int .i64 ((n : Int) + 1 + 1), .slice sa sn sc, .int .i64 r.fst, .int .i64 r.lst]) := ⟨p1, by simpa using HKC.out, by rw [List.getElem_set_self]⟩
        replace HON := Lib.hid (HON.out.trans (Only.of_grown (lo := g) (hi := g + 1) (v := .slice (some ⟨g, 0, none⟩) rs.length cap) p2 (fun g' hg' => by simp [Value.ownBlock] at hg'; omega) (fun g' hg' => by simp [Value.ownBlock] at hg'; omega)))
        clear p1 p2
        have hon := HON.out
        have hmk : ∀ i, i ≤ rs.length → g + 1 ≤ f i := fun i hi => Nat.le_trans hg0 (mono_up HM.out 0 i (Nat.zero_le _) hi)
        have hev := E2.out.only hon (hmk k (by omega))
        (first | rw [show (n : Int) + 1 + 1 + 1 = ((n + 3 : Nat) : Int) by omega] | rw [show (n : Int) + 3 = ((n + 3 : Nat) : Int) by omega])
        refine (markIntS_any _ r.ser (f k) (f (k + 1)) (n + 3) _ (by omega) (by omega) hev).mono ?_
        rintro e w2 ⟨rfl, hmi, hon2⟩
        have HMI := Lib.hid hmi
        clear hmi
        clear hev
        obtain ⟨m, hm⟩ : ∃ m, n + 3 + r.ser.length = m := ⟨_, rfl⟩
        rw [hm]
        have HMM := Lib.hid hm
        have hmb : m + 2 ≤ 1099511627776 := by omega
        clear hm
        replace HI : Hid (_ ∧ _) := ⟨HI.out.1.only2 hon2 (fun g' hg' => by simp [Value.ownBlock] at hg'; have := hmk k (by omega); omega), HI.out.2⟩
        have HON3 : Hid (Only g (g + 1) w2 w2) := Lib.hid (Only.refl _ _ _)
        have c0 := HI.out.1.cell k 0 HI.out.2.1 (by omega)
        have c1 := HI.out.1.cell k 1 HI.out.2.1 (by omega)
        have c2 := HI.out.1.cell k 2 HI.out.2.1 (by omega)
        have c3 := HI.out.1.cell k 3 HI.out.2.1 (by omega)
        have c4 := HI.out.1.cell k 4 HI.out.2.1 (by omega)
        have c5 := HI.out.1.cell k 5 HI.out.2.1 (by omega)
        rw [HI.out.2.2] at c0 c1 c2 c3 c4 c5
        simp at c0 c1 c2 c3 c4 c5
        have fr0 := HI.out.1.frozen (k * 6)
        have fr1 := HI.out.1.frozen (k * 6 + 1)
        have fr2 := HI.out.1.frozen (k * 6 + 2)
        have fr3 := HI.out.1.frozen (k * 6 + 3)
        have fr4 := HI.out.1.frozen (k * 6 + 4)
        have fr5 := HI.out.1.frozen (k * 6 + 5)
        go_wp2_with fail
        obtain ⟨p1, p2⟩ := Own.puts [.int .i64 ((m : Int)), .int .i64 ((m : Int) + 1)] _ _ k 4 HI.out.2.1 (by simp) HI.out.1
        rw [HI.out.2.2] at p1
        simp only [setFrom, List.set_cons_zero, List.set_cons_succ, List.set_set] at p1 p2
        replace HI : Hid (Own lo 100 6 _ (.slice (some ⟨g, 0, none⟩) rs.length cap) (cs.set k [.int .i64 ((n : Int)), .int .i64 ((n : Int) + 1), .int .i64 ((n : Int) + 1 + 1), .slice sa sn sc, .int .i64 ((m : Int)), .int .i64 ((m : Int) + 1)]) ∧ ∃ h : k < (cs.set k [.int .i64 ((n : Int)), .int .i64 ((n : Int) + 1), .int .i64 ((n : Int) + 1 + 1), .slice sa sn sc, .int .i64 ((m : Int)), .int .i64 ((m : Int) + 1)]).length, (cs.set k [.int .i64 ((n : Int)), .int .i64 ((n : Int) + 1), .int .i64 ((n : Int) + 1 + 1), .slice sa sn sc, .int .i64 ((m : Int)), .int .i64 ((m : Int) + 1)])[k] = [.int .i64 ((n : Int)), .int .i64 ((n : Int) + 1), .int .i64 ((n : Int) + 1 + 1), .slice sa sn sc, .int .i64 ((m : Int)), .int .i64 ((m : Int) + 1)]) := ⟨p1, by simpa using HKC.out, by rw [List.getElem_set_self]⟩
        replace HON3 := Lib.hid (HON3.out.trans (Only.of_grown (lo := g) (hi := g + 1) (v := .slice (some ⟨g, 0, none⟩) rs.length cap) p2 (fun g' hg' => by simp [Value.ownBlock] at hg'; omega) (fun g' hg' => by simp [Value.ownBlock] at hg'; omega)))
        clear p1 p2
        have hon3 := HON3.out
        go_wp2_with fail
        go_roundw
        case rel =>
          have hat : n = atHo k0 rs k := by have := HN.out; unfold atHo; omega
          have hfl : lo ≤ f k := Nat.le_trans HF.out.1 (mono_up HM.out 0 k (Nat.zero_le _) (by omega))
          have hfh : f (k + 1) ≤ hi := Nat.le_trans (mono_up HM.out (k + 1) rs.length (by omega) (Nat.le_refl _)) HF.out.2
          have hgh : g + 1 ≤ hi := Nat.le_trans (hmk rs.length (Nat.le_refl _)) HF.out.2
          refine ⟨k + 1, n + 5 + r.ser.length, _, by omega, by go_num, by rw [show n + 5 + r.ser.length = m + 2 by have := HMM.out; omega]; go_num, Lib.hid (by have h1 := HN.out; have h2 := HSZ.out; omega), hnn, HI.out.1,
            Lib.hid ⟨by simpa using I.out.1, fun i h1 h2 h3 => ?_⟩, Lib.hid (fun i h1 h2 h3 => ?_), ((hOn.trans (hon.wide hg hgh)).trans (hon2.wide hfl hfh)).trans (hon3.wide hg hgh)⟩
          · obtain ⟨s, q1, q2⟩ := I.out.2 i (by rw [I.out.1]; exact h2) h2 (by omega)
            exact ⟨s, by simpa [List.getElem_set_ne (show k ≠ i by omega)] using q1, ((q2.only hon (hmk i (by omega))).only hon2 (mono_up HM.out (k + 1) i h3 (by omega))).only hon3 (hmk i (by omega))⟩
          · by_cases hik : i = k
            · subst hik
              refine ⟨.slice sa sn sc, ?_, ?_⟩
              · have hx := HX.out
                have hmm := HMM.out
                rw [hx, ← hat]
                simp only [List.getElem_set_self, hoC, mHo, ← hmm]
              · have hx := HX.out
                have q := HMI.out
                rw [hx, ← hat]
                exact q.only hon3 (hmk i (by omega))
            · obtain ⟨s, q1, q2⟩ := D.out i (by rw [I.out.1]; exact h2) h2 (by omega)
              exact ⟨s, by simpa [List.getElem_set_ne (show k ≠ i by omega)] using q1, ((q2.only hon (hmk i (by omega))).only2 hon2 (mono_up HM.out (i + 1) k (by omega) (by omega))).only hon3 (hmk i (by omega))⟩
        case measure => simp [intOf]; omega
      · clear hO
        go_wp2_with fail
        go_ret
        obtain rfl : k = rs.length := (by omega)
        refine ⟨n, rfl, by have h1 := HN.out; rwa [List.take_length] at h1, ⟨cs, f, by rw [mHos_len]; exact I.out.1, HO.out, HU.out, HF.out.1, fun i h => HM.out i (by rwa [mHos_len] at h), by rw [mHos_len]; exact HF.out.2, fun i h1 h2 => ?_⟩, hOn⟩
        have h3 : i < rs.length := by rwa [mHos_len] at h2
        obtain ⟨s, q1, q2⟩ := D.out i h1 h3 h3
        have hle := atHo_le k0 rs i h3
        refine ⟨s, by rw [mHos_at k0 rs i h3]; exact q1, ?_, ?_⟩
        · rw [mHos_at k0 rs i h3]; exact q2
        · rw [mHos_at k0 rs i h3]; exact mHo_ok _ _ (by omega)

set_option maxHeartbeats 2000000 in
theorem heldHoS_any (v : Value) (rs : List Ho) (k0 : Nat) (w : World) (hk0 : 1 ≤ k0) (hk1 : k0 + rs.length * 5 + msHo rs ≤ 1099511627776) (h1 : RowR 6 rHo w v (mHos k0 rs)) :
    Calls Try.prog 34 #[v, .int .i64 k0] w fun e w' => ∃ n : Nat, e = .returned (.int .i64 n) ∧ n = k0 + rs.length * 5 + msHo rs ∧ Below w.heap.size w w' := by
  obtain ⟨a1, c1, rfl, hl1, hm1, r1⟩ := h1
  rw [mHos_len] at hl1
  rw [mHos_len]
  have R1 := Lib.hid r1
  clear r1
  go_enter Try.func34, Try.ntmps34
  go_wp2
  go_loopw [1, 5] (fun q i wr => ∃ k n : Nat, k ≤ rs.length ∧ i = .int .i64 k ∧ q = .int .i64 n ∧ Hid (n = atHo k0 rs k) ∧ n ≤ 1099511627776 ∧ Below w.heap.size w wr) (fun _ i _ => rs.length - (intOf i).toNat)
  case atStart => exact ⟨0, k0, Nat.zero_le _, rfl, rfl, Lib.hid (by simp [atHo, msHo]), by omega, Below.refl _ _⟩
  case round =>
    obtain ⟨k, n, hk, rfl, rfl, HN, hnb, hb⟩ := hrel
    by_cases hlt : k < rs.length
    · obtain ⟨b1, o1, hb1, rfl, e1⟩ := R1.out.resolve_left (fun e => by have := mHos_len k0 rs; rw [e] at this; simp at this; omega)
      obtain ⟨cs, hcl, hcs, hre⟩ := e1 k (by rw [mHos_len]; exact hlt)
      rw [mHos_at k0 rs k hlt, ← HN.out] at hre
      obtain ⟨sv, rfl, hsv, _⟩ := hre
      have hle := atHo_le k0 rs k hlt
      rw [← HN.out] at hle
      obtain ⟨len, hlen⟩ : ∃ l, rs[k].ser.length = l := ⟨_, rfl⟩
      rw [hlen] at hcs hsv hle
      have HLEN := Lib.hid hlen
      have HLE := Lib.hid hle
      have hn2 : n + 5 + len ≤ 1099511627776 := by omega
      clear hlen hle
      obtain ⟨m, hm⟩ : ∃ m, n + 3 + len = m := ⟨_, rfl⟩
      simp only [mHo, hm] at hcs hsv
      have HMM := Lib.hid hm
      have hmb : m + 2 ≤ 1099511627776 := by omega
      have f0 := (hb.cell (p := ⟨b1, o1 + k * 6, none⟩) hb1).trans (hcs 0 (by simp only [List.length_cons, List.length_nil]; omega))
      have f1 := (hb.cell (p := ⟨b1, o1 + k * 6 + 1, none⟩) hb1).trans (hcs 1 (by simp only [List.length_cons, List.length_nil]; omega))
      have f2 := (hb.cell (p := ⟨b1, o1 + k * 6 + 2, none⟩) hb1).trans (hcs 2 (by simp only [List.length_cons, List.length_nil]; omega))
      have f3 := (hb.cell (p := ⟨b1, o1 + k * 6 + 3, none⟩) hb1).trans (hcs 3 (by simp only [List.length_cons, List.length_nil]; omega))
      have f4 := (hb.cell (p := ⟨b1, o1 + k * 6 + 4, none⟩) hb1).trans (hcs 4 (by simp only [List.length_cons, List.length_nil]; omega))
      have f5 := (hb.cell (p := ⟨b1, o1 + k * 6 + 5, none⟩) hb1).trans (hcs 5 (by simp only [List.length_cons, List.length_nil]; omega))
      simp only [List.getElem_cons_zero, List.getElem_cons_succ] at f0 f1 f2 f3 f4 f5
      have g0 : (0 : Int) ≤ (k : Int) := by omega
      have g1 : (k : Int) < (rs.length : Int) := by omega
      have hsz := hb.size
      have n0 : (((n : Int)) != ((n : Int))) = false := by simp
      have n1 : (((n : Int) + 1) != ((n : Int) + 1)) = false := by simp
      have n2 : (((n : Int) + 1 + 1) != ((n : Int) + 1 + 1)) = false := by simp
      have p0 : (((m : Int)) != ((m : Int))) = false := by simp
      have p1 : (((m : Int) + 1) != ((m : Int) + 1)) = false := by simp
      have HSV := Lib.hid hsv
      have FS := Lib.hid (And.intro f4 f5)
      clear hcs hcl e1 hsv hm
      go_wp2_with fail
      have hev := HSV.out.below hb
      (first | rw [show (n : Int) + 1 + 1 + 1 = ((n + 3 : Nat) : Int) by omega] | rw [show (n : Int) + 3 = ((n + 3 : Nat) : Int) by omega])
      refine (heldIntS_any _ (n + 3) len _ (by omega) (by omega) hev).mono ?_
      rintro e w2 ⟨rfl, hb2⟩
      clear hev
      rw [show n + 3 + len = m from HMM.out]
      have hbb := hb.trans (hb2.mono hb.size)
      have hsz2 := hbb.size
      have f4 := (hb2.cell (p := ⟨b1, o1 + k * 6 + 4, none⟩) (Nat.lt_of_lt_of_le hb1 hb.size)).trans f4
      have f5 := (hb2.cell (p := ⟨b1, o1 + k * 6 + 5, none⟩) (Nat.lt_of_lt_of_le hb1 hb.size)).trans f5
      go_wp2_with fail
      go_roundw
      case rel => exact ⟨k + 1, n + 5 + len, by omega, by go_num, by rw [show n + 5 + len = m + 2 by have := HMM.out; omega]; go_num, Lib.hid (by have h1 := HN.out; have h2 := msHo_take_succ rs k hlt; have h3 := HLEN.out; unfold atHo at *; omega), hn2, hbb⟩
      case measure => simp [intOf]; omega
    · go_wp2_with fail
      go_ret
      obtain rfl : k = rs.length := (by omega)
      exact ⟨n, rfl, by have h1 := HN.out; unfold atHo at h1; rwa [List.take_length] at h1, hb⟩
end Go.Proofs.Ytkjpehpodlpdhaa
