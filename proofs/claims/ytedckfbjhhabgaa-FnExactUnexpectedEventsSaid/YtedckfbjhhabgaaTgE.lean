/- The expected day of an event, the program's: expectedDay of a node. -/
import Derived.Test.YtedckfbjhhabgaaTgP0
import Derived.Test.YtedckfbjhhabgaaTgN
namespace Go.Proofs.Ytedckfbjhhabgaa
set_option linter.unusedVariables false
open Go.RowKit Go.Sort Go.Maps

def expD (d : Int) : Int × Bool := if d < 0 then (0, false) else (d, true)
theorem expD_neg {d : Int} (h : d < 0) : expD d = (0, false) := if_pos h
theorem expD_pos {d : Int} (h : 0 ≤ d) : expD d = (d, true) := if_neg (by omega)
theorem below_drewE {n : Nat} {a b : World} (h : Below n a b) (k : Nat) : Below n a (b.drewN k) := ⟨h.os, h.tape, h.output, h.size, h.block⟩
theorem goL_neg {D : Int → Int} {L : List Tg} {k : Nat} {m : Int} (hk : k < L.length) (h : D (L.getD k tgD).aft < 0) : goL D (L.drop k) m = -1 := by
  rw [List.drop_eq_getElem_cons hk, ← getTg_lt hk]
  unfold goL
  rw [if_pos h]
theorem goL_step {D : Int → Int} {L : List Tg} {k : Nat} {m : Int} (hk : k < L.length) (h : 0 ≤ D (L.getD k tgD).aft) : goL D (L.drop k) m = goL D (L.drop (k + 1)) (max m (D (L.getD k tgD).aft + (L.getD k tgD).days)) := by
  rw [List.drop_eq_getElem_cons hk, ← getTg_lt hk]
  conv => lhs; unfold goL
  rw [if_neg (by omega)]
set_option maxRecDepth 20000 in
set_option maxHeartbeats 8000000 in
theorem expectedDay_any (t : List Tg) (ht : areTg t = true) (hc : cycF t = none) (A : List Nat) (hi : Nat) : ∀ (f k : Nat) (w : World), NodR hi w A t → k < 10 → shortW t (k : Int) f →
    Calls Try.prog 90 #[ptrA A k] w fun e w' => e = .returned (.tuple #[.int .i64 (expD (dayX t (k : Int))).1, .bool (expD (dayX t (k : Int))).2]) ∧ Below w.heap.size w w' := by
  intro f
  induction f with
  | zero => intro k w _ _ h; exact absurd (shortW_pos h) (Nat.lt_irrefl _)
  | succ f ih =>
    intro k w hnr hk hsh
    have IH := Lib.hid ih
    have HNR := Lib.hid hnr
    have HT := Lib.hid ht
    have HC := Lib.hid hc
    have HSH := Lib.hid hsh
    obtain ⟨L, hL⟩ : ∃ l, folL t (k : Int) = l := ⟨_, rfl⟩
    have HLM : Hid (∀ x ∈ L, x ∈ folL t (k : Int)) := Lib.hid (fun x hx => by rw [hL]; exact hx)
    obtain ⟨fa, fc, hf1, hf2, hf3, hf4⟩ := hnr.fol k hk
    rw [hL] at hf1 hf2 hf4
    have hLl : L.length ≤ 10 := by rw [← hL]; exact Nat.le_trans (folL_len _) (tg_len ht)
    have hkd := hnr.kind k hk
    have HF4 := Lib.hid hf4
    unfold maxLen at hf3
    obtain ⟨dk, hdk⟩ : ∃ d, dayX t (k : Int) = d := ⟨_, rfl⟩
    have HDK : Hid ((k = 0 ∧ L = [] ∧ dk = 0) ∨ (k ≠ 0 ∧ dk = goL (dayX t) L (-1))) := Lib.hid (by
      by_cases h0 : k = 0
      · refine .inl ⟨h0, ?_, ?_⟩
        · rw [← hL, h0]; exact folL_zero ht (by omega)
        · rw [← hdk, h0]; exact dayX_zero t
      · refine .inr ⟨h0, ?_⟩
        rw [← hdk, dayX_goL ht hc (by omega), hL])
    rw [hdk]
    obtain ⟨P, hP⟩ : ∃ p, A.getD k 0 = p := ⟨_, rfl⟩
    have hadr := hnr.adr k hk
    have hhs := hnr.size
    unfold ptrA
    rw [hP] at hf1 hadr hkd
    rw [hP]
    have HK1 := Lib.hid (show ∀ W, Below w.heap.size w W → W.cell? ⟨P, 0, none⟩ = some (.int .i64 (k : Int)) ∧ W.cell? ⟨P, 1, none⟩ = some (.slice fa L.length fc) from fun W hW => ⟨cell_kept hkd hW, cell_kept hf1 hW⟩)
    clear ih hnr ht hc hsh hL hf4 hdk hP
    go_enter Try.func90, Try.ntmps90
    go_wp2_with fail
    go_loopw [4, 14] (fun o i wr => ∃ (j : Nat) (dd m : Int), j ≤ L.length ∧ i = .int .i64 j ∧ o = .int .i64 dd ∧ Hid (goL (dayX t) L (-1) = goL (dayX t) (L.drop j) m) ∧ Hid ((j = 0 ∧ m = -1 ∧ dd = 0) ∨ (0 < j ∧ m = dd)) ∧ 0 ≤ dd ∧ dd ≤ 200000 ∧ Below w.heap.size w wr) (fun _ i _ => L.length - (intOf i).toNat)
    case atStart => exact ⟨0, 0, -1, Nat.zero_le _, rfl, rfl, Lib.hid (by rw [List.drop_zero]), Lib.hid (.inl ⟨rfl, rfl, rfl⟩), by omega, by omega, Below.refl _ _⟩
    case round =>
      obtain ⟨j, dd, m, hj, rfl, rfl, HGO, HM, hd0, hd1, hb⟩ := hrel
      have hsz := hb.size
      by_cases hlt : j < L.length
      · obtain ⟨fb, fo, hfb, rfl, hfe⟩ := HF4.out.resolve_left (fun e => by rw [e] at hlt; simp at hlt)
        obtain ⟨⟨x0, x1, x2⟩, hx⟩ : ∃ x, L.getD j tgD = x := ⟨_, rfl⟩
        obtain ⟨q0, q1⟩ := hfe j hlt
        rw [hx] at q0 q1
        simp only at q0 q1
        have hxL : (⟨x0, x1, x2⟩ : Tg) ∈ folL t (k : Int) := HLM.out _ (by rw [← hx, getTg_lt hlt]; exact List.getElem_mem hlt)
        have hone := tgOne_iff.1 (tg_mem HT.out (folL_mem.1 hxL).1)
        simp only at hone
        obtain ⟨n1, rfl⟩ : ∃ n : Nat, x1 = (n : Int) := ⟨x1.toNat, by omega⟩
        have hn1 : n1 < 10 := by omega
        have hx2 := hone.2.2.2
        have HS1 : Hid (shortW t (n1 : Int) f) := Lib.hid (shortW_link HSH.out hxL)
        rw [Int.toNat_natCast] at q0
        have f0 := cell_kept q0 hb
        have f1 := cell_kept q1 hb
        unfold ptrA at f0
        obtain ⟨P1, hP1⟩ : ∃ p, A.getD n1 0 = p := ⟨_, rfl⟩
        rw [hP1] at f0
        have hba := below_al hb (.cells #[.pointer (some ⟨P1, 0, none⟩), .int .i64 x2] 104 (0, 0))
        have g0 : (0 : Int) ≤ (j : Int) := by omega
        have g1 : (j : Int) < (L.length : Int) := by omega
        have HX := Lib.hid hx
        obtain ⟨d1, hd⟩ : ∃ d, dayX t (n1 : Int) = d := ⟨_, rfl⟩
        have hdin := dayX_in HT.out (n1 : Int)
        rw [hd] at hdin
        have HCALL : Hid (Calls Try.prog 90 #[.pointer (some ⟨P1, 0, none⟩)] (wr.alloc (.cells #[.pointer (some ⟨P1, 0, none⟩), .int .i64 x2] 104 (0, 0))) fun e w' => e = .returned (.tuple #[.int .i64 (expD d1).1, .bool (expD d1).2]) ∧ Below (wr.alloc (.cells #[.pointer (some ⟨P1, 0, none⟩), .int .i64 x2] 104 (0, 0))).heap.size (wr.alloc (.cells #[.pointer (some ⟨P1, 0, none⟩), .int .i64 x2] 104 (0, 0))) w') := Lib.hid (by
          have := IH.out n1 (wr.alloc (.cells #[.pointer (some ⟨P1, 0, none⟩), .int .i64 x2] 104 (0, 0))) (HNR.out.below (hba.mono hhs)) hn1 HS1.out
          unfold ptrA at this
          rw [hP1, hd] at this
          exact this)
        have zl := cell_new wr #[.pointer (some ⟨P1, 0, none⟩), .int .i64 x2] 104 1 (v := .int .i64 x2) rfl
        have HD1 := Lib.hid hd
        clear q0 q1 hfe hxL hone hx hd hP1
        by_cases hneg : d1 < 0
        · rw [expD_neg hneg] at HCALL
          have HR : Hid (dk = -1) := Lib.hid (by
            rcases HDK.out with ⟨_, h1, _⟩ | ⟨_, h1⟩
            · rw [h1] at hlt; simp at hlt
            · rw [h1, HGO.out]
              exact goL_neg hlt (by rw [HX.out]; simp only; rw [HD1.out]; exact hneg))
          clear hneg
          go_wp2_with fail
          refine HCALL.out.mono ?_
          rintro e w2 ⟨rfl, b2⟩
          go_wp2_with fail
          go_ret2
          exact ⟨by rw [HR.out]; rfl, hba.trans (b2.mono hba.size)⟩
        · have hpos : 0 ≤ d1 := by omega
          rw [expD_pos hpos] at HCALL
          have HG2 : Hid (goL (dayX t) L (-1) = goL (dayX t) (L.drop (j + 1)) (max m (d1 + x2))) := Lib.hid (by
            rw [HGO.out, goL_step hlt (by rw [HX.out]; simp only; rw [HD1.out]; exact hpos), HX.out]
            simp only
            rw [HD1.out])
          have hsum : d1 + x2 ≤ 110000 := by omega
          have hsum0 : 0 ≤ d1 + x2 := by omega
          clear hneg
          have HMX : Hid (max m (d1 + x2) = max dd (d1 + x2)) := Lib.hid (by rcases HM.out with ⟨_, h1, h2⟩ | ⟨_, h1⟩ <;> omega)
          by_cases hmx : dd < d1 + x2
          · have HRS : Hid (max dd (d1 + x2) = d1 + x2) := Lib.hid (by omega)
            have hmx2 : max dd (d1 + x2) = d1 + x2 := HRS.out
            go_wp2_with fail
            refine HCALL.out.mono ?_
            rintro e w2 ⟨rfl, b2⟩
            have z2 := cell_kept zl b2
            go_wp2_with fail
            go_roundw
            case rel => exact ⟨j + 1, d1 + x2, d1 + x2, by omega, by go_num, by first | rfl | (rw [if_pos hmx]) | (rw [hmx2]), Lib.hid (by rw [HG2.out, HMX.out, HRS.out]), Lib.hid (.inr ⟨by omega, rfl⟩), by omega, by omega, hba.trans (b2.mono hba.size)⟩
            case measure => simp [intOf]; omega
          · have HRS : Hid (max dd (d1 + x2) = dd) := Lib.hid (by omega)
            have hmx2 : max dd (d1 + x2) = dd := HRS.out
            go_wp2_with fail
            refine HCALL.out.mono ?_
            rintro e w2 ⟨rfl, b2⟩
            have z2 := cell_kept zl b2
            go_wp2_with fail
            go_roundw
            case rel => exact ⟨j + 1, dd, dd, by omega, by go_num, by first | rfl | (rw [if_neg hmx]) | (rw [hmx2]), Lib.hid (by rw [HG2.out, HMX.out, HRS.out]), Lib.hid (.inr ⟨by omega, rfl⟩), by omega, by omega, hba.trans (b2.mono hba.size)⟩
            case measure => simp [intOf]; omega
      · have hjl : j = L.length := by omega
        have HE : Hid (goL (dayX t) L (-1) = m) := Lib.hid (by rw [HGO.out, hjl, List.drop_length]; rfl)
        obtain ⟨y0, y1⟩ := HK1.out _ hb
        by_cases h0 : k = 0
        · have r0 : ((k : Int) == 0) = true := by rw [beq_iff_eq]; omega
          have HR : Hid (dk = 0 ∧ dd = 0) := Lib.hid (by
            rcases HDK.out with ⟨_, h1, h2⟩ | ⟨h1, _⟩
            · rw [h1] at hjl
              simp at hjl
              rcases HM.out with ⟨_, _, h3⟩ | ⟨h3, _⟩
              · exact ⟨h2, h3⟩
              · omega
            · exact absurd h0 h1)
          clear h0 hjl hk
          go_wp2_with fail
          go_quiet (fail)
          go_wp2_with fail
          go_ret2
          exact ⟨by rw [HR.out.1, HR.out.2]; rfl, below_drewE hb _⟩
        · have r0 : ((k : Int) == 0) = false := by rw [beq_eq_false_iff_ne]; omega
          have HDG : Hid (dk = m) := Lib.hid (by
            rcases HDK.out with ⟨h1, _⟩ | ⟨_, h1⟩
            · exact absurd h1 h0
            · rw [h1, HE.out])
          by_cases hl0 : L.length = 0
          · have HR : Hid (dk = -1 ∧ dd = 0) := Lib.hid (by
              rcases HM.out with ⟨_, h2, h3⟩ | ⟨h3, _⟩
              · exact ⟨by rw [HDG.out, h2], h3⟩
              · omega)
            have gl : ¬ (0 : Int) < (L.length : Int) := by omega
            have gl3 : decide (0 < L.length) = false := decide_eq_false (by omega)
            clear h0 hjl hl0
            go_wp2_with fail
            go_quiet (fail)
            go_wp2_with fail
            go_ret2
            exact ⟨by rw [HR.out.1, HR.out.2]; rfl, below_drewE hb _⟩
          · have HR : Hid (dk = dd) := Lib.hid (by
              rcases HM.out with ⟨h1, _⟩ | ⟨_, h1⟩
              · omega
              · rw [HDG.out, h1])
            have gl : (0 : Int) < (L.length : Int) := by omega
            have gl3 : decide (0 < L.length) = true := decide_eq_true (by omega)
            have HEX : Hid (expD dk = (dd, true)) := Lib.hid (by rw [HR.out]; exact expD_pos hd0)
            clear h0 hjl hl0
            go_wp2_with fail
            go_quiet (fail)
            go_wp2_with fail
            go_ret2
            exact ⟨by rw [HEX.out]; rfl, below_drewE hb _⟩
end Go.Proofs.Ytedckfbjhhabgaa
