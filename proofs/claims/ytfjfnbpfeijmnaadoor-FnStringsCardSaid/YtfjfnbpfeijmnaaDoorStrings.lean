/- The law FnStrings: whatever bytes it is handed, the call answers true. Its tables are tied to the program's text. -/
import Derived.Test.YtfjfnbpfeijmnaaDoorDrawT
import Derived.Test.YtfjfnbpfeijmnaaDoorParseS
import Derived.Test.YtfjfnbpfeijmnaaDoorParseI
import Derived.Test.YtfjfnbpfeijmnaaDoorVerify
import Derived.StillTailTactics
import Derived.Laws.IdiomStrings
import Derived.Laws.BitsAllLaws
namespace Go.Proofs.YtfjfnbpfeijmnaaDoor
set_option linter.unusedVariables false
open Go.RowKit

theorem fmt_parse (n : Int) : ∃ (fs : ByteArray) (fb : Bool) (pn : Int) (pb : Bool), fmtAns n = .tuple #[.string fs, .bool fb] ∧ numAns fs.data.toList = .tuple #[.int .i64 pn, .bool pb] ∧ fs.size ≤ 30 ∧ (fb = true → pb = true ∧ pn = n) := by
  by_cases h : -999999 ≤ n ∧ n ≤ 999999
  · have hg := numGood_of h.1 h.2 (rfl : Lib.itoa n = Lib.itoa n)
    refine ⟨⟨(Lib.itoa n).toArray⟩, true, n, true, fmtAns_yes h.1 h.2, ?_, ?_, fun _ => ⟨rfl, rfl⟩⟩
    · show numAns (Lib.itoa n) = _
      rw [numAns_yes hg.1, hg.2]
    · have := Lib.itoa_length_le n (by omega) (by omega)
      show (Lib.itoa n).toArray.size ≤ 30
      rw [List.size_toArray]; omega
  · obtain ⟨pn, pb, hp⟩ := num_shape (⟨#[]⟩ : ByteArray).data.toList
    exact ⟨⟨#[]⟩, false, pn, pb, fmtAns_no h, hp, by decide, fun e => by cases e⟩
theorem head_seal {x : ByteArray} (h : SealGood x) : headOf (sealOf x) = x := by
  unfold headOf
  have e : (sealOf x).data.toList = sealL x.data.toList := by simp [sealOf]
  rw [e, show sealL x.data.toList = x.data.toList ++ 35 :: Lib.itoa (csum x.data.toList) from rfl, ahead_at h.2.1]
theorem ver_seal {x : ByteArray} (h : SealGood x) : verAns (sealOf x) = .tuple #[.string x, .bool true] := by
  rw [verAns_yes h.2.2 (by rw [head_seal h]), head_seal h]
theorem ver_changed {x : ByteArray} (h : SealGood x) (k : Nat) (b : UInt8) (hk : k < (sealL x.data.toList).length) (hb : b ≠ (sealL x.data.toList)[k]) :
    verAns ⟨((sealL x.data.toList).set k b).toArray⟩ = .tuple #[.string ⟨#[]⟩, .bool false] := by
  refine verAns_no (fun g => seal_change h.2.1 hk hb ?_)
  have := congrArg (fun s : ByteArray => s.data.toList) g.2
  simpa [sealOf, headOf] using this

theorem conv_row (W : World) (b cap n : Nat) (l : List UInt8) (hn : n = l.length) (hc : ∀ j (hj : j < l.length), W.cell? ⟨b, j, none⟩ = some (.int .u8 (l[j].toNat : Int))) :
    (convert 22 9 (.slice (some ⟨b, 0, none⟩) n cap)).run Tryd.prog W = .ok (.string ⟨l.toArray⟩) W := by
  subst hn
  exact run_convert_bytes_back (P := Tryd.prog) W 22 9 5 ⟨b, 0, none⟩ cap l Tryd.underlying22 Tryd.underlying5 Tryd.underlying9 (fun j hj => by
    rw [addr_add0, Nat.zero_add]; exact hc j hj)

/-- The block that '[]byte(y)' has laid. -/
theorem bytes_world (w : World) (y : ByteArray) (cap : Nat) (W : World) (hW : W = (w.alloc (Obj.cells (bytesRow y cap) 5 ((bytesRow y cap).size, (bytesRow y cap).size + 1))).drew) :
    (∀ k, k < y.size → W.cell? ⟨w.heap.size, k, none⟩ = some (.int .u8 (((y.data.toList[k]?).getD 0).toNat : Int))) ∧ (∀ k, k < y.size → W.frozen? ⟨w.heap.size, k, none⟩ = false) ∧ Below w.heap.size w W ∧ W.heap.size = w.heap.size + 1 := by
  subst hW
  refine ⟨fun k hk => ?_, fun k hk => ?_, ((Below.refl _ _).alloc (Nat.le_refl _) _).drew, by simp⟩
  · show (w.alloc _).cell? _ = _
    rw [World.cell?_alloc_mark]
    have hk' : k < y.data.size := hk
    simp [bytesRow, Array.getElem?_append]
    rw [if_pos hk]
    simp [Array.getElem?_eq_getElem hk']
  · show (w.alloc _).frozen? _ = _
    rw [World.frozen?_alloc_mark]
    have hk' : k < y.data.size := hk
    simp [bytesRow]
    omega

theorem xor_byte (c : UInt8) (m : Int) (h0 : 1 ≤ m) (h1 : m ≤ 255) : ∃ b : UInt8, b ≠ c ∧ bits .xor .u8 (c.toNat : Int) m = (b.toNat : Int) := by
  obtain ⟨M, rfl⟩ := Int.eq_ofNat_of_zero_le (show (0 : Int) ≤ m by omega)
  have hc := UInt8.toNat_lt c
  have hx : c.toNat ^^^ M < 2 ^ 8 := Nat.xor_lt_two_pow (by omega) (by omega)
  have hb : (UInt8.ofNat (c.toNat ^^^ M)).toNat = c.toNat ^^^ M := UInt8.toNat_ofNat_of_lt hx
  refine ⟨UInt8.ofNat (c.toNat ^^^ M), fun e => ?_, ?_⟩
  · rw [e] at hb
    have h2 : c.toNat ^^^ (c.toNat ^^^ M) = c.toNat ^^^ c.toNat := by rw [← hb]
    rw [← Nat.xor_assoc, Nat.xor_self, Nat.zero_xor] at h2
    omega
  · rw [hb]; exact u8_xor_nat _ _ (by omega) (by omega)

theorem set_cells {W : World} {bk k : Nat} {L : List UInt8} {b : UInt8} (hk : k < L.length) (hc : ∀ j, j < L.length → W.cell? ⟨bk, j, none⟩ = some (.int .u8 (((L[j]?).getD 0).toNat : Int))) :
    ∀ j (hj : j < (L.set k b).length), (W.setCell ⟨bk, k, none⟩ (.int .u8 (b.toNat : Int))).cell? ⟨bk, j, none⟩ = some (.int .u8 ((L.set k b)[j].toNat : Int)) := by
  intro j hj
  by_cases e : j = k
  · subst e
    rw [World.cell?_setCell_same' _ _ _ (by rw [hc j hk]; rfl)]; simp
  · have hj' : j < L.length := by simpa using hj
    rw [World.cell?_setCell_other _ _ _ _ (fun h => e (by injection h with _ h2 _; exact h2.symm)), hc j hj']
    simp [List.getElem_set_ne (Ne.symm e), List.getElem?_eq_getElem hj']

theorem vAt_is (a : Option Addr) (len cap : Nat) (zs : List Int) (i : Int) (w : World) (h : IsRow .u8 w a len cap zs) (hl : len ≤ 1099511627776) (h0 : 0 ≤ i) (h1 : i ≤ 1000) :
    ∃ r : Int, 0 ≤ r ∧ r ≤ 255 ∧ Calls Tryd.prog 19 #[.slice a len cap, .int .i64 i] w fun e w' => e = .returned (.int .i64 r) ∧ w' = w := by
  obtain ⟨k, rfl⟩ := Int.eq_ofNat_of_zero_le h0
  by_cases hk : k < len
  · rcases h with ⟨rfl, rfl, rfl, rfl⟩ | ⟨x, rfl, hlc, hm, hz, hcell, hw⟩
    · omega
    · obtain ⟨b, off, spot⟩ := x
      have hc := hcell 0 (by omega)
      have hspot : spot = none := by simpa [Addr.add] using World.cell?_spot hc
      subst hspot
      have hci := hcell k (by omega)
      rw [addr_add0] at hci
      have hi' : k < zs.length := by omega
      have hwf := hw (zs.getD k 0) (by rw [show zs.getD k 0 = zs[k] by simp [List.getD, List.getElem?_eq_getElem hi']]; exact List.getElem_mem hi')
      obtain ⟨z, hzz⟩ : ∃ z, zs.getD k 0 = z := ⟨_, rfl⟩
      rw [hzz] at hci hwf
      simp [Lit.wf, IntKind.min, IntKind.max, IntKind.signed, IntKind.bits] at hwf
      obtain ⟨z0, z1⟩ := hwf
      clear hc hcell hw hzz hi' hz hm
      have g1 : (k : Int) < (len : Int) := by omega
      refine ⟨z, by omega, by omega, ?_⟩
      go_enter Tryd.func19, Tryd.ntmps19
      go_wp2
      go_ret
      exact ⟨rfl, rfl⟩
  · clear h
    refine ⟨((k : Int) * 7 + (len : Int)) % 256, by omega, by omega, ?_⟩
    go_enter Tryd.func19, Tryd.ntmps19
    go_wp2
    go_ret
    exact ⟨rfl, rfl⟩

set_option maxHeartbeats 4000000 in
set_option maxRecDepth 8000 in
theorem walkStrings (a : Option Addr) (len cap : Nat) (zs : List Int) (w : World) (hi : IsRow .u8 w a len cap zs) (ht : Env w) :
    Calls Tryd.prog 3 #[.slice a len cap] w fun e w' => e = .returned (.bool true) ∧ Below w.heap.size w w' := by
  have HI := Lib.hid hi
  have HT := Lib.hid ht
  have hll := hi.len_le
  clear hi ht
  have hcv2 := fun w s => run_bytes_of_string (P := Tryd.prog) w 9 22 5 s Tryd.underlying9 Tryd.underlying22 Tryd.underlying5
  by_cases hbig : 65536 < len
  · go_enter Tryd.func3, Tryd.ntmps3
    go_wp2_with fail
    refine (vBig_any a len cap _ true (by simp; omega) hll).mono ?_
    rintro e w' ⟨rfl, rfl⟩
    go_wp2
    go_ret
    exact ⟨rfl, Below.refl _ _⟩
  · go_enter Tryd.func3, Tryd.ntmps3
    go_wp2_with fail
    refine (vBig_any a len cap _ false (by simp; omega) hll).mono ?_
    rintro e w' ⟨rfl, rfl⟩
    go_wp2_with fail
    refine (drawFormat_any a len cap zs _ HI.out (by omega)).mono ?_
    rintro e w1 ⟨n, rfl, hn0, hn1, hb1⟩
    obtain ⟨fs, fb, pn, pb, hf, hp, hfz, hfp⟩ := fmt_parse n
    have HF := Lib.hid hf
    have HP := Lib.hid hp
    have HFP := Lib.hid hfp
    have HI1 := Lib.hid (HI.out.later hb1)
    have HT1 := Lib.hid (HT.out.later hb1)
    have z1 := hb1.size
    clear hf hp hfp
    go_wp2_with fail
    refine (HF.out ▸ implFormat_any n _ HT1.out.1).mono ?_
    rintro e w2 ⟨rfl, hb2⟩
    have HI2 := Lib.hid (HI1.out.later hb2)
    have HT2 := Lib.hid (HT1.out.later hb2)
    have HB2 := Lib.hid (hb1.trans (hb2.mono z1))
    have z2 := HB2.out.size
    clear hb1 hb2
    go_wp2_with fail
    refine (HF.out ▸ specFormat_any n _).mono ?_
    rintro e w3 ⟨rfl, hb3⟩
    have HI3 := Lib.hid (HI2.out.later hb3)
    have HT3 := Lib.hid (HT2.out.later hb3)
    have HB3 := Lib.hid (HB2.out.trans (hb3.mono z2))
    have z3 := HB3.out.size
    clear hb3
    go_wp2_with fail
    refine (drawParse_any a len cap zs _ HI3.out (by omega)).mono ?_
    rintro e w4 ⟨t, rfl, hts, hb4⟩
    have HI4 := Lib.hid (HI3.out.later hb4)
    have HT4 := Lib.hid (HT3.out.later hb4)
    have HB4 := Lib.hid (HB3.out.trans (hb4.mono z3))
    have z4 := HB4.out.size
    obtain ⟨tn, tb, htn⟩ := num_shape t.data.toList
    have HTN := Lib.hid htn
    clear hb4 htn
    go_wp2_with fail
    refine (HTN.out ▸ implParse_any t _ (by omega) HT4.out.1).mono ?_
    rintro e w5 ⟨rfl, hb5⟩
    have HI5 := Lib.hid (HI4.out.later hb5)
    have HT5 := Lib.hid (HT4.out.later hb5)
    have HB5 := Lib.hid (HB4.out.trans (hb5.mono z4))
    have z5 := HB5.out.size
    clear hb5
    go_wp2_with fail
    refine (HTN.out ▸ specParse_any t _ (by omega)).mono ?_
    rintro e w6 ⟨rfl, hb6⟩
    have HI6 := Lib.hid (HI5.out.later hb6)
    have HT6 := Lib.hid (HT5.out.later hb6)
    have HB6 := Lib.hid (HB5.out.trans (hb6.mono z5))
    have z6 := HB6.out.size
    clear hb6
    go_wp2_with fail
    refine (drawAppend_any a len cap zs _ HI6.out (by omega)).mono ?_
    rintro e w7 ⟨x, rfl, hxs, hb7⟩
    have HI7 := Lib.hid (HI6.out.later hb7)
    have HT7 := Lib.hid (HT6.out.later hb7)
    have HB7 := Lib.hid (HB6.out.trans (hb7.mono z6))
    have z7 := HB7.out.size
    clear hb7
    by_cases hg : SealGood x
    · have HG := Lib.hid hg
      have hA := sealAns_yes hg
      have HA := Lib.hid hA
      clear hg hA
      go_wp2_with fail
      refine (HA.out ▸ implAppend_any x _ (by omega) HT7.out.1).mono ?_
      rintro e w8 ⟨rfl, hb8⟩
      have HI8 := Lib.hid (HI7.out.later hb8)
      have HT8 := Lib.hid (HT7.out.later hb8)
      have HB8 := Lib.hid (HB7.out.trans (hb8.mono z7))
      have z8 := HB8.out.size
      clear hb8
      go_wp2_with fail
      refine (HA.out ▸ specAppend_any x _ (by omega)).mono ?_
      rintro e w9 ⟨rfl, hb9⟩
      have HI9 := Lib.hid (HI8.out.later hb9)
      have HT9 := Lib.hid (HT8.out.later hb9)
      have HB9 := Lib.hid (HB8.out.trans (hb9.mono z8))
      have z9 := HB9.out.size
      clear hb9
      go_wp2_with fail
      refine (HP.out ▸ implParse_any fs _ (by omega) HT9.out.1).mono ?_
      rintro e w10 ⟨rfl, hb10⟩
      have HI10 := Lib.hid (HI9.out.later hb10)
      have HT10 := Lib.hid (HT9.out.later hb10)
      have HB10 := Lib.hid (HB9.out.trans (hb10.mono z9))
      have z10 := HB10.out.size
      clear hb10
      have hszy : (sealOf x).size ≤ 4000 := HG.out.2.2
      have hszy0 : 0 < (sealOf x).size := by rw [sealOf_size]; omega
      cases fb with
      | true =>
        obtain ⟨rfl, rfl⟩ := HFP.out rfl
        go_wp2_with fail
        refine (ver_seal HG.out ▸ implVerify_any (sealOf x) _ (by omega) HT10.out).mono ?_
        rintro e w11 ⟨rfl, hb11⟩
        have HI11 := Lib.hid (HI10.out.later hb11)
        have HT11 := Lib.hid (HT10.out.later hb11)
        have HB11 := Lib.hid (HB10.out.trans (hb11.mono z10))
        have z11 := HB11.out.size
        clear hb11
        go_wp2_with fail
        obtain ⟨CAP, hCAP⟩ : ∃ CAP, grownCap w11 (sealOf x).size 0 5 = CAP := ⟨_, rfl⟩
        rw [hCAP]
        obtain ⟨W1, hW1⟩ : ∃ W1, W1 = (w11.alloc (Obj.cells (bytesRow (sealOf x) CAP) 5 ((bytesRow (sealOf x) CAP).size, (bytesRow (sealOf x) CAP).size + 1))).drew := ⟨_, rfl⟩
        rw [← hW1]
        obtain ⟨hcellW, hfrW, hbW, hzW⟩ := bytes_world w11 (sealOf x) CAP W1 hW1
        have HCW := Lib.hid hcellW
        have HFW := Lib.hid hfrW
        have HIW := Lib.hid (HI11.out.later hbW)
        have HTW := Lib.hid (HT11.out.later hbW)
        have HBW := Lib.hid (HB11.out.trans (hbW.mono z11))
        have hbWH := Lib.hid hbW
        clear hcellW hfrW hbW hCAP hW1
        refine (vAt_any a len cap zs 9 _ HIW.out (by omega) (by omega) (by omega)).mono ?_
        rintro e w' ⟨r9, rfl, hr0, hr1, rfl⟩
        obtain ⟨q9, rfl⟩ := Int.eq_ofNat_of_zero_le hr0
        obtain ⟨k, hk⟩ : ∃ k, q9 % (sealOf x).size = k := ⟨_, rfl⟩
        have hklt : k < (sealOf x).size := by rw [← hk]; exact Nat.mod_lt _ hszy0
        have fk := HCW.out k hklt
        have eL : (sealOf x).data.toList = sealL x.data.toList := by simp [sealOf]
        rw [eL] at fk
        have ffk := HFW.out k hklt
        have hki : (q9 : Int) % ((sealOf x).size : Int) = (k : Int) := by omega
        have g0 : (0 : Int) ≤ (k : Int) := by omega
        have g1 : (k : Int) < ((sealOf x).size : Int) := by omega
        have hsi : (0 : Int) < ((sealOf x).size : Int) := by omega
        obtain ⟨c, hc⟩ : ∃ c, ((sealL x.data.toList)[k]?).getD 0 = c := ⟨_, rfl⟩
        rw [hc] at fk
        have HCC := Lib.hid hc
        have hcb := UInt8.toNat_lt c
        clear hk hc
        go_wp2_with fail
        obtain ⟨r10, hs0, hs1, hcall⟩ := vAt_is a len cap zs 10 W1.drew (HIW.out.later ((Below.refl _ _).drew)) (by omega) (by omega) (by omega)
        have hm0 : 0 ≤ 1 + r10 % 255 := by omega
        have hm1 : 1 + r10 % 255 ≤ 255 := by omega
        go_still_tail 13, (by kernel_rfl)
        still_call hcall
        repeat still_step
        refine wpStill_nil ?_
        change wpList _ _ _ _ _ W1.drew
        have fk2 : W1.drew.cell? ⟨w11.heap.size, k, none⟩ = some (.int .u8 (c.toNat : Int)) := fk
        have ffk2 : W1.drew.frozen? ⟨w11.heap.size, k, none⟩ = false := ffk
        obtain ⟨W2, hW2⟩ : ∃ W2, W1.drew = W2 := ⟨_, rfl⟩
        rw [hW2] at fk2 ffk2
        rw [hW2]
        have eS : (sealL x.data.toList).length = (sealOf x).size := by rw [← eL]; rfl
        obtain ⟨b, hbc, hbx⟩ := xor_byte c (1 + r10 % 255) (by omega) (by omega)
        have hkL : k < (sealL x.data.toList).length := by omega
        have hver := ver_changed HG.out k b hkL (by
          have := HCC.out
          rw [List.getElem?_eq_getElem hkL] at this
          intro e; exact hbc (e.trans this))
        obtain ⟨Y, hY⟩ : ∃ Y : ByteArray, Y = ⟨((sealL x.data.toList).set k b).toArray⟩ := ⟨_, rfl⟩
        have hYs : Y.size = (sealOf x).size := by rw [hY]; show (List.toArray _).size = _; simp [eS]
        have HCV := conv_row (W2.setCell ⟨w11.heap.size, k, none⟩ (.int .u8 (b.toNat : Int))) w11.heap.size CAP (sealOf x).size ((sealL x.data.toList).set k b) (by simp [eS])
          (set_cells hkL (fun j hj => by rw [← hW2, ← eL]; exact HCW.out j (by omega)))
        rw [← hbx, ← hY] at HCV
        rw [← hY] at hver
        have HV := Lib.hid hver
        have HB2 := Lib.hid (((HBW.out.drew).setCell (p := ⟨w11.heap.size, k, none⟩) (by show w.heap.size ≤ w11.heap.size; omega) (.int .u8 (bits .xor .u8 (c.toNat : Int) (1 + r10 % 255)))))
        have HT2 := Lib.hid (HT11.out.later ((hbWH.out.drew).setCell (p := ⟨w11.heap.size, k, none⟩) (Nat.le_refl _) (.int .u8 (bits .xor .u8 (c.toNat : Int) (1 + r10 % 255)))))
        rw [hW2] at HB2 HT2
        clear hY hver hbx hbc
        go_wp2_with fail
        obtain ⟨W3, hW3⟩ : ∃ W3, W2.setCell ⟨w11.heap.size, k, none⟩ (.int .u8 (bits .xor .u8 (c.toNat : Int) (1 + r10 % 255))) = W3 := ⟨_, rfl⟩
        rw [hW3] at HB2 HT2 HCV ⊢
        refine (HV.out ▸ implVerify_any Y _ (by omega) HT2.out).mono ?_
        rintro e w12 ⟨rfl, hb12⟩
        have HB12 := Lib.hid (HB2.out.trans (hb12.mono HB2.out.size))
        clear hb12
        go_wp2
        go_ret
        exact ⟨rfl, HB12.out⟩
      | false =>
        clear HFP
        go_wp2_with fail
        refine (ver_seal HG.out ▸ implVerify_any (sealOf x) _ (by omega) HT10.out).mono ?_
        rintro e w11 ⟨rfl, hb11⟩
        have HI11 := Lib.hid (HI10.out.later hb11)
        have HT11 := Lib.hid (HT10.out.later hb11)
        have HB11 := Lib.hid (HB10.out.trans (hb11.mono z10))
        have z11 := HB11.out.size
        clear hb11
        go_wp2_with fail
        obtain ⟨CAP, hCAP⟩ : ∃ CAP, grownCap w11 (sealOf x).size 0 5 = CAP := ⟨_, rfl⟩
        rw [hCAP]
        obtain ⟨W1, hW1⟩ : ∃ W1, W1 = (w11.alloc (Obj.cells (bytesRow (sealOf x) CAP) 5 ((bytesRow (sealOf x) CAP).size, (bytesRow (sealOf x) CAP).size + 1))).drew := ⟨_, rfl⟩
        rw [← hW1]
        obtain ⟨hcellW, hfrW, hbW, hzW⟩ := bytes_world w11 (sealOf x) CAP W1 hW1
        have HCW := Lib.hid hcellW
        have HFW := Lib.hid hfrW
        have HIW := Lib.hid (HI11.out.later hbW)
        have HTW := Lib.hid (HT11.out.later hbW)
        have HBW := Lib.hid (HB11.out.trans (hbW.mono z11))
        have hbWH := Lib.hid hbW
        clear hcellW hfrW hbW hCAP hW1
        refine (vAt_any a len cap zs 9 _ HIW.out (by omega) (by omega) (by omega)).mono ?_
        rintro e w' ⟨r9, rfl, hr0, hr1, rfl⟩
        obtain ⟨q9, rfl⟩ := Int.eq_ofNat_of_zero_le hr0
        obtain ⟨k, hk⟩ : ∃ k, q9 % (sealOf x).size = k := ⟨_, rfl⟩
        have hklt : k < (sealOf x).size := by rw [← hk]; exact Nat.mod_lt _ hszy0
        have fk := HCW.out k hklt
        have eL : (sealOf x).data.toList = sealL x.data.toList := by simp [sealOf]
        rw [eL] at fk
        have ffk := HFW.out k hklt
        have hki : (q9 : Int) % ((sealOf x).size : Int) = (k : Int) := by omega
        have g0 : (0 : Int) ≤ (k : Int) := by omega
        have g1 : (k : Int) < ((sealOf x).size : Int) := by omega
        have hsi : (0 : Int) < ((sealOf x).size : Int) := by omega
        obtain ⟨c, hc⟩ : ∃ c, ((sealL x.data.toList)[k]?).getD 0 = c := ⟨_, rfl⟩
        rw [hc] at fk
        have HCC := Lib.hid hc
        have hcb := UInt8.toNat_lt c
        clear hk hc
        go_wp2_with fail
        obtain ⟨r10, hs0, hs1, hcall⟩ := vAt_is a len cap zs 10 W1.drew (HIW.out.later ((Below.refl _ _).drew)) (by omega) (by omega) (by omega)
        have hm0 : 0 ≤ 1 + r10 % 255 := by omega
        have hm1 : 1 + r10 % 255 ≤ 255 := by omega
        go_still_tail 13, (by kernel_rfl)
        still_call hcall
        repeat still_step
        refine wpStill_nil ?_
        change wpList _ _ _ _ _ W1.drew
        have fk2 : W1.drew.cell? ⟨w11.heap.size, k, none⟩ = some (.int .u8 (c.toNat : Int)) := fk
        have ffk2 : W1.drew.frozen? ⟨w11.heap.size, k, none⟩ = false := ffk
        obtain ⟨W2, hW2⟩ : ∃ W2, W1.drew = W2 := ⟨_, rfl⟩
        rw [hW2] at fk2 ffk2
        rw [hW2]
        have eS : (sealL x.data.toList).length = (sealOf x).size := by rw [← eL]; rfl
        obtain ⟨b, hbc, hbx⟩ := xor_byte c (1 + r10 % 255) (by omega) (by omega)
        have hkL : k < (sealL x.data.toList).length := by omega
        have hver := ver_changed HG.out k b hkL (by
          have := HCC.out
          rw [List.getElem?_eq_getElem hkL] at this
          intro e; exact hbc (e.trans this))
        obtain ⟨Y, hY⟩ : ∃ Y : ByteArray, Y = ⟨((sealL x.data.toList).set k b).toArray⟩ := ⟨_, rfl⟩
        have hYs : Y.size = (sealOf x).size := by rw [hY]; show (List.toArray _).size = _; simp [eS]
        have HCV := conv_row (W2.setCell ⟨w11.heap.size, k, none⟩ (.int .u8 (b.toNat : Int))) w11.heap.size CAP (sealOf x).size ((sealL x.data.toList).set k b) (by simp [eS])
          (set_cells hkL (fun j hj => by rw [← hW2, ← eL]; exact HCW.out j (by omega)))
        rw [← hbx, ← hY] at HCV
        rw [← hY] at hver
        have HV := Lib.hid hver
        have HB2 := Lib.hid (((HBW.out.drew).setCell (p := ⟨w11.heap.size, k, none⟩) (by show w.heap.size ≤ w11.heap.size; omega) (.int .u8 (bits .xor .u8 (c.toNat : Int) (1 + r10 % 255)))))
        have HT2 := Lib.hid (HT11.out.later ((hbWH.out.drew).setCell (p := ⟨w11.heap.size, k, none⟩) (Nat.le_refl _) (.int .u8 (bits .xor .u8 (c.toNat : Int) (1 + r10 % 255)))))
        rw [hW2] at HB2 HT2
        clear hY hver hbx hbc
        go_wp2_with fail
        obtain ⟨W3, hW3⟩ : ∃ W3, W2.setCell ⟨w11.heap.size, k, none⟩ (.int .u8 (bits .xor .u8 (c.toNat : Int) (1 + r10 % 255))) = W3 := ⟨_, rfl⟩
        rw [hW3] at HB2 HT2 HCV ⊢
        refine (HV.out ▸ implVerify_any Y _ (by omega) HT2.out).mono ?_
        rintro e w12 ⟨rfl, hb12⟩
        have HB12 := Lib.hid (HB2.out.trans (hb12.mono HB2.out.size))
        clear hb12
        go_wp2
        go_ret
        exact ⟨rfl, HB12.out⟩
    · have hA := sealAns_no hg
      have HA := Lib.hid hA
      clear hg hA
      go_wp2_with fail
      refine (HA.out ▸ implAppend_any x _ (by omega) HT7.out.1).mono ?_
      rintro e w8 ⟨rfl, hb8⟩
      have HI8 := Lib.hid (HI7.out.later hb8)
      have HT8 := Lib.hid (HT7.out.later hb8)
      have HB8 := Lib.hid (HB7.out.trans (hb8.mono z7))
      have z8 := HB8.out.size
      clear hb8
      go_wp2_with fail
      refine (HA.out ▸ specAppend_any x _ (by omega)).mono ?_
      rintro e w9 ⟨rfl, hb9⟩
      have HI9 := Lib.hid (HI8.out.later hb9)
      have HT9 := Lib.hid (HT8.out.later hb9)
      have HB9 := Lib.hid (HB8.out.trans (hb9.mono z8))
      have z9 := HB9.out.size
      clear hb9
      go_wp2_with fail
      refine (HP.out ▸ implParse_any fs _ (by omega) HT9.out.1).mono ?_
      rintro e w10 ⟨rfl, hb10⟩
      have HB10 := Lib.hid (HB9.out.trans (hb10.mono z9))
      clear hb10
      cases fb with
      | true =>
        obtain ⟨rfl, rfl⟩ := HFP.out rfl
        go_wp2
        go_ret
        exact ⟨rfl, HB10.out⟩
      | false =>
        clear HFP
        go_wp2
        go_ret
        exact ⟨rfl, HB10.out⟩
end Go.Proofs.YtfjfnbpfeijmnaaDoor
