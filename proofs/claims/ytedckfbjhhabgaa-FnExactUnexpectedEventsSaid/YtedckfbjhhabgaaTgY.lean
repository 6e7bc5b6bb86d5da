/- The expected day: ExpectedDay of the program's; l10Day, l10Free, ExpectedDay of the model's. -/
import Derived.Test.YtedckfbjhhabgaaTgX
import Derived.Test.YtedckfbjhhabgaaRuAct
namespace Go.Proofs.Ytedckfbjhhabgaa
set_option linter.unusedVariables false
open Go.RowKit Go.Sort Go.Maps

theorem nil_look (x : Int) (W : World) : (Instr.lookup 85 (.map none) (.int .i64 x) true).run Try.prog W = .ok (.tuple #[.int .i64 0, .bool false]) W := by kernel_rfl
theorem days_look {D : DataW Unit} {t : List Tg} (hf : freeB t = true) (h : DKL D t (fun _ => false)) (x : Int) : has D (.int .i64 x) = (edRes t x).2 ∧ ∀ c, D.atKey (.int .i64 x) (.lit (.int .i64 0)) = .lit (.int .i64 c) → c = (edRes t x).1 := by
  obtain ⟨ht, hc⟩ := freeB_iff.1 hf
  have he : edayX t x = dayX t x := by unfold edayX; rw [if_pos hf]
  have hh := h.has_ x
  simp only [Bool.not_false, Bool.and_true] at hh
  unfold edRes
  rw [he]
  by_cases q : dayX t x < 0
  · rw [if_pos q]
    have hn : has D (.int .i64 x) = false := by rw [hh]; exact decide_eq_false (fun z => by omega)
    refine ⟨hn, fun c hcc => ?_⟩
    rw [atKey_of_not_has hn] at hcc
    cases hcc
    rfl
  · rw [if_neg q]
    have hx : 0 ≤ x ∧ x < 10 := by
      by_cases z : 0 ≤ x ∧ x ≤ 9
      · omega
      · have := dayX_out ht hc z; omega
    have hy : has D (.int .i64 x) = true := by rw [hh]; exact decide_eq_true ⟨hx, by omega⟩
    refine ⟨hy, fun c hcc => ?_⟩
    rw [h.at_ x hy] at hcc
    cases hcc
    rfl
theorem ed_nofree {t : List Tg} (hf : freeB t = false) (x : Int) : edRes t x = (0, false) := by unfold edRes edayX; rw [hf]; rfl
set_option maxHeartbeats 4000000 in
theorem implExpectedDay_any (v : Value) (t : List Tg) (x : Int) (w : World) (h : RowR 3 rTg w v t) (hx : inI x) (n : Int) (b : Bool) (hres : edRes t x = (n, b)) :
    Calls Try.prog 41 #[v, .int .i64 x] w fun e w' => e = .returned (.tuple #[.int .i64 n, .bool b]) ∧ Below w.heap.size w w' := by
  have HKEY := Lib.hid (key_n x hx)
  have HRES := Lib.hid hres
  have hnl := nil_look x
  have H := Lib.hid h
  clear h hres hx
  go_enter Try.func41, Try.ntmps41
  go_wp2_with fail
  refine (expectedDays_any _ t _ H.out).mono ?_
  rintro e w1 ⟨b1, h1⟩
  rcases h1 with ⟨hf, rfl⟩ | ⟨hf, mb, nn, D, rfl, hm, hd⟩
  · have HQ : Hid (n = 0 ∧ b = false) := Lib.hid (by have := HRES.out; rw [ed_nofree hf] at this; obtain ⟨h1, h2⟩ := Prod.mk.inj this; exact ⟨h1.symm, h2.symm⟩)
    clear hf
    go_wp2_with fail
    go_ret2
    exact ⟨by rw [HQ.out.1, HQ.out.2]; rfl, b1⟩
  · have HM := Lib.hid hm
    have HL := Lib.hid (days_look hf hd x)
    clear hm hd hf hnl
    go_wp2_with (first | (at_lookup; refine wpList_lookup_own_ok_int _ rfl _ _ 85 rfl 3 3 .i64 (int_keyed Try.underlying3) Try.underlying85 Try.underlying3 (zero_intX _) mb nn D rfl HM.out (.int .i64 x) (.int .i64 x) rfl HKEY.out ?_; intro c hat hwc; have HC := Lib.hid (HL.out.2 c hat); rw [HL.out.1]; clear hat hwc))
    go_ret2
    exact ⟨by rw [HC.out, HRES.out]; rfl, b1⟩
set_option maxRecDepth 20000 in
set_option maxHeartbeats 8000000 in
theorem l10Day_any (t : List Tg) (ht : areTg t = true) (hc : cycF t = none) : ∀ (f : Nat) (v : Value) (x : Int) (w : World), RowR 3 rTg w v t → shortW t x f →
    Calls Try.prog 74 #[v, .int .i64 x] w fun e w' => e = .returned (.int .i64 (dayX t x)) ∧ Below w.heap.size w w' := by
  intro f
  induction f with
  | zero => intro v x w _ h; exact absurd (shortW_pos h) (Nat.lt_irrefl _)
  | succ f ih =>
    intro v x w h hsh
    have IH := Lib.hid ih
    have H := Lib.hid h
    have HT := Lib.hid ht
    have HC := Lib.hid hc
    have HSH := Lib.hid hsh
    have h10 := tg_len ht
    obtain ⟨a1, c1, hv, hl1, hm1, r1⟩ := h.tgs
    subst hv
    have R1 := Lib.hid r1
    unfold maxLen at hm1
    clear ih h ht hc hsh r1
    by_cases h0 : x = 0
    · have HZ : Hid (dayX t x = 0) := Lib.hid (by rw [h0]; exact dayX_zero t)
      have r0 : (x == 0) = true := by simp [h0]
      clear h0
      go_enter Try.func74, Try.ntmps74
      go_wp2_with fail
      go_ret
      exact ⟨ret_int HZ.out.symm, Below.refl _ _⟩
    · have r0 : (x == 0) = false := by simp [h0]
      obtain ⟨dk, hdk⟩ : ∃ d, dayX t x = d := ⟨_, rfl⟩
      have HDK : Hid (dk = dayGo (dayX t) x t (-1)) := Lib.hid (by rw [← hdk]; exact dayX_step HT.out HC.out h0)
      rw [hdk]
      clear h0 hdk
      go_enter Try.func74, Try.ntmps74
      go_wp2_with fail
      go_loopw [5, 6] (fun o i wr => ∃ (j : Nat) (m : Int), j ≤ t.length ∧ i = .int .i64 j ∧ o = .int .i64 m ∧ Hid (dk = dayGo (dayX t) x (t.drop j) m) ∧ -1 ≤ m ∧ m ≤ 200000 ∧ Below w.heap.size w wr) (fun _ i _ => t.length - (intOf i).toNat)
      case atStart => exact ⟨0, -1, Nat.zero_le _, rfl, rfl, Lib.hid (by rw [List.drop_zero]; exact HDK.out), by omega, by omega, Below.refl _ _⟩
      case round =>
        obtain ⟨j, m, hj, rfl, rfl, HGO, hm0, hm2, hb⟩ := hrel
        have hsz := hb.size
        by_cases hlt : j < t.length
        · obtain ⟨bb, o1, hbb, rfl, e1⟩ := R1.out.resolve_left (fun e => by rw [e] at hlt; simp at hlt)
          obtain ⟨⟨x0, x1, x2⟩, hx⟩ : ∃ s, t.getD j tgD = s := ⟨_, rfl⟩
          obtain ⟨q0, q1, q2, hok⟩ := e1 j hlt
          rw [hx] at q0 q1 q2
          simp only at q0 q1 q2
          have f0 := cell_kept q0 hb
          have f1 := cell_kept q1 hb
          have f2 := cell_kept q2 hb
          have hone := tgOne_iff.1 (tg_at HT.out hlt)
          rw [hx] at hone
          simp only at hone
          have hx2 := hone.2.2.2
          have HDR : Hid (t.drop j = ⟨x0, x1, x2⟩ :: t.drop (j + 1)) := Lib.hid (by rw [List.drop_eq_getElem_cons hlt, ← getTg_lt hlt, hx])
          have g0 : (0 : Int) ≤ (j : Int) := by omega
          have g1 : (j : Int) < (t.length : Int) := by omega
          have HXM : Hid ((⟨x0, x1, x2⟩ : Tg) ∈ t) := Lib.hid (by rw [← hx, getTg_lt hlt]; exact List.getElem_mem hlt)
          clear q0 q1 q2 hok e1 hx hone
          by_cases he : x0 = x
          · have rr : (x0 != x) = false := by simp [he]
            obtain ⟨d1, hd⟩ : ∃ d, dayX t x1 = d := ⟨_, rfl⟩
            have hdin := dayX_in HT.out x1
            rw [hd] at hdin
            have HS1 : Hid (shortW t x1 f) := Lib.hid (shortW_link (x := ⟨x0, x1, x2⟩) HSH.out (folL_mem.2 ⟨HXM.out, he⟩))
            have HCALL : Hid (∀ W, Below w.heap.size w W → Calls Try.prog 74 #[.slice (some ⟨bb, o1, none⟩) t.length c1, .int .i64 x1] W fun e w' => e = .returned (.int .i64 d1) ∧ Below W.heap.size W w') := Lib.hid (fun W hW => by
              have := IH.out (.slice (some ⟨bb, o1, none⟩) t.length c1) x1 W (H.out.below rTg_stable hW) HS1.out
              rwa [hd] at this)
            have HE := Lib.hid he
            have HD1 := Lib.hid hd
            clear he hd
            by_cases hneg : d1 < 0
            · have HR : Hid (dk = -1) := Lib.hid (by rw [HGO.out, HDR.out]; unfold dayGo; simp only; rw [if_pos HE.out, HD1.out, if_pos hneg])
              go_wp2_with fail
              refine (HCALL.out _ hb).mono ?_
              rintro e w2 ⟨rfl, b2⟩
              go_wp2_with fail
              go_ret
              exact ⟨ret_int HR.out.symm, hb.trans (b2.mono hsz)⟩
            · have HG2 : Hid (dk = dayGo (dayX t) x (t.drop (j + 1)) (max m (d1 + x2))) := Lib.hid (by rw [HGO.out, HDR.out]; conv => lhs; unfold dayGo; (simp only); rw [if_pos HE.out, HD1.out, if_neg hneg])
              have hs1 : d1 + x2 ≤ 110000 := by omega
              have hs2 : 0 ≤ d1 + x2 := by omega
              have HMB : Hid (-1 ≤ max m (d1 + x2) ∧ max m (d1 + x2) ≤ 200000) := Lib.hid (by omega)
              go_wp2_with fail
              refine (HCALL.out _ hb).mono ?_
              rintro e w2 ⟨rfl, b2⟩
              have y2 := cell_kept f2 b2
              go_wp2_with (first | (go_at_call 76; refine (l1Most_any m (d1 + x2) _).mono ?_; rintro e w3 ⟨rfl, h3⟩; subst w3))
              go_roundw
              case rel => exact ⟨j + 1, max m (d1 + x2), by omega, by go_num, rfl, HG2, HMB.out.1, HMB.out.2, hb.trans (b2.mono hsz)⟩
              case measure => simp [intOf]; omega
          · have rr : (x0 != x) = true := by simp [he]
            have HG2 : Hid (dk = dayGo (dayX t) x (t.drop (j + 1)) m) := Lib.hid (by rw [HGO.out, HDR.out]; conv => lhs; unfold dayGo; (simp only); rw [if_neg he])
            clear he
            go_wp2_with fail
            go_roundw
            case rel => exact ⟨j + 1, m, by omega, by go_num, rfl, HG2, hm0, hm2, hb⟩
            case measure => simp [intOf]; omega
        · have HR : Hid (dk = m) := Lib.hid (by rw [HGO.out, show j = t.length by omega, List.drop_length]; rfl)
          go_wp2_with fail
          go_ret
          exact ⟨ret_int HR.out.symm, hb⟩
set_option maxHeartbeats 4000000 in
theorem l10Free_any (v : Value) (t : List Tg) (w : World) (h : RowR 3 rTg w v t) : Calls Try.prog 72 #[v] w fun e w' => e = .returned (.bool (freeB t)) ∧ Below w.heap.size w w' := by
  have H := Lib.hid h
  obtain ⟨f, b, hres⟩ : ∃ f b, hcRes t = (f, b) := ⟨_, _, rfl⟩
  have HRES := Lib.hid hres
  have HX : Hid (freeB t = (b && !f)) := Lib.hid (by
    unfold hcRes at hres
    unfold freeB
    rcases ha : areTg t with _ | _
    · rw [ha, if_neg (by simp)] at hres
      obtain ⟨rfl, rfl⟩ := Prod.mk.inj hres
      rfl
    · rw [ha, if_pos rfl] at hres
      obtain ⟨rfl, rfl⟩ := Prod.mk.inj hres
      rcases cycF t with _ | p <;> rfl)
  rw [HX.out]
  clear h hres
  cases b
  · go_enter Try.func72, Try.ntmps72
    go_wp2_with (first | (go_at_call 35; refine (specHasCycle_any _ t _ H.out f false HRES.out).mono ?_; rintro e w1 ⟨rfl, b1⟩))
    go_ret
    exact ⟨rfl, b1⟩
  · cases f
    · go_enter Try.func72, Try.ntmps72
      go_wp2_with (first | (go_at_call 35; refine (specHasCycle_any _ t _ H.out false true HRES.out).mono ?_; rintro e w1 ⟨rfl, b1⟩))
      go_ret
      exact ⟨rfl, b1⟩
    · go_enter Try.func72, Try.ntmps72
      go_wp2_with (first | (go_at_call 35; refine (specHasCycle_any _ t _ H.out true true HRES.out).mono ?_; rintro e w1 ⟨rfl, b1⟩))
      go_ret
      exact ⟨rfl, b1⟩
set_option maxHeartbeats 4000000 in
theorem specExpectedDay_any (v : Value) (t : List Tg) (x : Int) (w : World) (h : RowR 3 rTg w v t) (n : Int) (b : Bool) (hres : edRes t x = (n, b)) :
    Calls Try.prog 40 #[v, .int .i64 x] w fun e w' => e = .returned (.tuple #[.int .i64 n, .bool b]) ∧ Below w.heap.size w w' := by
  have H := Lib.hid h
  have HRES := Lib.hid hres
  obtain ⟨bf, hbf⟩ : ∃ b, freeB t = b := ⟨_, rfl⟩
  have HBF := Lib.hid hbf
  clear h hres hbf
  cases bf
  · have HQ : Hid (n = 0 ∧ b = false) := Lib.hid (by have := HRES.out; rw [ed_nofree HBF.out] at this; obtain ⟨h1, h2⟩ := Prod.mk.inj this; exact ⟨h1.symm, h2.symm⟩)
    go_enter Try.func40, Try.ntmps40
    go_wp2_with fail
    refine (l10Free_any _ t _ H.out).mono ?_
    rw [HBF.out]
    rintro e w1 ⟨rfl, b1⟩
    go_wp2_with fail
    go_ret2
    exact ⟨by rw [HQ.out.1, HQ.out.2]; rfl, b1⟩
  · obtain ⟨ht, hc⟩ := freeB_iff.1 HBF.out
    have HT := Lib.hid ht
    have HC := Lib.hid hc
    obtain ⟨d, hd⟩ : ∃ d, dayX t x = d := ⟨_, rfl⟩
    have HE : Hid (edRes t x = if d < 0 then (0, false) else (d, true)) := Lib.hid (by unfold edRes edayX; rw [if_pos HBF.out, hd])
    have HDD := Lib.hid hd
    have HLD : Hid (∀ W, Below w.heap.size w W → Calls Try.prog 74 #[v, .int .i64 x] W fun e w' => e = .returned (.int .i64 d) ∧ Below W.heap.size W w') := Lib.hid (fun W hW => by
      have := l10Day_any t HT.out HC.out 10 v x W (H.out.below rTg_stable hW) (shortW_ten HT.out HC.out x)
      rwa [hd] at this)
    obtain ⟨bi, hbi⟩ : ∃ b, decide (0 ≤ x ∧ x ≤ 9) = b := ⟨_, rfl⟩
    have HBI := Lib.hid hbi
    clear ht hc hd hbi
    cases bi
    · have HQ : Hid (n = 0 ∧ b = false) := Lib.hid (by
        have h1 := dayX_out HT.out HC.out (of_decide_eq_false HBI.out)
        rw [HDD.out] at h1
        have := HRES.out; rw [HE.out, if_pos (by omega)] at this; obtain ⟨h1, h2⟩ := Prod.mk.inj this; exact ⟨h1.symm, h2.symm⟩)
      go_enter Try.func40, Try.ntmps40
      go_wp2_with fail
      refine (l10Free_any _ t _ H.out).mono ?_
      rw [HBF.out]
      rintro e w1 ⟨rfl, b1⟩
      go_wp2_with fail
      refine (l1In_any _ _ _ _).mono ?_
      rw [HBI.out]
      rintro e w2 ⟨rfl, h2⟩
      subst w2
      go_wp2_with fail
      go_ret2
      exact ⟨by rw [HQ.out.1, HQ.out.2]; rfl, b1⟩
    · by_cases hneg : d < 0
      · have HQ : Hid (n = 0 ∧ b = false) := Lib.hid (by have := HRES.out; rw [HE.out, if_pos hneg] at this; obtain ⟨h1, h2⟩ := Prod.mk.inj this; exact ⟨h1.symm, h2.symm⟩)
        go_enter Try.func40, Try.ntmps40
        go_wp2_with fail
        refine (l10Free_any _ t _ H.out).mono ?_
        rw [HBF.out]
        rintro e w1 ⟨rfl, b1⟩
        go_wp2_with fail
        refine (l1In_any _ _ _ _).mono ?_
        rw [HBI.out]
        rintro e w2 ⟨rfl, h2⟩
        subst w2
        go_wp2_with fail
        refine (HLD.out _ b1).mono ?_
        rintro e w3 ⟨rfl, b3⟩
        go_wp2_with fail
        go_ret2
        exact ⟨by rw [HQ.out.1, HQ.out.2]; rfl, b1.trans (b3.mono b1.size)⟩
      · have HQ : Hid (n = d ∧ b = true) := Lib.hid (by have := HRES.out; rw [HE.out, if_neg hneg] at this; obtain ⟨h1, h2⟩ := Prod.mk.inj this; exact ⟨h1.symm, h2.symm⟩)
        go_enter Try.func40, Try.ntmps40
        go_wp2_with fail
        refine (l10Free_any _ t _ H.out).mono ?_
        rw [HBF.out]
        rintro e w1 ⟨rfl, b1⟩
        go_wp2_with fail
        refine (l1In_any _ _ _ _).mono ?_
        rw [HBI.out]
        rintro e w2 ⟨rfl, h2⟩
        subst w2
        go_wp2_with fail
        refine (HLD.out _ b1).mono ?_
        rintro e w3 ⟨rfl, b3⟩
        replace b3 := b1.trans (b3.mono b1.size)
        go_wp2_with fail
        refine (HLD.out _ b3).mono ?_
        rintro e w4 ⟨rfl, b4⟩
        go_wp2_with fail
        go_ret2
        exact ⟨by rw [HQ.out.1, HQ.out.2]; rfl, b3.trans (b4.mono b3.size)⟩
end Go.Proofs.Ytedckfbjhhabgaa
