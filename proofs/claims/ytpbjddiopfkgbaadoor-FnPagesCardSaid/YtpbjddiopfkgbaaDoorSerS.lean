/- The pages of each series: the model's SeriesPages. -/
import Derived.Test.YtpbjddiopfkgbaaDoorSerM
import Derived.Test.YtpbjddiopfkgbaaDoorTbl
import Derived.Test.YtpbjddiopfkgbaaDoorAreFiS
import Derived.Maps.AppendAt
namespace Go.Proofs.YtpbjddiopfkgbaaDoor
set_option linter.unusedVariables false
open Go.RowKit Go.Sort

theorem Tryd.info_ints : (Tryd.prog.info? 31).map (fun i => (i.zero, i.size, i.bytes)) = some (some (.slice none 0 0), 1, 24) := by kernel_rfl
theorem one_newT {W : World} {a : Value} {t : TypeId} {h : Nat} (hh : W.heap.size = h) : ∀ j u, [a][j]? = some u → (W.alloc (.cells #[a] t (0, 0))).cell? ((⟨h, 0, none⟩ : Addr).add j) = some u := by
  subst hh
  intro j u hj
  rw [Addr.add_lit]
  exact (blk_cell (heap_alloc_new W _) _).trans (by simpa using hj)

set_option maxRecDepth 20000 in
set_option maxHeartbeats 4000000 in
theorem specSeriesPages_any (v : Value) (t : List Fi) (w : World) (h : RowR 7 rFi w v t) (xss : List (List Int)) (b : Bool) (hres : serRes t = (xss, b)) :
    Calls Tryd.prog 41 #[v] w fun e w' => ∃ v', e = .returned (.tuple #[v', .bool b]) ∧ TabO w.heap.size w'.heap.size w' v' xss ∧ Below w.heap.size w w' := by
  have H := Lib.hid h
  obtain ⟨i0, hi, hz0, hz1, hz2⟩ := info_parts Tryd.info_ints
  obtain ⟨a1, c1, hv, hl1, hm1, r1⟩ := h.fis
  subst hv
  have R1 := Lib.hid r1
  unfold maxLen at hm1
  obtain ⟨bt, ht⟩ : ∃ b, areFi t = b := ⟨_, rfl⟩
  have b0 := below_al (Below.refl w.heap.size w) (.cells #[] 31 (0, 0))
  have T0 := Lib.hid (TabS.made w (Nat.le_refl w.heap.size))
  cases bt
  · have hh := hres
    unfold serRes at hh
    rw [if_neg (by rw [ht]; simp)] at hh
    obtain ⟨rfl, rfl⟩ := Prod.mk.inj hh
    have HT := Lib.hid ht
    clear hh ht hres h r1
    go_enter Tryd.func41, Tryd.ntmps41
    go_wp2_with (first | (go_at_call 71; refine (l5Good_any _ t _ (H.out.below rFi_stable b0)).mono ?_; rw [HT.out]; rintro e w1 ⟨rfl, b1⟩; have s1 := b1.size))
    go_ret2
    exact ⟨_, rfl, ((T0.out.below (by simpa using b1)).wide (by simpa using s1)).tab, below_chain b0 b1⟩
  · have hh := hres
    unfold serRes at hh
    rw [if_pos ht] at hh
    obtain ⟨rfl, rfl⟩ := Prod.mk.inj hh
    have hn : t.length ≤ 10 := fi_len ht
    have HT := Lib.hid ht
    have HVAL := Lib.hid (fi_mem ht)
    clear hh ht hres h r1
    go_enter Tryd.func41, Tryd.ntmps41
    go_wp2_with (first | (go_at_call 71; refine (l5Good_any _ t _ (H.out.below rFi_stable b0)).mono ?_; rw [HT.out]; rintro e w1 ⟨rfl, b1⟩; have s1 := b1.size))
    have T1 := Lib.hid ((T0.out.below (by simpa using b1)).wide (by simpa using s1 : w.heap.size + 1 ≤ w1.heap.size))
    have bw1 := below_chain b0 b1
    clear T0 b0 b1 s1
    go_loopw [4, 5] (fun o sr wr => ∃ (m : Nat) (oa : Option Addr) (on oc : Nat) (svs : List Value), m ≤ 99 ∧ sr = .int .i64 ((m + 1 : Nat) : Int) ∧ o = .slice oa on oc ∧ Hid (TabS w.heap.size wr.heap.size wr (.slice oa on oc) svs (rowsTo t m)) ∧ Below w.heap.size w wr) (fun _ sr _ => 100 - (intOf sr).toNat)
    case atStart => exact ⟨0, _, _, _, [], by omega, rfl, rfl, T1, bw1⟩
    case round =>
      clear T1 bw1
      obtain ⟨m, oa, on, oc, svs, hm, rfl, rfl, HTS, hb⟩ := hrel
      obtain ⟨wo, hwo⟩ : ∃ x, x = wr := ⟨_, rfl⟩
      subst hwo
      by_cases hlt : m < 99
      · have gm : ((m + 1 : Nat) : Int) ≤ 99 := by omega
        have hw := hb.size
        go_wp2_with fail
        go_loopw [6, 7, 8] (fun n p i wi => ∃ k : Nat, k ≤ t.length ∧ i = .int .i64 k ∧ n = .int .i64 (cntS (t.take k) ((m + 1 : Nat) : Int) : Int) ∧ p = .int .i64 (pagS (t.take k) ((m + 1 : Nat) : Int)) ∧ Below wo.heap.size wo wi) (fun _ _ i _ => t.length - (intOf i).toNat)
        case atStart => exact ⟨0, Nat.zero_le _, rfl, by simp [cntS], by simp [pagS], Below.refl _ _⟩
        case round =>
          obtain ⟨k, hk, rfl, rfl, rfl, hbi⟩ := hrel
          by_cases hkl : k < t.length
          · obtain ⟨b1, o1, hb1, rfl, e1⟩ := R1.out.resolve_left (fun e => by rw [e] at hkl; simp at hkl)
            obtain ⟨f, hx⟩ : ∃ s, t.getD k fiD = s := ⟨_, rfl⟩
            obtain ⟨q0, q1, q2, q3, q4, q5, q6, hok⟩ := e1 k hkl
            rw [hx] at q1 q6
            have hbw := hb.trans (hbi.mono hw)
            have f1 := cell_kept q1 hbw
            have f6 := cell_kept q6 hbw
            have hcn := cntS_snoc (t.take k) f ((m + 1 : Nat) : Int)
            have hpg := pagS_snoc (t.take k) f ((m + 1 : Nat) : Int)
            have htk := take_fi hkl
            rw [hx] at htk
            rw [← htk] at hcn hpg
            have hc1 := cntS_le (t.take k) ((m + 1 : Nat) : Int)
            have hp1 := pagS_bounds (t := t.take k) (fun f hf => HVAL.out f (List.mem_of_mem_take hf)) ((m + 1 : Nat) : Int)
            have hfp := (isFi_iff.1 (HVAL.out f (by rw [← hx, getFi_lt hkl]; exact List.getElem_mem hkl))).2.2.2.2.2.1
            obtain ⟨N, hN⟩ : ∃ N, cntS (t.take k) ((m + 1 : Nat) : Int) = N := ⟨_, rfl⟩
            obtain ⟨Q, hQ⟩ : ∃ Q, pagS (t.take k) ((m + 1 : Nat) : Int) = Q := ⟨_, rfl⟩
            rw [hN] at hcn hc1 ⊢
            rw [hQ] at hpg hp1 ⊢
            rw [List.length_take] at hc1 hp1
            have w1q : IntKind.i64.wrap ((N : Int) + 1) = (N : Int) + 1 := Go.IntWalk.i64_in _ (by omega)
            have w2q : IntKind.i64.wrap (Q + f.pages) = Q + f.pages := Go.IntWalk.i64_in _ (by omega)
            have HCN := Lib.hid hcn
            have HPG := Lib.hid hpg
            have g0 : (0 : Int) ≤ (k : Int) := by omega
            have g1 : (k : Int) < (t.length : Int) := by omega
            clear q0 q1 q2 q3 q4 q5 q6 hok e1 hx hcn hpg htk hN hQ hc1 hp1 hfp
            by_cases hs : f.series = ((m + 1 : Nat) : Int)
            · have es : (f.series == ((m + 1 : Nat) : Int)) = true := by simp [hs]
              have HS := Lib.hid hs
              clear hs
              go_wp2_with fail
              go_roundw
              case rel => exact ⟨k + 1, by omega, by go_num, by rw [HCN.out, if_pos HS.out]; go_num, by rw [HPG.out, if_pos HS.out], hbi⟩
              case measure => simp [intOf]; omega
            · have es : (f.series == ((m + 1 : Nat) : Int)) = false := beq_eq_false_iff_ne.2 hs
              have HS := Lib.hid hs
              clear hs
              go_wp2_with fail
              go_roundw
              case rel => exact ⟨k + 1, by omega, by go_num, by rw [HCN.out, if_neg HS.out]; go_num, by rw [HPG.out, if_neg HS.out]; simp, hbi⟩
              case measure => simp [intOf]; omega
          · have hkt : k = t.length := by omega
            have hb2 := hb.trans (hbi.mono hw)
            have T2 := Lib.hid ((HTS.out.below hbi).wide hbi.size)
            obtain ⟨N, hN⟩ : ∃ N, cntS t ((m + 1 : Nat) : Int) = N := ⟨_, rfl⟩
            obtain ⟨Q, hQ⟩ : ∃ Q, pagS t ((m + 1 : Nat) : Int) = Q := ⟨_, rfl⟩
            rw [show t.take k = t by rw [hkt]; exact List.take_length, hN, hQ]
            have hrl := rowsTo_len t m
            have hwi := hb2.size
            clear hkt
            by_cases hc : 0 < N
            · have hrow : rowsTo t (m + 1) = rowsTo t m ++ [[((m + 1 : Nat) : Int), (N : Int), Q]] := by
                conv => lhs; unfold rowsTo
                rw [if_pos (by rw [hN]; exact hc)]
                unfold rowS
                rw [hN, hQ]
              have HROW := Lib.hid hrow
              have gn : decide ((0 : Int) < (N : Int)) = true := decide_eq_true (by omega)
              have gn2 : (0 : Int) < (N : Int) := by omega
              clear hrow hN hQ
              go_wp2_with (first | (at_builtin; refine wpList_append_own_at _ rfl _ _ 49 rfl w.heap.size 31 i0 (.slice none 0 0) 1 24 Tryd.underlying49 hi hz0 hz1 hz2 rfl (by decide) (.slice oa on oc) _ _ rfl ((T2.out.2.1.alloc (.cells #[.int .i64 ((m + 1 : Nat) : Int), .int .i64 (N : Int), .int .i64 Q] 3 (0, 0))).alloc _) ⟨wr.heap.size + 1, 0, none⟩ 1 1 [.slice (some ⟨wr.heap.size, 0, none⟩) 3 3] rfl rfl (one_newT (by simp)) (by simp [Value.oneCell']) (by unfold maxLen; omega) (by omega) (by simp; omega) ?_; intro v' w3 hown' hgrow _ hat; obtain ⟨va, vn, vc, rfl⟩ := own_sliceT hown'; have HP := Lib.hid (TabS.push (row := [((m + 1 : Nat) : Int), (N : Int), Q]) T2.out (by omega) (by unfold maxLen; simp) rfl hown' hgrow hat); have HB3 := Lib.hid (below_app2 hb2 (Nat.le_refl _) T2.out.2.1 hgrow); clear hown' hgrow hat))
              go_roundw
              case rel => exact ⟨m + 1, _, _, _, _, by omega, by go_num, rfl, by rw [HROW.out]; exact HP, HB3.out⟩
              case measure => simp [intOf]; omega
            · have hrow : rowsTo t (m + 1) = rowsTo t m := by
                conv => lhs; unfold rowsTo
                rw [if_neg (by rw [hN]; exact hc)]
              have HROW := Lib.hid hrow
              have gn : decide ((0 : Int) < (N : Int)) = false := decide_eq_false (by omega)
              have gn2 : decide (0 < N) = false := decide_eq_false hc
              clear hrow hN hQ hc
              go_wp2_with fail
              go_roundw
              case rel => exact ⟨m + 1, _, _, _, _, by omega, by go_num, rfl, by rw [HROW.out]; exact T2, hb2⟩
              case measure => simp [intOf]; omega
      · obtain rfl : m = 99 := by omega
        go_wp2_with fail
        go_ret2
        exact ⟨_, rfl, HTS.out.tab, hb⟩
end Go.Proofs.YtpbjddiopfkgbaaDoor
