/- ClosedSince, the program's: the sort keeps those of one day in their order. -/
import Derived.Test.YtpbjddiopfkgbaaDoorSinceC
import Derived.Test.YtpbjddiopfkgbaaDoorSortRow
import Derived.Test.YtpbjddiopfkgbaaDoorSortF
import Derived.Test.YtpbjddiopfkgbaaDoorSlFi
import Derived.Test.YtpbjddiopfkgbaaDoorFiI
import Derived.Test.YtpbjddiopfkgbaaDoorInts
import Derived.Test.YtpbjddiopfkgbaaDoorInSer1
import Derived.Test.YtpbjddiopfkgbaaDoorDayI
namespace Go.Proofs.YtpbjddiopfkgbaaDoor
set_option linter.unusedVariables false
open Go.RowKit Go.Sort

def cfF (a b : Fi) : Int := Lib.compareInt a.closed b.closed
theorem ltOf_cfF : ltOf cfF = ltF := by
  funext a b
  unfold ltOf cfF ltF Lib.compareInt
  by_cases h : a.closed < b.closed
  · simp [h]
  · by_cases h2 : a.closed > b.closed
    · simp [h, h2]
    · simp [h, h2]
theorem cmpF_any (x y : Fi) (W : World) : Calls Tryd.prog 56 #[.agg (fiC x).toArray, .agg (fiC y).toArray] W fun e w' => e = .returned (.int .i64 (cfF x y)) ∧ ∃ q os', w' = grow (W.drewN q) os' := by
  obtain ⟨x0, x1, x2, x3, x4, x5, x6⟩ := x
  obtain ⟨y0, y1, y2, y3, y4, y5, y6⟩ := y
  have hcon := fun W' => AnyG.cmp_Compare_int Tryd.cmpI x4 y4 W'
  change ∀ W', Calls Tryd.prog 57 _ _ _ at hcon
  show Calls Tryd.prog 56 _ _ fun e w' => e = .returned (.int .i64 (Lib.compareInt x4 y4)) ∧ _
  generalize Lib.compareInt x4 y4 = r at hcon ⊢
  unfold fiC
  simp only
  go_enter Tryd.func56, Tryd.ntmps56
  go_wp2_with (go_at_call 57; refine (hcon _).mono ?_; rintro e w' ⟨rfl, rfl⟩)
  go_ret
  exact ⟨rfl, 0, _, by rw [alloc_eq_grow, alloc_eq_grow, grow_grow]; rfl⟩

set_option maxRecDepth 20000 in
theorem insF_any (lo g cap : Nat) (t : List Fi) (w : World) (h : w.ownsRow lo 43 7 (.slice (some ⟨g, 0, none⟩) t.length cap) t.length ((t.map fiC).flatten)) (hn : t.length ≤ 10) :
    Calls Tryd.prog 92 #[.slice (some ⟨g, 0, none⟩) t.length cap, .int .i64 0, .int .i64 t.length, .func (.func 56) #[] #[]] w fun e w' =>
      e = .returned (.tuple #[]) ∧ w'.ownsRow lo 43 7 (.slice (some ⟨g, 0, none⟩) t.length cap) t.length (((ordF t).map fiC).flatten) ∧ Below lo w w' := by
  obtain ⟨hH, hgl⟩ := holdsK_owns fiC_len (by omega) h
  have hlo : lo ≤ g := (h.lt g rfl).1
  have eg : ∀ args w, (callFunc 56 args).run Tryd.prog w = .ok (.enter 56 args) w := enters_of Tryd.func56 (by kernel_rfl) rfl
  have hcon := AnyQ.insertionSortCmpFunc Tryd.insF 7 Tryd.isAgg43 Tryd.sizeOf43 fiC fiC_len fiC_one cfF 56 #[] g 0 cap 0 t.length t.toArray w eg (fun _ _ _ _ x y => cmpF_any x y _) hH hgl (Nat.zero_le _) (Nat.le_refl _) (by show t.length < _; omega)
  change Calls Tryd.prog 92 _ _ _ at hcon
  refine hcon.mono ?_
  rintro e w' ⟨rfl, n, os, rfl⟩
  have hD : insertionSort (ltOf cfF) t.toArray 0 t.length = (ordF t).toArray := by
    have := insSort_list t.toArray
    rw [ltOf_cfF]
    have e2 : t.toArray.size = t.length := rfl
    rw [e2] at this
    exact Array.ext' this
  rw [hD]
  exact ⟨rfl, owns_sorted fiC_len (by omega) h (ordF_length t), below_sorted (Below.refl _ _) hlo hgl⟩

theorem insF_none (w : World) : Calls Tryd.prog 92 #[.slice none 0 0, .int .i64 0, .int .i64 0, .func (.func 56) #[] #[]] w fun e w' => e = .returned (.tuple #[]) ∧ w' = w := by
  go_enter Tryd.func92, Tryd.ntmps92
  go_wp2
  refine wp_loop_rounds 1 ?_
  rw [rounds_succ]
  go_wp2
  go_end0
  exact ⟨rfl, rfl⟩

theorem stableF_any (v : Value) (n : Nat) (w : World) (Q : World → Prop) (hn : n ≤ 10)
    (h : Calls Tryd.prog 92 #[v, .int .i64 0, .int .i64 n, .func (.func 56) #[] #[]] w fun e w' => e = .returned (.tuple #[]) ∧ Q w') :
    Calls Tryd.prog 81 #[v, .int .i64 n, .func (.func 56) #[] #[]] w fun e w' => e = .returned (.tuple #[]) ∧ Q w' := by
  have H := Lib.hid h
  clear h
  go_enter Tryd.func81, Tryd.ntmps81
  go_wp2
  refine wp_loop_rounds 1 ?_
  rw [rounds_succ]
  go_wp2_with fail
  refine H.out.mono ?_
  rintro e w1 ⟨rfl, q⟩
  have HQ := Lib.hid q
  clear q
  go_wp2
  refine wp_loop_rounds 1 ?_
  rw [rounds_succ]
  go_wp2
  go_end0
  exact ⟨rfl, HQ.out⟩

theorem sortF_any (lo : Nat) (v : Value) (t : List Fi) (w : World) (h : w.ownsRow lo 43 7 v t.length ((t.map fiC).flatten)) (hn : t.length ≤ 10) :
    Calls Tryd.prog 55 #[v, .func (.func 56) #[] #[]] w fun e w' => e = .returned (.tuple #[]) ∧ w'.ownsRow lo 43 7 v t.length (((ordF t).map fiC).flatten) ∧ Below lo w w' := by
  have main : ∀ a c, v = .slice a t.length c → Calls Tryd.prog 81 #[v, .int .i64 t.length, .func (.func 56) #[] #[]] w (fun e w' => e = .returned (.tuple #[]) ∧ (w'.ownsRow lo 43 7 v t.length (((ordF t).map fiC).flatten) ∧ Below lo w w')) → Calls Tryd.prog 55 #[v, .func (.func 56) #[] #[]] w fun e w' => e = .returned (.tuple #[]) ∧ w'.ownsRow lo 43 7 v t.length (((ordF t).map fiC).flatten) ∧ Below lo w w' := by
    intro a c hv hc
    subst hv
    obtain ⟨Q, hQ⟩ : ∃ Q : World → Prop, (fun w' : World => w'.ownsRow lo 43 7 (.slice a t.length c) t.length (((ordF t).map fiC).flatten) ∧ Below lo w w') = Q := ⟨_, rfl⟩
    have hc2 : Calls Tryd.prog 81 #[.slice a t.length c, .int .i64 t.length, .func (.func 56) #[] #[]] w (fun e w' => e = .returned (.tuple #[]) ∧ Q w') := by rw [← hQ]; exact hc
    have HC := Lib.hid hc2
    suffices Calls Tryd.prog 55 #[.slice a t.length c, .func (.func 56) #[] #[]] w fun e w' => e = .returned (.tuple #[]) ∧ Q w' by rw [← hQ] at this; exact this
    clear hc hc2 hQ h
    go_enter Tryd.func55, Tryd.ntmps55
    go_wp2_with fail
    refine HC.out.mono ?_
    rintro e w1 ⟨rfl, q⟩
    have HQ := Lib.hid q
    clear q
    go_wp2
    go_end0
    exact ⟨rfl, HQ.out⟩
  rcases h.2 with ⟨e0, e1⟩ | ⟨g, cap, cur, e0, hb, hg, hnc, hm, hs, ht⟩
  · have ht : t = [] := List.length_eq_zero_iff.1 e1
    subst ht
    subst e0
    refine main none 0 rfl (stableF_any _ 0 w _ (by omega) ((insF_none w).mono ?_))
    rintro e w' ⟨rfl, rfl⟩
    exact ⟨rfl, h, Below.refl _ _⟩
  · subst e0
    exact main _ _ rfl (stableF_any _ t.length w _ hn (insF_any lo g cap t w h hn))

set_option maxRecDepth 20000 in
set_option maxHeartbeats 4000000 in
theorem implClosedSince_any (v : Value) (t : List Fi) (a b : Int) (w : World) (h : RowR 7 rFi w v t) (xs : List Int) (c : Bool) (hres : sinceRes t a b = (xs, c)) :
    Calls Tryd.prog 16 #[v, .int .i64 a, .int .i64 b] w fun e w' => ∃ v', e = .returned (.tuple #[v', .bool c]) ∧ IntsO w.heap.size w'.heap.size w' v' xs ∧ Below w.heap.size w w' := by
  obtain ⟨i0, hi, hz0, hz1, hz2⟩ := info_parts Tryd.info_fi
  obtain ⟨j0, hj, hy0, hy1, hy2⟩ := info_parts Tryd.info_intI
  have H := Lib.hid h
  have hok := h.fis_ok
  obtain ⟨a1, c1, hv, hl1, hm1, r1⟩ := h.fis
  subst hv
  have R1 := Lib.hid r1
  have HOK := Lib.hid hok
  unfold maxLen at hm1
  obtain ⟨bs, hs⟩ : ∃ x, areFi t = x := ⟨_, rfl⟩
  obtain ⟨ba, hba⟩ : ∃ x, decide (0 ≤ a ∧ a ≤ 20000) = x := ⟨_, rfl⟩
  obtain ⟨bb, hbb⟩ : ∃ x, decide (0 ≤ b ∧ b ≤ 20000) = x := ⟨_, rfl⟩
  have HS := Lib.hid hs
  have HA := Lib.hid hba
  have HB := Lib.hid hbb
  have HRES := Lib.hid hres
  clear h r1 hok hres
  cases bs
  · obtain ⟨rfl, rfl⟩ := since_no HRES.out (fun q => by rw [hs] at q; exact absurd q.1 (by simp))
    clear hs hba hbb
    go_enter Tryd.func16, Tryd.ntmps16
    go_wp2_with (first | (go_at_call 33; refine (implAreFi_any _ t _ H.out).mono ?_; rw [HS.out]; rintro e w1 ⟨rfl, b1⟩) | (go_at_call 54; first | (refine (isDay_any a _).mono ?_; rw [HA.out]; rintro e w' ⟨rfl, rfl⟩) | (refine (isDay_any b _).mono ?_; rw [HB.out]; rintro e w' ⟨rfl, rfl⟩)))
    go_ret2
    exact ⟨_, rfl, ⟨World.ownsRow_nil _ _ _ _, Under.nil _ _ _⟩, b1⟩
  · cases ba
    · obtain ⟨rfl, rfl⟩ := since_no HRES.out (fun q => of_decide_eq_false hba (by omega))
      clear hs hba hbb
      go_enter Tryd.func16, Tryd.ntmps16
      go_wp2_with (first | (go_at_call 33; refine (implAreFi_any _ t _ H.out).mono ?_; rw [HS.out]; rintro e w1 ⟨rfl, b1⟩) | (go_at_call 54; first | (refine (isDay_any a _).mono ?_; rw [HA.out]; rintro e w' ⟨rfl, rfl⟩) | (refine (isDay_any b _).mono ?_; rw [HB.out]; rintro e w' ⟨rfl, rfl⟩)))
      go_ret2
      exact ⟨_, rfl, ⟨World.ownsRow_nil _ _ _ _, Under.nil _ _ _⟩, b1⟩
    · cases bb
      · obtain ⟨rfl, rfl⟩ := since_no HRES.out (fun q => of_decide_eq_false hbb (by omega))
        clear hs hba hbb
        go_enter Tryd.func16, Tryd.ntmps16
        go_wp2_with (first | (go_at_call 33; refine (implAreFi_any _ t _ H.out).mono ?_; rw [HS.out]; rintro e w1 ⟨rfl, b1⟩) | (go_at_call 54; first | (refine (isDay_any a _).mono ?_; rw [HA.out]; rintro e w' ⟨rfl, rfl⟩) | (refine (isDay_any b _).mono ?_; rw [HB.out]; rintro e w' ⟨rfl, rfl⟩)))
        go_ret2
        exact ⟨_, rfl, ⟨World.ownsRow_nil _ _ _ _, Under.nil _ _ _⟩, b1⟩
      · by_cases hlt : b < a
        · obtain ⟨rfl, rfl⟩ := since_no HRES.out (fun q => by omega)
          clear hs hba hbb
          go_enter Tryd.func16, Tryd.ntmps16
          go_wp2_with (first | (go_at_call 33; refine (implAreFi_any _ t _ H.out).mono ?_; rw [HS.out]; rintro e w1 ⟨rfl, b1⟩) | (go_at_call 54; first | (refine (isDay_any a _).mono ?_; rw [HA.out]; rintro e w' ⟨rfl, rfl⟩) | (refine (isDay_any b _).mono ?_; rw [HB.out]; rintro e w' ⟨rfl, rfl⟩)))
          go_ret2
          exact ⟨_, rfl, ⟨World.ownsRow_nil _ _ _ _, Under.nil _ _ _⟩, b1⟩
        · obtain ⟨rfl, rfl⟩ := since_yes HRES.out ⟨hs, of_decide_eq_true hbb, (by have := of_decide_eq_true hba; omega)⟩
          have hten := fi_len hs
          unfold sinceF
          obtain ⟨L, hL⟩ : ∃ L, ordF (t.filter (sinceB a b)) = L := ⟨_, rfl⟩
          rw [hL]
          have HLE := Lib.hid hL
          clear hs hba hbb HRES hL
          go_enter Tryd.func16, Tryd.ntmps16
          go_wp2_with (first | (go_at_call 33; refine (implAreFi_any _ t _ H.out).mono ?_; rw [HS.out]; rintro e w1 ⟨rfl, b1⟩) | (go_at_call 54; first | (refine (isDay_any a _).mono ?_; rw [HA.out]; rintro e w' ⟨rfl, rfl⟩) | (refine (isDay_any b _).mono ?_; rw [HB.out]; rintro e w' ⟨rfl, rfl⟩)))
          go_loopw [8, 34] (fun o i wr => ∃ k : Nat, k ≤ t.length ∧ i = .int .i64 k ∧ wr.ownsRow w.heap.size 43 7 o ((t.take k).filter (sinceB a b)).length ((((t.take k).filter (sinceB a b)).map fiC).flatten) ∧ Below w.heap.size w wr) (fun _ i _ => t.length - (intOf i).toNat)
          case atStart => exact ⟨0, Nat.zero_le _, rfl, by simpa using (FisO.nil w.heap.size w.heap.size _).1.1, b1⟩
          case round =>
            clear b1
            obtain ⟨k, hk, rfl, hO, hb⟩ := hrel
            by_cases hkt : k < t.length
            · obtain ⟨b1, o1, hb1, rfl, e1⟩ := R1.out.resolve_left (fun e => by rw [e] at hkt; simp at hkt)
              obtain ⟨q0, q1, q2, q3, q4, q5, q6, hok⟩ := e1 k hkt
              have hsucc := filter_take_succ (p := sinceB a b) hkt
              obtain ⟨P, hP⟩ : ∃ P, (t.take k).filter (sinceB a b) = P := ⟨_, rfl⟩
              have hPl : P.length ≤ k := by
                rw [← hP]
                have := List.length_filter_le (sinceB a b) (t.take k)
                rw [List.length_take] at this
                omega
              rw [hP] at hO hsucc
              obtain ⟨⟨x0, x1, x2, x3, x4, x5, x6⟩, hx⟩ : ∃ s, t.getD k fiD = s := ⟨_, rfl⟩
              rw [hx] at q0 q1 q2 q3 q4 q5 q6 hsucc
              simp only at q0 q1 q2 q3 q4 q5 q6
              have f0 := cell_kept q0 hb
              have f1 := cell_kept q1 hb
              have f2 := cell_kept q2 hb
              have f3 := cell_kept q3 hb
              have f4 := cell_kept q4 hb
              have f5 := cell_kept q5 hb
              have f6 := cell_kept q6 hb
              have HSU := Lib.hid hsucc
              have g0 : (0 : Int) ≤ (k : Int) := by omega
              have g1 : (k : Int) < (t.length : Int) := by omega
              have hsz := hb.size
              have hb2 := below_al hb (.cells #[.int .i64 x0, .int .i64 x1, .string x2, .int .i64 x3, .int .i64 x4, .int .i64 x5, .int .i64 x6] 43 (0, 0))
              have hO2 := hO.alloc (.cells #[.int .i64 x0, .int .i64 x1, .string x2, .int .i64 x3, .int .i64 x4, .int .i64 x5, .int .i64 x6] 43 (0, 0))
              clear q0 q1 q2 q3 q4 q5 q6 hok e1 hx hsucc hP hO
              have skip : sinceB a b ⟨x0, x1, x2, x3, x4, x5, x6⟩ = false → Hid ((t.take (k + 1)).filter (sinceB a b) = P) := fun e => Lib.hid (HSU.out.trans (if_neg (by rw [e]; simp)))
              by_cases s0 : x5 = 0
              · subst s0
                have HSU2 := skip (by simp [sinceB])
                have HO := Lib.hid hO2
                clear hO2 skip
                go_wp2_with fail
                go_roundw
                case rel => exact ⟨k + 1, by omega, by go_num, (by rw [HSU2.out]; exact HO.out), hb2⟩
                case measure => simp [intOf]; omega
              · by_cases s1 : a ≤ x4
                · by_cases s2 : x4 ≤ b
                  · have HSU2 := Lib.hid (HSU.out.trans (if_pos (by simp [sinceB, s0, s1, s2])))
                    have hq : (x5 == 0) = false := by simp [s0]
                    clear skip
                    go_wp2_with (first | (at_builtin; refine wpList_append_own _ rfl _ _ 24 rfl w.heap.size 43 i0 (.agg #[.int .i64 0, .int .i64 0, .string ⟨#[]⟩, .int .i64 0, .int .i64 0, .int .i64 0, .int .i64 0]) 7 64 Tryd.underlying24 hi hz0 hz1 hz2 rfl (by decide) _ _ _ rfl (hO2.alloc _) ⟨wr.heap.size + 1, 0, none⟩ 1 1 [.int .i64 x0, .int .i64 x1, .string x2, .int .i64 x3, .int .i64 x4, .int .i64 x5, .int .i64 x6] rfl rfl (cells7_new' _ _ _ _ _ _ _ _ _ (by simp)) (by simp [Value.oneCell']) (by unfold maxLen; omega) (by omega) (by simp; omega) ?_; intro v' w4 hown' hgrow _))
                    have HOWN := Lib.hid hown'
                    have HBB := Lib.hid (below_app hb2 (Nat.le_refl _) hO2 hgrow)
                    clear hown' hgrow hO2
                    go_wp2_with fail
                    go_roundw
                    case rel => exact ⟨k + 1, by omega, by go_num, (by rw [HSU2.out]; simpa [fiC] using HOWN.out), HBB.out⟩
                    case measure => simp [intOf]; omega
                  · have HSU2 := skip (by simp [sinceB, s0, s1, s2])
                    have HO := Lib.hid hO2
                    have hq : (x5 == 0) = false := by simp [s0]
                    clear hO2 skip
                    go_wp2_with fail
                    go_roundw
                    case rel => exact ⟨k + 1, by omega, by go_num, (by rw [HSU2.out]; exact HO.out), hb2⟩
                    case measure => simp [intOf]; omega
                · have HSU2 := skip (by simp [sinceB, s0, s1])
                  have HO := Lib.hid hO2
                  have hq : (x5 == 0) = false := by simp [s0]
                  clear hO2 skip
                  go_wp2_with fail
                  go_roundw
                  case rel => exact ⟨k + 1, by omega, by go_num, (by rw [HSU2.out]; exact HO.out), hb2⟩
                  case measure => simp [intOf]; omega
            · obtain rfl : k = t.length := by omega
              rw [List.take_length] at hO
              obtain ⟨Q, hQ⟩ : ∃ Q, t.filter (sinceB a b) = Q := ⟨_, rfl⟩
              have hQl : Q.length ≤ t.length := by rw [← hQ]; exact List.length_filter_le _ _
              have hQok : ∀ f ∈ Q, f.ok := fun f hf => HOK.out f (List.mem_filter.1 (by rw [hQ]; exact hf)).1
              rw [hQ] at hO
              replace HLE := Lib.hid (HLE.out.symm.trans (by rw [hQ]) : L = ordF Q)
              have hoL := ordF_length Q
              have hoK : ∀ f ∈ ordF Q, f.ok := fun f hf => hQok f (mem_ordF.1 hf)
              have HLK := Lib.hid hoK
              have HOO := Lib.hid hO
              have HBW := Lib.hid hb
              clear hQ hQok hoK hO hb
              go_wp2_with fail
              refine (sortF_any w.heap.size _ Q _ HOO.out (by omega)).mono ?_
              rintro e w2 ⟨rfl, hS, hb2⟩
              rw [← HLE.out] at hS hoL HLK
              have hrow := (FisO.of_row hS hoL.symm HLK.out).row
              obtain ⟨a2, c2, e2, hl2, hm2, r2⟩ := hrow.fis
              rw [hoL] at e2
              subst e2
              have hB2 := HBW.out.trans hb2
              have R2 := Lib.hid r2
              have HB2 := Lib.hid hB2
              have hsz2 := hB2.size
              unfold maxLen at hm2
              clear hS hrow r2 hb2 hB2 HOO HBW
              go_wp2_with fail
              go_loopw [11, 62] (fun o i wr => ∃ k : Nat, k ≤ L.length ∧ i = .int .i64 k ∧ wr.ownsRow w2.heap.size 3 1 o k (((L.take k).map (·.id)).map vI) ∧ Below w2.heap.size w2 wr) (fun _ i _ => L.length - (intOf i).toNat)
              case atStart => exact ⟨0, Nat.zero_le _, rfl, by simpa using World.ownsRow_nil _ _ _ _, Below.refl _ _⟩
              case round =>
                obtain ⟨k, hk, rfl, hO, hb⟩ := hrel
                by_cases hkt : k < L.length
                · obtain ⟨b1, o1, hb1, rfl, e1⟩ := R2.out.resolve_left (fun e => by rw [e] at hkt; simp at hkt)
                  obtain ⟨q0, q1, q2, q3, q4, q5, q6, hok⟩ := e1 k hkt
                  have hsucc : ((L.take (k + 1)).map (·.id)).map vI = ((L.take k).map (·.id)).map vI ++ [.int .i64 (L.getD k fiD).id] := by
                    have e3 : L.take (k + 1) = L.take k ++ [L.getD k fiD] := by rw [List.take_add_one, List.getElem?_eq_getElem hkt, getFi_lt hkt]; rfl
                    rw [e3, List.map_append, List.map_append]
                    rfl
                  obtain ⟨⟨x0, x1, x2, x3, x4, x5, x6⟩, hx⟩ : ∃ s, L.getD k fiD = s := ⟨_, rfl⟩
                  rw [hx] at q0 q1 q2 q3 q4 q5 q6 hsucc
                  simp only at q0 q1 q2 q3 q4 q5 q6 hsucc
                  have f0 := cell_kept q0 hb
                  have f1 := cell_kept q1 hb
                  have f2 := cell_kept q2 hb
                  have f3 := cell_kept q3 hb
                  have f4 := cell_kept q4 hb
                  have f5 := cell_kept q5 hb
                  have f6 := cell_kept q6 hb
                  have HSU := Lib.hid hsucc
                  have g0 : (0 : Int) ≤ (k : Int) := by omega
                  have g1 : (k : Int) < (Q.length : Int) := by omega
                  have hsz := hb.size
                  have hb2 := below_al hb (.cells #[.int .i64 x0, .int .i64 x1, .string x2, .int .i64 x3, .int .i64 x4, .int .i64 x5, .int .i64 x6] 43 (0, 0))
                  have hO2 := hO.alloc (.cells #[.int .i64 x0, .int .i64 x1, .string x2, .int .i64 x3, .int .i64 x4, .int .i64 x5, .int .i64 x6] 43 (0, 0))
                  clear q0 q1 q2 q3 q4 q5 q6 hok e1 hx hsucc hO
                  go_wp2_with (first | (at_builtin; refine wpList_append_own _ rfl _ _ 31 rfl w2.heap.size 3 j0 (.int .i64 0) 1 8 Tryd.underlying31 hj hy0 hy1 hy2 rfl (by decide) _ _ _ rfl (hO2.alloc _) ⟨wr.heap.size + 1, 0, none⟩ 1 1 [.int .i64 x0] rfl rfl (cell_oneI _ _ _ (by simp)) (by simp [Value.oneCell']) (by unfold maxLen; omega) (by omega) (by simp; omega) ?_; intro v' w4 hown' hgrow _))
                  have HOWN := Lib.hid hown'
                  have HBB := Lib.hid (below_app hb2 (Nat.le_refl _) hO2 hgrow)
                  clear hown' hgrow hO2
                  go_wp2_with fail
                  go_roundw
                  case rel => exact ⟨k + 1, by omega, by go_num, (by rw [HSU.out]; exact HOWN.out), HBB.out⟩
                  case measure => simp [intOf]; omega
                · obtain rfl : k = L.length := by omega
                  rw [List.take_length] at hO
                  have HO := Lib.hid hO
                  have hnlt : ¬ ((L.length : Int) < (Q.length : Int)) := by omega
                  clear hO
                  go_wp2_with fail
                  go_ret2
                  exact ⟨_, rfl, ⟨ownsRow_base_a' (by simpa using HO.out) hsz2, fun g hg => (HO.out.lt g hg).2⟩, HB2.out.trans (hb.mono hsz2)⟩
end Go.Proofs.YtpbjddiopfkgbaaDoor
