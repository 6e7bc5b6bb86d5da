/- The draw of a clerk. -/
import Derived.Test.YtalaegkfkjpmoaaSlCk
import Derived.Test.YtalaegkfkjpmoaaCurW
import Derived.Test.YtalaegkfkjpmoaaDrwZ
import Derived.Deep.DeepCutAuto
import Derived.Deep.CutBlock
import Derived.Deep.RegionHeld3
namespace Go.Proofs.Ytalaegkfkjpmoaa
set_option linter.unusedVariables false
open Go.RowKit

def baListC : List ByteArray := [⟨#[]⟩, ⟨#[65]⟩, ⟨#[97, 98, 99, 100, 101, 102, 103, 104, 105, 106, 107]⟩]
theorem baC_short {s : ByteArray} (h : s ∈ baListC) : s.size ≤ 11 := by
  have : ∀ x ∈ baListC, x.size ≤ 11 := by decide
  exact this s h
theorem l1MostC_any (a b : Int) (w : World) : Calls Try.prog 124 #[.int .i64 a, .int .i64 b] w fun e w' => e = .returned (.int .i64 (max a b)) ∧ w' = w := by
  by_cases h : b < a
  · rw [show max a b = a by omega]
    go_enter Try.func124, Try.ntmps124
    go_wp2
    go_ret
    exact ⟨rfl, rfl⟩
  · rw [show max a b = b by omega]
    go_enter Try.func124, Try.ntmps124
    go_wp2
    go_ret
    exact ⟨rfl, rfl⟩
def ClerkDrawn (w : World) (B K : Nat) (e : Ending) (w' : World) : Prop := ∃ f : Ck, e = .returned (.agg #[.int .i64 f.id, .string f.name, .int .i64 f.rights, .int .i64 f.frm, .int .i64 f.til, .int .i64 f.stands]) ∧ f.ok ∧ Cur w' B K ∧ w.grownBy w' (some B)

set_option maxRecDepth 20000 in
set_option maxHeartbeats 4000000 in
theorem clerk_any (B K : Nat) (id : Int) (w : World) (h : Cur w B K) (hK : K ≤ 100000) (hid : inI id) :
    Calls Try.prog 114 #[.pointer (some ⟨B, 0, none⟩), .int .i64 id] w (ClerkDrawn w B (K + 30)) := by
  have hlt := h.lt
  obtain ⟨R, hR⟩ : ∃ R, w.heap.size = R := ⟨_, rfl⟩
  have HD0 : Hid (Dk w (w.alloc (.cells #[.int .i64 0, .string ⟨#[]⟩, .int .i64 0, .int .i64 0, .int .i64 0, .int .i64 0] 65 (0, 0))) B K) := Lib.hid ((Dk.start h).al _)
  have HR0 : Hid (BxV (w.alloc (.cells #[.int .i64 0, .string ⟨#[]⟩, .int .i64 0, .int .i64 0, .int .i64 0, .int .i64 0] 65 (0, 0))) R [.int .i64 0, .string ⟨#[]⟩, .int .i64 0, .int .i64 0, .int .i64 0, .int .i64 0]) := Lib.hid (by rw [← hR]; exact BxV.new w [.int .i64 0, .string ⟨#[]⟩, .int .i64 0, .int .i64 0, .int .i64 0, .int .i64 0] _)
  have hBR : B < R := by omega
  clear h
  have HRE := Lib.hid hR
  clear hR
  go_enter Try.func114, Try.ntmps114
  go_upto_region 1 with fail
  try rw [HRE.out]
  generalize hW0 : w.alloc (.cells #[.int .i64 0, .string ⟨#[]⟩, .int .i64 0, .int .i64 0, .int .i64 0, .int .i64 0] 65 (0, 0)) = W0 at *
  have HW0 := Lib.hid hW0
  clear hW0
  go_wp2_with fail
  refine (word_any B (K + 0) _ HD0.out.cur (by omega)).mono ?_
  rintro e w1 ⟨x1, rfl, mx1, hc, hg⟩
  have HD1 := Lib.hid (HD0.out.step hc hg)
  have HR1 := Lib.hid (HR0.out.grown hg (by simp; omega))
  have ix1 : x1.size ≤ maxLen := Nat.le_trans (word_short mx1) (by decide)
  clear hc hg mx1 HD0 HR0
  go_wp2_with fail
  refine (amongZ_any B (K + 2) w1.heap.size 0 10 10 [0, 1, 2, 3, 4, 5, 7, 8, 9, 13] _ (HD1.out.al (.cells (([0, 1, 2, 3, 4, 5, 7, 8, 9, 13] : List Int).map (Value.int .i64)).toArray 3)).cur (by omega) rfl (by omega) (by omega) (by have := HD1.out.cur.lt; omega) (new_nums w1 [0, 1, 2, 3, 4, 5, 7, 8, 9, 13] 3 _ rfl)).mono ?_
  rintro e w2 ⟨x2, rfl, mx2, hc, hg⟩
  have HD2 := Lib.hid ((HD1.out.al (.cells (([0, 1, 2, 3, 4, 5, 7, 8, 9, 13] : List Int).map (Value.int .i64)).toArray 3)).step hc hg)
  have HR2 := Lib.hid ((HR1.out.al (.cells (([0, 1, 2, 3, 4, 5, 7, 8, 9, 13] : List Int).map (Value.int .i64)).toArray 3)).grown hg (by simp; omega))
  have bx2 : 0 ≤ x2 ∧ x2 ≤ 13 := by simp at mx2; omega
  have ix2 : inI x2 := by unfold inI; omega
  clear hc hg mx2 HD1 HR1
  go_wp2_with fail
  refine (amongZ_any B (K + 4) w2.heap.size 0 4 4 [0, 0, 10, 50] _ (HD2.out.al (.cells (([0, 0, 10, 50] : List Int).map (Value.int .i64)).toArray 3)).cur (by omega) rfl (by omega) (by omega) (by have := HD2.out.cur.lt; omega) (new_nums w2 [0, 0, 10, 50] 3 _ rfl)).mono ?_
  rintro e w3 ⟨x3, rfl, mx3, hc, hg⟩
  have HD3 := Lib.hid ((HD2.out.al (.cells (([0, 0, 10, 50] : List Int).map (Value.int .i64)).toArray 3)).step hc hg)
  have HR3 := Lib.hid ((HR2.out.al (.cells (([0, 0, 10, 50] : List Int).map (Value.int .i64)).toArray 3)).grown hg (by simp; omega))
  have bx3 : 0 ≤ x3 ∧ x3 ≤ 50 := by simp at mx3; omega
  have ix3 : inI x3 := by unfold inI; omega
  clear hc hg mx3 HD2 HR2
  go_wp2_with fail
  refine (amongZ_any B (K + 6) w3.heap.size 0 4 4 [9, 60, 60, 20000] _ (HD3.out.al (.cells (([9, 60, 60, 20000] : List Int).map (Value.int .i64)).toArray 3)).cur (by omega) rfl (by omega) (by omega) (by have := HD3.out.cur.lt; omega) (new_nums w3 [9, 60, 60, 20000] 3 _ rfl)).mono ?_
  rintro e w4 ⟨y4, rfl, my4, hc, hg⟩
  have HD4 := Lib.hid ((HD3.out.al (.cells (([9, 60, 60, 20000] : List Int).map (Value.int .i64)).toArray 3)).step hc hg)
  have HR4 := Lib.hid ((HR3.out.al (.cells (([9, 60, 60, 20000] : List Int).map (Value.int .i64)).toArray 3)).grown hg (by simp; omega))
  have by4 : 9 ≤ y4 ∧ y4 ≤ 20000 := by simp at my4; omega
  have iy4 : inI y4 := by unfold inI; omega
  clear hc hg my4 HD3 HR3
  obtain ⟨F, hF⟩ : ∃ F, w4.heap.size = F := ⟨_, rfl⟩
  have hFw : w.heap.size ≤ F := by rw [← hF]; exact HD4.out.sz
  have hRF : R < F := by have := HR4.out.lt; omega
  have hFB : B < F := by omega
  obtain ⟨x4, hx4⟩ : ∃ x4, max y4 x3 = x4 := ⟨_, rfl⟩
  have bx4 : 0 ≤ x4 ∧ x4 ≤ 20000 := by omega
  have ix4 : inI x4 := by unfold inI; omega
  have HD9 := Lib.hid (HD4.out.al (.cells #[.int .i64 id, .string x1, .int .i64 x2, .int .i64 x3, .int .i64 x4, .int .i64 0] 65 (0, 0)))
  have HR9 := Lib.hid (HR4.out.al (.cells #[.int .i64 id, .string x1, .int .i64 x2, .int .i64 x3, .int .i64 x4, .int .i64 0] 65 (0, 0)))
  have HF9 : Hid (BxV (w4.alloc (.cells #[.int .i64 id, .string x1, .int .i64 x2, .int .i64 x3, .int .i64 x4, .int .i64 0] 65 (0, 0))) F [.int .i64 id, .string x1, .int .i64 x2, .int .i64 x3, .int .i64 x4, .int .i64 0]) := Lib.hid (by rw [← hF]; exact BxV.new w4 [.int .i64 id, .string x1, .int .i64 x2, .int .i64 x3, .int .i64 x4, .int .i64 0] _)
  have HX4 := Lib.hid hx4
  clear hx4 iy4 HD4 HR4
  go_upto_region 3 with (first | (go_at_call 124; refine (l1MostC_any _ _ _).mono ?_; rw [HX4.out]; rintro e w9 ⟨rfl, hw9⟩; subst w9))
  try rw [hF]
  have HFE := Lib.hid hF
  clear hF
  try simp only [List.size_toArray, List.length_cons] at *
  generalize hW9 : w4.alloc (.cells #[.int .i64 id, .string x1, .int .i64 x2, .int .i64 x3, .int .i64 x4, .int .i64 0] 65 (0, 0)) = W9 at *
  have HW9 := Lib.hid hW9
  clear hW9
  go_upto_block 0 with (first | (go_at_call 85; refine (pick_any B (K + 8) 80 _ HD9.out.cur (by omega) (by omega) (by omega)).mono ?_; rintro e w20 ⟨m, rfl, hm0, hm1, hc, hg⟩; have HDs := Lib.hid (HD9.out.step hc hg); have HRs := Lib.hid (HR9.out.grown hg (by simp; omega)); have HFs := Lib.hid (HF9.out.grown hg (by simp; omega)); clear hc hg))
  clear HD9 HR9 HF9
  go_cut [5] from 6 to 64 (fun q wx => q = .pointer (some ⟨F, 0, none⟩) ∧ ∃ f : Ck, f.ok ∧ Hid (Dk w wx B (K + 18)) ∧ Hid (BxV wx R [.int .i64 0, .string ⟨#[]⟩, .int .i64 0, .int .i64 0, .int .i64 0, .int .i64 0]) ∧ Hid (BxV wx F (ckC f)))
  case first =>
    by_cases e0 : m = 0
    · subst e0
      go_wp2_with fail
      refine (amongZ_any B (K + 10) w20.heap.size 0 3 3 [0, 99, 100] _ (HDs.out.al (.cells (([0, 99, 100] : List Int).map (Value.int .i64)).toArray 3)).cur (by omega) rfl (by omega) (by omega) (by have := HDs.out.cur.lt; omega) (new_nums w20 [0, 99, 100] 3 _ rfl)).mono ?_
      rintro e w21 ⟨r, rfl, mr, hc, hg⟩
      have HDt := Lib.hid ((HDs.out.al (.cells (([0, 99, 100] : List Int).map (Value.int .i64)).toArray 3)).step hc hg)
      have HRt := Lib.hid ((HRs.out.al (.cells (([0, 99, 100] : List Int).map (Value.int .i64)).toArray 3)).grown hg (by simp; omega))
      have HFt := Lib.hid ((HFs.out.al (.cells (([0, 99, 100] : List Int).map (Value.int .i64)).toArray 3)).grown hg (by simp; omega))
      have ir : inI r := by have := hid; unfold inI at *; simp at mr; omega
      have fc := HFt.out.cell 0
      have ff := HFt.out.frozen 0
      simp at fc
      clear hc hg mr
      go_wp2_with fail
      go_meet
      exact ⟨rfl, ⟨r, x1, x2, x3, x4, 0⟩, ⟨ir, ix1, ix2, ix3, ix4, (by simp [inI])⟩, Lib.hid ((HDt.out.set hFw hFB).le (by omega)), Lib.hid (HRt.out.other (by omega)), Lib.hid (HFt.out.set 0 _ rfl)⟩
    · have b0 : (m == 0) = false := beq_eq_false_iff_ne.2 e0
      by_cases e1 : m = 1
      · subst e1
        go_wp2_with fail
        refine (of_any B (K + 10) w20.heap.size 0 3 3 baListC _ (HDs.out.al (.cells (baListC.map Value.string).toArray 9)).cur (by omega) rfl (by omega) (by omega) (by have := HDs.out.cur.lt; omega) (new_cells w20 baListC 9 _ rfl)).mono ?_
        rintro e w21 ⟨r, rfl, mr, hc, hg⟩
        have HDt := Lib.hid ((HDs.out.al (.cells (baListC.map Value.string).toArray 9)).step hc hg)
        have HRt := Lib.hid ((HRs.out.al (.cells (baListC.map Value.string).toArray 9)).grown hg (by simp; omega))
        have HFt := Lib.hid ((HFs.out.al (.cells (baListC.map Value.string).toArray 9)).grown hg (by simp; omega))
        have ir : r.size ≤ maxLen := Nat.le_trans (baC_short mr) (by decide)
        have fc := HFt.out.cell 1
        have ff := HFt.out.frozen 1
        simp at fc
        clear hc hg mr
        go_wp2_with fail
        go_meet
        exact ⟨rfl, ⟨id, r, x2, x3, x4, 0⟩, ⟨hid, ir, ix2, ix3, ix4, (by simp [inI])⟩, Lib.hid ((HDt.out.set hFw hFB).le (by omega)), Lib.hid (HRt.out.other (by omega)), Lib.hid (HFt.out.set 1 _ rfl)⟩
      · have b1 : (m == 1) = false := beq_eq_false_iff_ne.2 e1
        by_cases e2 : m = 2
        · subst e2
          go_wp2_with fail
          refine (amongZ_any B (K + 10) w20.heap.size 0 3 3 [-1, 10, 16] _ (HDs.out.al (.cells (([-1, 10, 16] : List Int).map (Value.int .i64)).toArray 3)).cur (by omega) rfl (by omega) (by omega) (by have := HDs.out.cur.lt; omega) (new_nums w20 [-1, 10, 16] 3 _ rfl)).mono ?_
          rintro e w21 ⟨r, rfl, mr, hc, hg⟩
          have HDt := Lib.hid ((HDs.out.al (.cells (([-1, 10, 16] : List Int).map (Value.int .i64)).toArray 3)).step hc hg)
          have HRt := Lib.hid ((HRs.out.al (.cells (([-1, 10, 16] : List Int).map (Value.int .i64)).toArray 3)).grown hg (by simp; omega))
          have HFt := Lib.hid ((HFs.out.al (.cells (([-1, 10, 16] : List Int).map (Value.int .i64)).toArray 3)).grown hg (by simp; omega))
          have ir : inI r := by have := hid; unfold inI at *; simp at mr; omega
          have fc := HFt.out.cell 2
          have ff := HFt.out.frozen 2
          simp at fc
          clear hc hg mr
          go_wp2_with fail
          go_meet
          exact ⟨rfl, ⟨id, x1, r, x3, x4, 0⟩, ⟨hid, ix1, ir, ix3, ix4, (by simp [inI])⟩, Lib.hid ((HDt.out.set hFw hFB).le (by omega)), Lib.hid (HRt.out.other (by omega)), Lib.hid (HFt.out.set 2 _ rfl)⟩
        · have b2 : (m == 2) = false := beq_eq_false_iff_ne.2 e2
          by_cases e3 : m = 3
          · subst e3
            have c4 := HFs.out.cell 4
            simp at c4
            have w4q : IntKind.i64.wrap (x4 + 1) = x4 + 1 := Go.IntWalk.i64_in _ (by omega)
            go_wp2_with fail
            refine (amongZ_any B (K + 10) w20.heap.size 0 2 2 [-1, x4 + 1] _ (HDs.out.al (.cells (([-1, x4 + 1] : List Int).map (Value.int .i64)).toArray 3)).cur (by omega) rfl (by omega) (by omega) (by have := HDs.out.cur.lt; omega) (new_nums w20 [-1, x4 + 1] 3 _ rfl)).mono ?_
            rintro e w21 ⟨r, rfl, mr, hc, hg⟩
            have HDt := Lib.hid ((HDs.out.al (.cells (([-1, x4 + 1] : List Int).map (Value.int .i64)).toArray 3)).step hc hg)
            have HRt := Lib.hid ((HRs.out.al (.cells (([-1, x4 + 1] : List Int).map (Value.int .i64)).toArray 3)).grown hg (by simp; omega))
            have HFt := Lib.hid ((HFs.out.al (.cells (([-1, x4 + 1] : List Int).map (Value.int .i64)).toArray 3)).grown hg (by simp; omega))
            have ir : inI r := by have := hid; unfold inI at *; simp at mr; omega
            have fc := HFt.out.cell 3
            have ff := HFt.out.frozen 3
            simp at fc
            clear hc hg mr
            go_wp2_with fail
            go_meet
            exact ⟨rfl, ⟨id, x1, x2, r, x4, 0⟩, ⟨hid, ix1, ix2, ir, ix4, (by simp [inI])⟩, Lib.hid ((HDt.out.set hFw hFB).le (by omega)), Lib.hid (HRt.out.other (by omega)), Lib.hid (HFt.out.set 3 _ rfl)⟩
          · have b3 : (m == 3) = false := beq_eq_false_iff_ne.2 e3
            by_cases e4 : m = 4
            · subst e4
              have c0 := HFs.out.cell 4
              have ff := HFs.out.frozen 4
              simp at c0
              go_wp2_with fail
              go_meet
              exact ⟨rfl, ⟨id, x1, x2, x3, 20001, 0⟩, ⟨hid, ix1, ix2, ix3, (by simp [inI]), (by simp [inI])⟩, Lib.hid ((HDs.out.set hFw hFB).le (by omega)), Lib.hid (HRs.out.other (by omega)), Lib.hid (HFs.out.set 4 _ rfl)⟩
            · have b4 : (m == 4) = false := beq_eq_false_iff_ne.2 e4
              by_cases e5 : m = 5
              · subst e5
                go_wp2_with fail
                refine (amongZ_any B (K + 10) w20.heap.size 0 3 3 [-1, id, 98] _ (HDs.out.al (.cells (([-1, id, 98] : List Int).map (Value.int .i64)).toArray 3)).cur (by omega) rfl (by omega) (by omega) (by have := HDs.out.cur.lt; omega) (new_nums w20 [-1, id, 98] 3 _ rfl)).mono ?_
                rintro e w21 ⟨r, rfl, mr, hc, hg⟩
                have HDt := Lib.hid ((HDs.out.al (.cells (([-1, id, 98] : List Int).map (Value.int .i64)).toArray 3)).step hc hg)
                have HRt := Lib.hid ((HRs.out.al (.cells (([-1, id, 98] : List Int).map (Value.int .i64)).toArray 3)).grown hg (by simp; omega))
                have HFt := Lib.hid ((HFs.out.al (.cells (([-1, id, 98] : List Int).map (Value.int .i64)).toArray 3)).grown hg (by simp; omega))
                have ir : inI r := by have := hid; unfold inI at *; simp at mr; omega
                have fc := HFt.out.cell 5
                have ff := HFt.out.frozen 5
                simp at fc
                clear hc hg mr
                go_wp2_with fail
                go_meet
                exact ⟨rfl, ⟨id, x1, x2, x3, x4, r⟩, ⟨hid, ix1, ix2, ix3, ix4, ir⟩, Lib.hid ((HDt.out.set hFw hFB).le (by omega)), Lib.hid (HRt.out.other (by omega)), Lib.hid (HFt.out.set 5 _ rfl)⟩
              · have b5 : (m == 5) = false := beq_eq_false_iff_ne.2 e5
                go_wp2_with fail
                go_meet
                exact ⟨rfl, ⟨id, x1, x2, x3, x4, 0⟩, ⟨hid, ix1, ix2, ix3, ix4, (by simp [inI])⟩, Lib.hid (HDs.out.le (by omega)), HRs, HFs⟩
  case rest =>
    obtain ⟨rfl, ⟨z0, z1, z2, z3, z4, z5⟩, hok, HD, HR, HF⟩ := hcut
    clear HDs HRs HFs
    obtain ⟨W11, hW11⟩ : ∃ x, x = wc := ⟨_, rfl⟩
    subst hW11
    have hwR : w.heap.size ≤ R := Nat.le_of_eq HRE.out
    have f0 := HF.out.cell 0
    have f1 := HF.out.cell 1
    have f2 := HF.out.cell 2
    have f3 := HF.out.cell 3
    have f4 := HF.out.cell 4
    have f5 := HF.out.cell 5
    have r0 := HR.out.cell 0
    have r1 := HR.out.cell 1
    have r2 := HR.out.cell 2
    have r3 := HR.out.cell 3
    have r4 := HR.out.cell 4
    have r5 := HR.out.cell 5
    simp [ckC] at f0 f1 f2 f3 f4 f5 r0 r1 r2 r3 r4 r5
    have t0 := HR.out.frozen 0
    have t1 := HR.out.frozen 1
    have t2 := HR.out.frozen 2
    have t3 := HR.out.frozen 3
    have t4 := HR.out.frozen 4
    have t5 := HR.out.frozen 5
    have hok2 := Lib.hid hok
    clear hok
    go_wp2_with fail
    refine bodyPost_ret (v := .agg #[.int .i64 z0, .string z1, .int .i64 z2, .int .i64 z3, .int .i64 z4, .int .i64 z5]) (by simp [results, Try.results114, go_sem, r0, r1, r2, r3, r4, r5]) rfl ?_
    have hD := ((((((HD.out.set (F := R) (j := 0) (u := .int .i64 z0) hwR hBR).set (F := R) (j := 1) (u := .string z1) hwR hBR).set (F := R) (j := 2) (u := .int .i64 z2) hwR hBR).set (F := R) (j := 3) (u := .int .i64 z3) hwR hBR).set (F := R) (j := 4) (u := .int .i64 z4) hwR hBR).set (F := R) (j := 5) (u := .int .i64 z5) hwR hBR)
    exact ⟨⟨z0, z1, z2, z3, z4, z5⟩, rfl, hok2.out, hD.cur.le_K (by omega), hD.gr⟩
end Go.Proofs.Ytalaegkfkjpmoaa
