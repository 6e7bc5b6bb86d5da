/- The model's l4Read. -/
import Derived.Test.YtpcdjpkcalbpkaaDoorPSI
import Derived.Test.YtpcdjpkcalbpkaaDoorSplitIn
namespace Go.Proofs.YtpcdjpkcalbpkaaDoor
set_option linter.unusedVariables false
open Go.RowKit Go.Sort

theorem read_any (p : ByteArray) (w : World) (hs : p.size ≤ 1099511627776) : Calls Tryd.prog 52 #[.string p] w fun e w' => e = .returned (.tuple #[.int .i64 (numV p.data.toList), .bool (numB p.data.toList)]) ∧ Below w.heap.size w w' := by
  have h := specRead_any p w hs
  rwa [numAns_is] at h
theorem beq_u8 {c : UInt8} {d : UInt8} (h : c = d) : ((c.toNat : Int) == (d.toNat : Int)) = true := by subst h; simp
theorem beq_u8_no {c : UInt8} {d : UInt8} (h : ¬ c = d) : ((c.toNat : Int) == (d.toNat : Int)) = false := by
  rw [beq_eq_false_iff_ne]
  intro e
  exact h (UInt8.toNat_inj.1 (by omega))

theorem cs_other {w : World} {a b : Addr} (v : Value) (h : a ≠ b) : (w.setCell a v).cell? b = w.cell? b := by
  apply World.cell?_setCell_other
  exact h
theorem cs_same {w : World} {a : Addr} {u : Value} (v : Value) (h : w.cell? a = some u) : (w.setCell a v).cell? a = some v := by
  apply World.cell?_setCell_same
  exact h

set_option maxRecDepth 20000 in
set_option maxHeartbeats 8000000 in
theorem l4Read_any (s : ByteArray) (w : World) (hs : s.size ≤ 1099511627) :
    Calls Tryd.prog 37 #[.string s] w fun e w' =>
      e = .returned (.agg #[.int .i64 (rdS s).series, .int .i64 (rdS s).event, .int .i64 (rdS s).days, .int .i64 (rdS s).act]) ∧ Below w.heap.size w w' := by
  have b0 := below_al (below_al (Below.refl w.heap.size w) (.cells #[.int .i64 0, .int .i64 0, .int .i64 0, .int .i64 0] 30 (0, 0))) (.cells #[.int .i64 0, .int .i64 0, .int .i64 0, .int .i64 0] 30 (0, 0))
  by_cases h0 : s.size = 0
  · unfold rdS
    rw [if_pos h0]
    have hz : ((s.size : Int) == 0) = true := by simp [h0]
    go_enter Tryd.func37, Tryd.ntmps37
    go_wp2_with fail
    refine bodyPost_ret (v := .agg #[.int .i64 0, .int .i64 0, .int .i64 0, .int .i64 0]) (by simp [results, Tryd.results37, go_sem]) rfl ⟨rfl, ?_⟩
    first | exact b0 | exact (((b0.setCell (by simp) _).setCell (by simp) _).setCell (by simp) _).setCell (by simp) _
  · obtain ⟨m, hm⟩ : ∃ m, s.size = m + 1 := ⟨s.size - 1, by omega⟩
    have hz : ((s.size : Int) == 0) = false := by rw [beq_eq_false_iff_ne]; omega
    have hpl := pre_list s m hm
    have hla := last_list s m hm (by omega)
    obtain ⟨P, hP⟩ : ∃ P, s.extract 0 m = P := ⟨_, rfl⟩
    rw [hP] at hpl
    have hPs : P.size ≤ s.size := by rw [← hP, ByteArray.size_extract]; omega
    have hpre : (⟨s.data.toList.dropLast.toArray⟩ : ByteArray) = P := ByteArray.ext (by rw [← hpl])
    obtain ⟨c, hcc⟩ : ∃ c, s[m]'(by omega) = c := ⟨_, rfl⟩
    unfold rdS
    rw [if_neg h0]
    simp only [hpre]
    rw [hla, hcc]
    obtain ⟨ps, hps⟩ : ∃ ps, spAll P 43 = ps := ⟨_, rfl⟩
    have hne := spAll_ne P 43
    have hle := fun p (hp : p ∈ spAll P 43) => spAll_le hp
    have hsp := fun W => specSplitIn_any P 43 W (by omega)
    rw [hps] at hne hle hsp ⊢
    obtain ⟨p0, pr, rfl⟩ : ∃ p0 pr, ps = p0 :: pr := by cases ps with | nil => exact absurd rfl hne | cons a b => exact ⟨a, b, rfl⟩
    simp only [List.getD_cons_zero, List.getD_cons_succ]
    have hp0 := hle p0 (by simp)
    obtain ⟨ns, hns⟩ : ∃ ns, spAll p0 46 = ns := ⟨_, rfl⟩
    have hne2 := spAll_ne p0 46
    have hle2 := fun p (hp : p ∈ spAll p0 46) => spAll_le hp
    have hsp2 := fun W => specSplitIn_any p0 46 W (by omega)
    rw [hns] at hne2 hle2 hsp2 ⊢
    obtain ⟨n0, nr, rfl⟩ : ∃ n0 nr, ns = n0 :: nr := by cases ns with | nil => exact absurd rfl hne2 | cons a b => exact ⟨a, b, rfl⟩
    simp only [List.getD_cons_zero, List.getD_cons_succ]
    have HSP := Lib.hid hsp
    have HSP2 := Lib.hid hsp2
    have HLE := Lib.hid hle
    have HLE2 := Lib.hid hle2
    have hcm : ∀ h : m < s.size, s[m] = c := fun _ => hcc
    have hm1 : (m : Int) < (s.size : Int) := by omega
    have hm2 : m < s.size := by omega
    have hm3 : (m : Int) ≤ (s.size : Int) := by omega
    have hw1 : IntKind.i64.wrap ((s.size : Int) - 1) = (m : Int) := by rw [Go.IntWalk.i64_in _ (by omega)]; omega
    have hw2 : (s.size : Int) - 1 = (m : Int) := by omega
    clear hps hns hne hne2 hle hle2 hsp hsp2 hpre hpl hla hcc hm
    obtain ⟨NP, hNP⟩ : ∃ n, (p0 :: pr).length = n := ⟨_, rfl⟩
    obtain ⟨NN, hNN⟩ : ∃ n, (n0 :: nr).length = n := ⟨_, rfl⟩
    have gp : 1 ≤ NP := by rw [← hNP]; simp
    have gn : 1 ≤ NN := by rw [← hNN]; simp
    rw [hNP, hNN]
    have HNP := Lib.hid hNP
    have HNN := Lib.hid hNN
    clear hNP hNN
    have gp0 : (0 : Int) < (NP : Int) := by omega
    have gn0 : (0 : Int) < (NN : Int) := by omega
    by_cases hA : NP = 2 ∧ NN = 2
    · rw [if_pos hA]
      obtain ⟨rfl, rfl⟩ := hA
      obtain ⟨p1, rfl⟩ : ∃ p1, pr = [p1] := by
        have := HNP.out
        match pr, this with
        | [x], _ => exact ⟨x, rfl⟩
      obtain ⟨n1, rfl⟩ : ∃ n1, nr = [n1] := by
        have := HNN.out
        match nr, this with
        | [x], _ => exact ⟨x, rfl⟩
      simp only [List.getD_cons_zero]
      have hp1 := HLE.out p1 (by simp)
      have hn0 := HLE2.out n0 (by simp)
      have hn1 := HLE2.out n1 (by simp)
      clear gp gn gp0 gn0
      have R0 := Lib.hid (fun W => read_any n0 W (by omega))
      have R1 := Lib.hid (fun W => read_any n1 W (by omega))
      have R2 := Lib.hid (fun W => read_any p1 W (by omega))
      by_cases e107 : c = 107
      · subst e107
        rw [show actOf 107 = 1 from rfl]
        go_enter Tryd.func37, Tryd.ntmps37
        go_wp2_with fail
        refine (HSP.out _).mono ?_
        rintro e w1 ⟨v1, rfl, hown, b1⟩
        have Z := box_kept (box_al (heap_alloc_new w (.cells #[.int .i64 0, .int .i64 0, .int .i64 0, .int .i64 0] 30 (0, 0))) (.cells #[.int .i64 0, .int .i64 0, .int .i64 0, .int .i64 1] 30 (0, 0))) b1
        have K := box_kept (heap_alloc_new (w.alloc (.cells #[.int .i64 0, .int .i64 0, .int .i64 0, .int .i64 0] 30 (0, 0))) (.cells #[.int .i64 0, .int .i64 0, .int .i64 0, .int .i64 1] 30 (0, 0))) b1
        have bb := below_chain (below_al (below_al (Below.refl w.heap.size w) (.cells #[.int .i64 0, .int .i64 0, .int .i64 0, .int .i64 0] 30 (0, 0))) (.cells #[.int .i64 0, .int .i64 0, .int .i64 0, .int .i64 1] 30 (0, 0))) b1
        simp only [World.size_alloc] at K
        have sK1 := (Array.getElem?_eq_some_iff.1 K).1
        rcases hown.2 with ⟨_, hx⟩ | ⟨g1, cp1, cur1, rfl, hg1, hgs1, hnc1, hcm1, _, _⟩
        · simp at hx
        have q1 := hown.cells (g := g1) rfl
        have c0 := q1 0 (.string p0) rfl
        simp only [Addr.add_lit, Nat.add_zero] at c0
        have c1' := q1 1 (.string p1) rfl
        simp only [Addr.add_lit, Nat.zero_add] at c1'
        rw [HNP.out] at hnc1 ⊢
        unfold maxLen at hcm1
        simp only [World.size_alloc] at hg1
        clear hown q1 b1 hgs1
        go_wp2_with fail
        refine (HSP2.out _).mono ?_
        rintro e w2 ⟨v2, rfl, hown, b2⟩
        replace Z := box_kept Z b2
        replace K := box_kept K b2
        replace c1' := cell_kept c1' b2
        have bs := bb.size
        replace bb := below_chain bb b2
        rcases hown.2 with ⟨_, hx⟩ | ⟨g2, cp2, cur2, rfl, hg2, hgs2, hnc2, hcm2, _, _⟩
        · simp at hx
        have q2 := hown.cells (g := g2) rfl
        have d0 := q2 0 (.string n0) rfl
        simp only [Addr.add_lit, Nat.add_zero] at d0
        have d1 := q2 1 (.string n1) rfl
        simp only [Addr.add_lit, Nat.zero_add] at d1
        clear q2
        have sK := (Array.getElem?_eq_some_iff.1 K).1
        rw [HNN.out] at hnc2 ⊢
        unfold maxLen at hcm2
        clear hown b2 c0 hgs2
        have z0 := box_cell Z 0 rfl
        have z1 := box_cell Z 1 rfl
        have z2 := box_cell Z 2 rfl
        have z3 := box_cell Z 3 rfl
        have y0 := blk_frozen Z 0
        have y1 := blk_frozen Z 1
        have y2 := blk_frozen Z 2
        have y3 := blk_frozen Z 3
        simp at z0 z1 z2 z3 y0 y1 y2 y3
        clear z0 z1 z2 z3 y0 y1 y2 y3
        have HZ := Lib.hid Z
        have k0 := box_cell K 0 rfl
        have k1 := box_cell K 1 rfl
        have k2 := box_cell K 2 rfl
        have k3 := box_cell K 3 rfl
        have f0 := blk_frozen K 0
        have f1 := blk_frozen K 1
        have f2 := blk_frozen K 2
        have f3 := blk_frozen K 3
        simp at k0 k1 k2 k3 f0 f1 f2 f3
        clear Z K
        have sb := bb.size
        have nA1 : w.heap.size + 1 ≠ g1 := by omega
        have nA2 : w.heap.size + 1 ≠ g2 := by omega
        go_wp2_with fail
        refine (R0.out _).mono ?_
        rintro e w3 ⟨rfl, bn⟩
        replace HZ := Lib.hid (box_kept HZ.out bn)
        have sk := World.block_lt_of_cell? _ _ k0
        simp only at sk
        replace f0 := (bn.frozen (p := ⟨w.heap.size + 1, 0, none⟩) sk).trans f0
        replace f1 := (bn.frozen (p := ⟨w.heap.size + 1, 1, none⟩) sk).trans f1
        replace f2 := (bn.frozen (p := ⟨w.heap.size + 1, 2, none⟩) sk).trans f2
        replace f3 := (bn.frozen (p := ⟨w.heap.size + 1, 3, none⟩) sk).trans f3
        replace k0 := cell_kept k0 bn
        replace k1 := cell_kept k1 bn
        replace k2 := cell_kept k2 bn
        replace k3 := cell_kept k3 bn
        replace d1 := cell_kept d1 bn
        replace c1' := cell_kept c1' bn
        replace bb := below_chain bb bn
        clear bn sk
        have d1s := (World.cell?_setCell_far w3 (⟨w.heap.size + 1, 0, none⟩ : Addr) (⟨g2, 1, none⟩ : Addr) (.int .i64 (numV n0.data.toList)) (by simp; omega)).trans d1
        have c1s := (World.cell?_setCell_far w3 (⟨w.heap.size + 1, 0, none⟩ : Addr) (⟨g1, 1, none⟩ : Addr) (.int .i64 (numV n0.data.toList)) (by simp; omega)).trans c1'
        have k0s := cs_same (.int .i64 (numV n0.data.toList)) k0
        have f0s : (w3.setCell ⟨w.heap.size + 1, 0, none⟩ (.int .i64 (numV n0.data.toList))).frozen? ⟨w.heap.size + 1, 0, none⟩ = false := by rw [World.frozen?_setCell]; exact f0
        have k1s := (cs_other (w := w3) (a := ⟨w.heap.size + 1, 0, none⟩) (b := ⟨w.heap.size + 1, 1, none⟩) (.int .i64 (numV n0.data.toList)) (by simp)).trans k1
        have f1s : (w3.setCell ⟨w.heap.size + 1, 0, none⟩ (.int .i64 (numV n0.data.toList))).frozen? ⟨w.heap.size + 1, 1, none⟩ = false := by rw [World.frozen?_setCell]; exact f1
        have k2s := (cs_other (w := w3) (a := ⟨w.heap.size + 1, 0, none⟩) (b := ⟨w.heap.size + 1, 2, none⟩) (.int .i64 (numV n0.data.toList)) (by simp)).trans k2
        have f2s : (w3.setCell ⟨w.heap.size + 1, 0, none⟩ (.int .i64 (numV n0.data.toList))).frozen? ⟨w.heap.size + 1, 2, none⟩ = false := by rw [World.frozen?_setCell]; exact f2
        have k3s := (cs_other (w := w3) (a := ⟨w.heap.size + 1, 0, none⟩) (b := ⟨w.heap.size + 1, 3, none⟩) (.int .i64 (numV n0.data.toList)) (by simp)).trans k3
        have f3s : (w3.setCell ⟨w.heap.size + 1, 0, none⟩ (.int .i64 (numV n0.data.toList))).frozen? ⟨w.heap.size + 1, 3, none⟩ = false := by rw [World.frozen?_setCell]; exact f3
        have HZs := (Below.heap_setCell w3 ⟨w.heap.size + 1, 0, none⟩ (.int .i64 (numV n0.data.toList)) w.heap.size (by simp)).trans HZ.out
        have bbs := bb.setCell (p := ⟨w.heap.size + 1, 0, none⟩) (by simp) (.int .i64 (numV n0.data.toList))
        have HZ2 := Lib.hid HZs
        clear HZs HZ
        have HZ := HZ2
        clear HZ2
        go_wp2_with fail
        generalize w3.setCell ⟨w.heap.size + 1, 0, none⟩ (.int .i64 (numV n0.data.toList)) = w3x at *
        clear k0 k1 k2 k3 f0 f1 f2 f3 bb
        clear d1
        clear c1'
        have k0 := k0s
        have f0 := f0s
        have k1 := k1s
        have f1 := f1s
        have k2 := k2s
        have f2 := f2s
        have k3 := k3s
        have f3 := f3s
        have bb := bbs
        have d1 := d1s
        have c1' := c1s
        clear k0s k1s k2s k3s f0s f1s f2s f3s bbs d1s c1s
        go_wp2_with fail
        refine (R1.out _).mono ?_
        rintro e w4 ⟨rfl, bn⟩
        replace HZ := Lib.hid (box_kept HZ.out bn)
        have sk := World.block_lt_of_cell? _ _ k0
        simp only at sk
        replace f0 := (bn.frozen (p := ⟨w.heap.size + 1, 0, none⟩) sk).trans f0
        replace f1 := (bn.frozen (p := ⟨w.heap.size + 1, 1, none⟩) sk).trans f1
        replace f2 := (bn.frozen (p := ⟨w.heap.size + 1, 2, none⟩) sk).trans f2
        replace f3 := (bn.frozen (p := ⟨w.heap.size + 1, 3, none⟩) sk).trans f3
        replace k0 := cell_kept k0 bn
        replace k1 := cell_kept k1 bn
        replace k2 := cell_kept k2 bn
        replace k3 := cell_kept k3 bn
        replace c1' := cell_kept c1' bn
        replace bb := below_chain bb bn
        clear bn sk
        have c1s := (World.cell?_setCell_far w4 (⟨w.heap.size + 1, 1, none⟩ : Addr) (⟨g1, 1, none⟩ : Addr) (.int .i64 (numV n1.data.toList)) (by simp; omega)).trans c1'
        have k0s := (cs_other (w := w4) (a := ⟨w.heap.size + 1, 1, none⟩) (b := ⟨w.heap.size + 1, 0, none⟩) (.int .i64 (numV n1.data.toList)) (by simp)).trans k0
        have f0s : (w4.setCell ⟨w.heap.size + 1, 1, none⟩ (.int .i64 (numV n1.data.toList))).frozen? ⟨w.heap.size + 1, 0, none⟩ = false := by rw [World.frozen?_setCell]; exact f0
        have k1s := cs_same (.int .i64 (numV n1.data.toList)) k1
        have f1s : (w4.setCell ⟨w.heap.size + 1, 1, none⟩ (.int .i64 (numV n1.data.toList))).frozen? ⟨w.heap.size + 1, 1, none⟩ = false := by rw [World.frozen?_setCell]; exact f1
        have k2s := (cs_other (w := w4) (a := ⟨w.heap.size + 1, 1, none⟩) (b := ⟨w.heap.size + 1, 2, none⟩) (.int .i64 (numV n1.data.toList)) (by simp)).trans k2
        have f2s : (w4.setCell ⟨w.heap.size + 1, 1, none⟩ (.int .i64 (numV n1.data.toList))).frozen? ⟨w.heap.size + 1, 2, none⟩ = false := by rw [World.frozen?_setCell]; exact f2
        have k3s := (cs_other (w := w4) (a := ⟨w.heap.size + 1, 1, none⟩) (b := ⟨w.heap.size + 1, 3, none⟩) (.int .i64 (numV n1.data.toList)) (by simp)).trans k3
        have f3s : (w4.setCell ⟨w.heap.size + 1, 1, none⟩ (.int .i64 (numV n1.data.toList))).frozen? ⟨w.heap.size + 1, 3, none⟩ = false := by rw [World.frozen?_setCell]; exact f3
        have HZs := (Below.heap_setCell w4 ⟨w.heap.size + 1, 1, none⟩ (.int .i64 (numV n1.data.toList)) w.heap.size (by simp)).trans HZ.out
        have bbs := bb.setCell (p := ⟨w.heap.size + 1, 1, none⟩) (by simp) (.int .i64 (numV n1.data.toList))
        have HZ2 := Lib.hid HZs
        clear HZs HZ
        have HZ := HZ2
        clear HZ2
        go_wp2_with fail
        generalize w4.setCell ⟨w.heap.size + 1, 1, none⟩ (.int .i64 (numV n1.data.toList)) = w4x at *
        clear k0 k1 k2 k3 f0 f1 f2 f3 bb
        clear c1'
        have k0 := k0s
        have f0 := f0s
        have k1 := k1s
        have f1 := f1s
        have k2 := k2s
        have f2 := f2s
        have k3 := k3s
        have f3 := f3s
        have bb := bbs
        have c1' := c1s
        clear k0s k1s k2s k3s f0s f1s f2s f3s bbs c1s
        go_wp2_with fail
        refine (R2.out _).mono ?_
        rintro e w5 ⟨rfl, bn⟩
        replace HZ := Lib.hid (box_kept HZ.out bn)
        have sk := World.block_lt_of_cell? _ _ k0
        simp only at sk
        replace f0 := (bn.frozen (p := ⟨w.heap.size + 1, 0, none⟩) sk).trans f0
        replace f1 := (bn.frozen (p := ⟨w.heap.size + 1, 1, none⟩) sk).trans f1
        replace f2 := (bn.frozen (p := ⟨w.heap.size + 1, 2, none⟩) sk).trans f2
        replace f3 := (bn.frozen (p := ⟨w.heap.size + 1, 3, none⟩) sk).trans f3
        replace k0 := cell_kept k0 bn
        replace k1 := cell_kept k1 bn
        replace k2 := cell_kept k2 bn
        replace k3 := cell_kept k3 bn
        replace bb := below_chain bb bn
        clear bn sk
        have k0s := (cs_other (w := w5) (a := ⟨w.heap.size + 1, 2, none⟩) (b := ⟨w.heap.size + 1, 0, none⟩) (.int .i64 (numV p1.data.toList)) (by simp)).trans k0
        have f0s : (w5.setCell ⟨w.heap.size + 1, 2, none⟩ (.int .i64 (numV p1.data.toList))).frozen? ⟨w.heap.size + 1, 0, none⟩ = false := by rw [World.frozen?_setCell]; exact f0
        have k1s := (cs_other (w := w5) (a := ⟨w.heap.size + 1, 2, none⟩) (b := ⟨w.heap.size + 1, 1, none⟩) (.int .i64 (numV p1.data.toList)) (by simp)).trans k1
        have f1s : (w5.setCell ⟨w.heap.size + 1, 2, none⟩ (.int .i64 (numV p1.data.toList))).frozen? ⟨w.heap.size + 1, 1, none⟩ = false := by rw [World.frozen?_setCell]; exact f1
        have k2s := cs_same (.int .i64 (numV p1.data.toList)) k2
        have f2s : (w5.setCell ⟨w.heap.size + 1, 2, none⟩ (.int .i64 (numV p1.data.toList))).frozen? ⟨w.heap.size + 1, 2, none⟩ = false := by rw [World.frozen?_setCell]; exact f2
        have k3s := (cs_other (w := w5) (a := ⟨w.heap.size + 1, 2, none⟩) (b := ⟨w.heap.size + 1, 3, none⟩) (.int .i64 (numV p1.data.toList)) (by simp)).trans k3
        have f3s : (w5.setCell ⟨w.heap.size + 1, 2, none⟩ (.int .i64 (numV p1.data.toList))).frozen? ⟨w.heap.size + 1, 3, none⟩ = false := by rw [World.frozen?_setCell]; exact f3
        have HZs := (Below.heap_setCell w5 ⟨w.heap.size + 1, 2, none⟩ (.int .i64 (numV p1.data.toList)) w.heap.size (by simp)).trans HZ.out
        have bbs := bb.setCell (p := ⟨w.heap.size + 1, 2, none⟩) (by simp) (.int .i64 (numV p1.data.toList))
        have z0 := box_cell HZs 0 rfl
        have z1 := box_cell HZs 1 rfl
        have z2 := box_cell HZs 2 rfl
        have z3 := box_cell HZs 3 rfl
        have y0 := blk_frozen HZs 0
        have y1 := blk_frozen HZs 1
        have y2 := blk_frozen HZs 2
        have y3 := blk_frozen HZs 3
        simp at z0 z1 z2 z3 y0 y1 y2 y3
        clear HZs
        go_wp2_with fail
        refine bodyPost_ret (v := .agg #[.int .i64 (numV n0.data.toList), .int .i64 (numV n1.data.toList), .int .i64 (numV p1.data.toList), .int .i64 1]) (by simp [results, Tryd.results37, go_sem, z0, z1, z2, z3]) rfl ⟨rfl, ?_⟩
        exact (((bbs.setCell (by simp) _).setCell (by simp) _).setCell (by simp) _).setCell (by simp) _
      · have t107 : ((c.toNat : Int) == 107) = false := beq_u8_no (d := 107) e107
        by_cases e116 : c = 116
        · subst e116
          rw [show actOf 116 = 2 from rfl]
          go_enter Tryd.func37, Tryd.ntmps37
          go_wp2_with fail
          refine (HSP.out _).mono ?_
          rintro e w1 ⟨v1, rfl, hown, b1⟩
          have Z := box_kept (box_al (heap_alloc_new w (.cells #[.int .i64 0, .int .i64 0, .int .i64 0, .int .i64 0] 30 (0, 0))) (.cells #[.int .i64 0, .int .i64 0, .int .i64 0, .int .i64 2] 30 (0, 0))) b1
          have K := box_kept (heap_alloc_new (w.alloc (.cells #[.int .i64 0, .int .i64 0, .int .i64 0, .int .i64 0] 30 (0, 0))) (.cells #[.int .i64 0, .int .i64 0, .int .i64 0, .int .i64 2] 30 (0, 0))) b1
          have bb := below_chain (below_al (below_al (Below.refl w.heap.size w) (.cells #[.int .i64 0, .int .i64 0, .int .i64 0, .int .i64 0] 30 (0, 0))) (.cells #[.int .i64 0, .int .i64 0, .int .i64 0, .int .i64 2] 30 (0, 0))) b1
          simp only [World.size_alloc] at K
          have sK1 := (Array.getElem?_eq_some_iff.1 K).1
          rcases hown.2 with ⟨_, hx⟩ | ⟨g1, cp1, cur1, rfl, hg1, hgs1, hnc1, hcm1, _, _⟩
          · simp at hx
          have q1 := hown.cells (g := g1) rfl
          have c0 := q1 0 (.string p0) rfl
          simp only [Addr.add_lit, Nat.add_zero] at c0
          have c1' := q1 1 (.string p1) rfl
          simp only [Addr.add_lit, Nat.zero_add] at c1'
          rw [HNP.out] at hnc1 ⊢
          unfold maxLen at hcm1
          simp only [World.size_alloc] at hg1
          clear hown q1 b1 hgs1
          go_wp2_with fail
          refine (HSP2.out _).mono ?_
          rintro e w2 ⟨v2, rfl, hown, b2⟩
          replace Z := box_kept Z b2
          replace K := box_kept K b2
          replace c1' := cell_kept c1' b2
          have bs := bb.size
          replace bb := below_chain bb b2
          rcases hown.2 with ⟨_, hx⟩ | ⟨g2, cp2, cur2, rfl, hg2, hgs2, hnc2, hcm2, _, _⟩
          · simp at hx
          have q2 := hown.cells (g := g2) rfl
          have d0 := q2 0 (.string n0) rfl
          simp only [Addr.add_lit, Nat.add_zero] at d0
          have d1 := q2 1 (.string n1) rfl
          simp only [Addr.add_lit, Nat.zero_add] at d1
          clear q2
          have sK := (Array.getElem?_eq_some_iff.1 K).1
          rw [HNN.out] at hnc2 ⊢
          unfold maxLen at hcm2
          clear hown b2 c0 hgs2
          have z0 := box_cell Z 0 rfl
          have z1 := box_cell Z 1 rfl
          have z2 := box_cell Z 2 rfl
          have z3 := box_cell Z 3 rfl
          have y0 := blk_frozen Z 0
          have y1 := blk_frozen Z 1
          have y2 := blk_frozen Z 2
          have y3 := blk_frozen Z 3
          simp at z0 z1 z2 z3 y0 y1 y2 y3
          clear z0 z1 z2 z3 y0 y1 y2 y3
          have HZ := Lib.hid Z
          have k0 := box_cell K 0 rfl
          have k1 := box_cell K 1 rfl
          have k2 := box_cell K 2 rfl
          have k3 := box_cell K 3 rfl
          have f0 := blk_frozen K 0
          have f1 := blk_frozen K 1
          have f2 := blk_frozen K 2
          have f3 := blk_frozen K 3
          simp at k0 k1 k2 k3 f0 f1 f2 f3
          clear Z K
          have sb := bb.size
          have nA1 : w.heap.size + 1 ≠ g1 := by omega
          have nA2 : w.heap.size + 1 ≠ g2 := by omega
          go_wp2_with fail
          refine (R0.out _).mono ?_
          rintro e w3 ⟨rfl, bn⟩
          replace HZ := Lib.hid (box_kept HZ.out bn)
          have sk := World.block_lt_of_cell? _ _ k0
          simp only at sk
          replace f0 := (bn.frozen (p := ⟨w.heap.size + 1, 0, none⟩) sk).trans f0
          replace f1 := (bn.frozen (p := ⟨w.heap.size + 1, 1, none⟩) sk).trans f1
          replace f2 := (bn.frozen (p := ⟨w.heap.size + 1, 2, none⟩) sk).trans f2
          replace f3 := (bn.frozen (p := ⟨w.heap.size + 1, 3, none⟩) sk).trans f3
          replace k0 := cell_kept k0 bn
          replace k1 := cell_kept k1 bn
          replace k2 := cell_kept k2 bn
          replace k3 := cell_kept k3 bn
          replace d1 := cell_kept d1 bn
          replace c1' := cell_kept c1' bn
          replace bb := below_chain bb bn
          clear bn sk
          have d1s := (World.cell?_setCell_far w3 (⟨w.heap.size + 1, 0, none⟩ : Addr) (⟨g2, 1, none⟩ : Addr) (.int .i64 (numV n0.data.toList)) (by simp; omega)).trans d1
          have c1s := (World.cell?_setCell_far w3 (⟨w.heap.size + 1, 0, none⟩ : Addr) (⟨g1, 1, none⟩ : Addr) (.int .i64 (numV n0.data.toList)) (by simp; omega)).trans c1'
          have k0s := cs_same (.int .i64 (numV n0.data.toList)) k0
          have f0s : (w3.setCell ⟨w.heap.size + 1, 0, none⟩ (.int .i64 (numV n0.data.toList))).frozen? ⟨w.heap.size + 1, 0, none⟩ = false := by rw [World.frozen?_setCell]; exact f0
          have k1s := (cs_other (w := w3) (a := ⟨w.heap.size + 1, 0, none⟩) (b := ⟨w.heap.size + 1, 1, none⟩) (.int .i64 (numV n0.data.toList)) (by simp)).trans k1
          have f1s : (w3.setCell ⟨w.heap.size + 1, 0, none⟩ (.int .i64 (numV n0.data.toList))).frozen? ⟨w.heap.size + 1, 1, none⟩ = false := by rw [World.frozen?_setCell]; exact f1
          have k2s := (cs_other (w := w3) (a := ⟨w.heap.size + 1, 0, none⟩) (b := ⟨w.heap.size + 1, 2, none⟩) (.int .i64 (numV n0.data.toList)) (by simp)).trans k2
          have f2s : (w3.setCell ⟨w.heap.size + 1, 0, none⟩ (.int .i64 (numV n0.data.toList))).frozen? ⟨w.heap.size + 1, 2, none⟩ = false := by rw [World.frozen?_setCell]; exact f2
          have k3s := (cs_other (w := w3) (a := ⟨w.heap.size + 1, 0, none⟩) (b := ⟨w.heap.size + 1, 3, none⟩) (.int .i64 (numV n0.data.toList)) (by simp)).trans k3
          have f3s : (w3.setCell ⟨w.heap.size + 1, 0, none⟩ (.int .i64 (numV n0.data.toList))).frozen? ⟨w.heap.size + 1, 3, none⟩ = false := by rw [World.frozen?_setCell]; exact f3
          have HZs := (Below.heap_setCell w3 ⟨w.heap.size + 1, 0, none⟩ (.int .i64 (numV n0.data.toList)) w.heap.size (by simp)).trans HZ.out
          have bbs := bb.setCell (p := ⟨w.heap.size + 1, 0, none⟩) (by simp) (.int .i64 (numV n0.data.toList))
          have HZ2 := Lib.hid HZs
          clear HZs HZ
          have HZ := HZ2
          clear HZ2
          go_wp2_with fail
          generalize w3.setCell ⟨w.heap.size + 1, 0, none⟩ (.int .i64 (numV n0.data.toList)) = w3x at *
          clear k0 k1 k2 k3 f0 f1 f2 f3 bb
          clear d1
          clear c1'
          have k0 := k0s
          have f0 := f0s
          have k1 := k1s
          have f1 := f1s
          have k2 := k2s
          have f2 := f2s
          have k3 := k3s
          have f3 := f3s
          have bb := bbs
          have d1 := d1s
          have c1' := c1s
          clear k0s k1s k2s k3s f0s f1s f2s f3s bbs d1s c1s
          go_wp2_with fail
          refine (R1.out _).mono ?_
          rintro e w4 ⟨rfl, bn⟩
          replace HZ := Lib.hid (box_kept HZ.out bn)
          have sk := World.block_lt_of_cell? _ _ k0
          simp only at sk
          replace f0 := (bn.frozen (p := ⟨w.heap.size + 1, 0, none⟩) sk).trans f0
          replace f1 := (bn.frozen (p := ⟨w.heap.size + 1, 1, none⟩) sk).trans f1
          replace f2 := (bn.frozen (p := ⟨w.heap.size + 1, 2, none⟩) sk).trans f2
          replace f3 := (bn.frozen (p := ⟨w.heap.size + 1, 3, none⟩) sk).trans f3
          replace k0 := cell_kept k0 bn
          replace k1 := cell_kept k1 bn
          replace k2 := cell_kept k2 bn
          replace k3 := cell_kept k3 bn
          replace c1' := cell_kept c1' bn
          replace bb := below_chain bb bn
          clear bn sk
          have c1s := (World.cell?_setCell_far w4 (⟨w.heap.size + 1, 1, none⟩ : Addr) (⟨g1, 1, none⟩ : Addr) (.int .i64 (numV n1.data.toList)) (by simp; omega)).trans c1'
          have k0s := (cs_other (w := w4) (a := ⟨w.heap.size + 1, 1, none⟩) (b := ⟨w.heap.size + 1, 0, none⟩) (.int .i64 (numV n1.data.toList)) (by simp)).trans k0
          have f0s : (w4.setCell ⟨w.heap.size + 1, 1, none⟩ (.int .i64 (numV n1.data.toList))).frozen? ⟨w.heap.size + 1, 0, none⟩ = false := by rw [World.frozen?_setCell]; exact f0
          have k1s := cs_same (.int .i64 (numV n1.data.toList)) k1
          have f1s : (w4.setCell ⟨w.heap.size + 1, 1, none⟩ (.int .i64 (numV n1.data.toList))).frozen? ⟨w.heap.size + 1, 1, none⟩ = false := by rw [World.frozen?_setCell]; exact f1
          have k2s := (cs_other (w := w4) (a := ⟨w.heap.size + 1, 1, none⟩) (b := ⟨w.heap.size + 1, 2, none⟩) (.int .i64 (numV n1.data.toList)) (by simp)).trans k2
          have f2s : (w4.setCell ⟨w.heap.size + 1, 1, none⟩ (.int .i64 (numV n1.data.toList))).frozen? ⟨w.heap.size + 1, 2, none⟩ = false := by rw [World.frozen?_setCell]; exact f2
          have k3s := (cs_other (w := w4) (a := ⟨w.heap.size + 1, 1, none⟩) (b := ⟨w.heap.size + 1, 3, none⟩) (.int .i64 (numV n1.data.toList)) (by simp)).trans k3
          have f3s : (w4.setCell ⟨w.heap.size + 1, 1, none⟩ (.int .i64 (numV n1.data.toList))).frozen? ⟨w.heap.size + 1, 3, none⟩ = false := by rw [World.frozen?_setCell]; exact f3
          have HZs := (Below.heap_setCell w4 ⟨w.heap.size + 1, 1, none⟩ (.int .i64 (numV n1.data.toList)) w.heap.size (by simp)).trans HZ.out
          have bbs := bb.setCell (p := ⟨w.heap.size + 1, 1, none⟩) (by simp) (.int .i64 (numV n1.data.toList))
          have HZ2 := Lib.hid HZs
          clear HZs HZ
          have HZ := HZ2
          clear HZ2
          go_wp2_with fail
          generalize w4.setCell ⟨w.heap.size + 1, 1, none⟩ (.int .i64 (numV n1.data.toList)) = w4x at *
          clear k0 k1 k2 k3 f0 f1 f2 f3 bb
          clear c1'
          have k0 := k0s
          have f0 := f0s
          have k1 := k1s
          have f1 := f1s
          have k2 := k2s
          have f2 := f2s
          have k3 := k3s
          have f3 := f3s
          have bb := bbs
          have c1' := c1s
          clear k0s k1s k2s k3s f0s f1s f2s f3s bbs c1s
          go_wp2_with fail
          refine (R2.out _).mono ?_
          rintro e w5 ⟨rfl, bn⟩
          replace HZ := Lib.hid (box_kept HZ.out bn)
          have sk := World.block_lt_of_cell? _ _ k0
          simp only at sk
          replace f0 := (bn.frozen (p := ⟨w.heap.size + 1, 0, none⟩) sk).trans f0
          replace f1 := (bn.frozen (p := ⟨w.heap.size + 1, 1, none⟩) sk).trans f1
          replace f2 := (bn.frozen (p := ⟨w.heap.size + 1, 2, none⟩) sk).trans f2
          replace f3 := (bn.frozen (p := ⟨w.heap.size + 1, 3, none⟩) sk).trans f3
          replace k0 := cell_kept k0 bn
          replace k1 := cell_kept k1 bn
          replace k2 := cell_kept k2 bn
          replace k3 := cell_kept k3 bn
          replace bb := below_chain bb bn
          clear bn sk
          have k0s := (cs_other (w := w5) (a := ⟨w.heap.size + 1, 2, none⟩) (b := ⟨w.heap.size + 1, 0, none⟩) (.int .i64 (numV p1.data.toList)) (by simp)).trans k0
          have f0s : (w5.setCell ⟨w.heap.size + 1, 2, none⟩ (.int .i64 (numV p1.data.toList))).frozen? ⟨w.heap.size + 1, 0, none⟩ = false := by rw [World.frozen?_setCell]; exact f0
          have k1s := (cs_other (w := w5) (a := ⟨w.heap.size + 1, 2, none⟩) (b := ⟨w.heap.size + 1, 1, none⟩) (.int .i64 (numV p1.data.toList)) (by simp)).trans k1
          have f1s : (w5.setCell ⟨w.heap.size + 1, 2, none⟩ (.int .i64 (numV p1.data.toList))).frozen? ⟨w.heap.size + 1, 1, none⟩ = false := by rw [World.frozen?_setCell]; exact f1
          have k2s := cs_same (.int .i64 (numV p1.data.toList)) k2
          have f2s : (w5.setCell ⟨w.heap.size + 1, 2, none⟩ (.int .i64 (numV p1.data.toList))).frozen? ⟨w.heap.size + 1, 2, none⟩ = false := by rw [World.frozen?_setCell]; exact f2
          have k3s := (cs_other (w := w5) (a := ⟨w.heap.size + 1, 2, none⟩) (b := ⟨w.heap.size + 1, 3, none⟩) (.int .i64 (numV p1.data.toList)) (by simp)).trans k3
          have f3s : (w5.setCell ⟨w.heap.size + 1, 2, none⟩ (.int .i64 (numV p1.data.toList))).frozen? ⟨w.heap.size + 1, 3, none⟩ = false := by rw [World.frozen?_setCell]; exact f3
          have HZs := (Below.heap_setCell w5 ⟨w.heap.size + 1, 2, none⟩ (.int .i64 (numV p1.data.toList)) w.heap.size (by simp)).trans HZ.out
          have bbs := bb.setCell (p := ⟨w.heap.size + 1, 2, none⟩) (by simp) (.int .i64 (numV p1.data.toList))
          have z0 := box_cell HZs 0 rfl
          have z1 := box_cell HZs 1 rfl
          have z2 := box_cell HZs 2 rfl
          have z3 := box_cell HZs 3 rfl
          have y0 := blk_frozen HZs 0
          have y1 := blk_frozen HZs 1
          have y2 := blk_frozen HZs 2
          have y3 := blk_frozen HZs 3
          simp at z0 z1 z2 z3 y0 y1 y2 y3
          clear HZs
          go_wp2_with fail
          refine bodyPost_ret (v := .agg #[.int .i64 (numV n0.data.toList), .int .i64 (numV n1.data.toList), .int .i64 (numV p1.data.toList), .int .i64 2]) (by simp [results, Tryd.results37, go_sem, z0, z1, z2, z3]) rfl ⟨rfl, ?_⟩
          exact (((bbs.setCell (by simp) _).setCell (by simp) _).setCell (by simp) _).setCell (by simp) _
        · have t116 : ((c.toNat : Int) == 116) = false := beq_u8_no (d := 116) e116
          by_cases e100 : c = 100
          · subst e100
            rw [show actOf 100 = 3 from rfl]
            go_enter Tryd.func37, Tryd.ntmps37
            go_wp2_with fail
            refine (HSP.out _).mono ?_
            rintro e w1 ⟨v1, rfl, hown, b1⟩
            have Z := box_kept (box_al (heap_alloc_new w (.cells #[.int .i64 0, .int .i64 0, .int .i64 0, .int .i64 0] 30 (0, 0))) (.cells #[.int .i64 0, .int .i64 0, .int .i64 0, .int .i64 3] 30 (0, 0))) b1
            have K := box_kept (heap_alloc_new (w.alloc (.cells #[.int .i64 0, .int .i64 0, .int .i64 0, .int .i64 0] 30 (0, 0))) (.cells #[.int .i64 0, .int .i64 0, .int .i64 0, .int .i64 3] 30 (0, 0))) b1
            have bb := below_chain (below_al (below_al (Below.refl w.heap.size w) (.cells #[.int .i64 0, .int .i64 0, .int .i64 0, .int .i64 0] 30 (0, 0))) (.cells #[.int .i64 0, .int .i64 0, .int .i64 0, .int .i64 3] 30 (0, 0))) b1
            simp only [World.size_alloc] at K
            have sK1 := (Array.getElem?_eq_some_iff.1 K).1
            rcases hown.2 with ⟨_, hx⟩ | ⟨g1, cp1, cur1, rfl, hg1, hgs1, hnc1, hcm1, _, _⟩
            · simp at hx
            have q1 := hown.cells (g := g1) rfl
            have c0 := q1 0 (.string p0) rfl
            simp only [Addr.add_lit, Nat.add_zero] at c0
            have c1' := q1 1 (.string p1) rfl
            simp only [Addr.add_lit, Nat.zero_add] at c1'
            rw [HNP.out] at hnc1 ⊢
            unfold maxLen at hcm1
            simp only [World.size_alloc] at hg1
            clear hown q1 b1 hgs1
            go_wp2_with fail
            refine (HSP2.out _).mono ?_
            rintro e w2 ⟨v2, rfl, hown, b2⟩
            replace Z := box_kept Z b2
            replace K := box_kept K b2
            replace c1' := cell_kept c1' b2
            have bs := bb.size
            replace bb := below_chain bb b2
            rcases hown.2 with ⟨_, hx⟩ | ⟨g2, cp2, cur2, rfl, hg2, hgs2, hnc2, hcm2, _, _⟩
            · simp at hx
            have q2 := hown.cells (g := g2) rfl
            have d0 := q2 0 (.string n0) rfl
            simp only [Addr.add_lit, Nat.add_zero] at d0
            have d1 := q2 1 (.string n1) rfl
            simp only [Addr.add_lit, Nat.zero_add] at d1
            clear q2
            have sK := (Array.getElem?_eq_some_iff.1 K).1
            rw [HNN.out] at hnc2 ⊢
            unfold maxLen at hcm2
            clear hown b2 c0 hgs2
            have z0 := box_cell Z 0 rfl
            have z1 := box_cell Z 1 rfl
            have z2 := box_cell Z 2 rfl
            have z3 := box_cell Z 3 rfl
            have y0 := blk_frozen Z 0
            have y1 := blk_frozen Z 1
            have y2 := blk_frozen Z 2
            have y3 := blk_frozen Z 3
            simp at z0 z1 z2 z3 y0 y1 y2 y3
            clear z0 z1 z2 z3 y0 y1 y2 y3
            have HZ := Lib.hid Z
            have k0 := box_cell K 0 rfl
            have k1 := box_cell K 1 rfl
            have k2 := box_cell K 2 rfl
            have k3 := box_cell K 3 rfl
            have f0 := blk_frozen K 0
            have f1 := blk_frozen K 1
            have f2 := blk_frozen K 2
            have f3 := blk_frozen K 3
            simp at k0 k1 k2 k3 f0 f1 f2 f3
            clear Z K
            have sb := bb.size
            have nA1 : w.heap.size + 1 ≠ g1 := by omega
            have nA2 : w.heap.size + 1 ≠ g2 := by omega
            go_wp2_with fail
            refine (R0.out _).mono ?_
            rintro e w3 ⟨rfl, bn⟩
            replace HZ := Lib.hid (box_kept HZ.out bn)
            have sk := World.block_lt_of_cell? _ _ k0
            simp only at sk
            replace f0 := (bn.frozen (p := ⟨w.heap.size + 1, 0, none⟩) sk).trans f0
            replace f1 := (bn.frozen (p := ⟨w.heap.size + 1, 1, none⟩) sk).trans f1
            replace f2 := (bn.frozen (p := ⟨w.heap.size + 1, 2, none⟩) sk).trans f2
            replace f3 := (bn.frozen (p := ⟨w.heap.size + 1, 3, none⟩) sk).trans f3
            replace k0 := cell_kept k0 bn
            replace k1 := cell_kept k1 bn
            replace k2 := cell_kept k2 bn
            replace k3 := cell_kept k3 bn
            replace d1 := cell_kept d1 bn
            replace c1' := cell_kept c1' bn
            replace bb := below_chain bb bn
            clear bn sk
            have d1s := (World.cell?_setCell_far w3 (⟨w.heap.size + 1, 0, none⟩ : Addr) (⟨g2, 1, none⟩ : Addr) (.int .i64 (numV n0.data.toList)) (by simp; omega)).trans d1
            have c1s := (World.cell?_setCell_far w3 (⟨w.heap.size + 1, 0, none⟩ : Addr) (⟨g1, 1, none⟩ : Addr) (.int .i64 (numV n0.data.toList)) (by simp; omega)).trans c1'
            have k0s := cs_same (.int .i64 (numV n0.data.toList)) k0
            have f0s : (w3.setCell ⟨w.heap.size + 1, 0, none⟩ (.int .i64 (numV n0.data.toList))).frozen? ⟨w.heap.size + 1, 0, none⟩ = false := by rw [World.frozen?_setCell]; exact f0
            have k1s := (cs_other (w := w3) (a := ⟨w.heap.size + 1, 0, none⟩) (b := ⟨w.heap.size + 1, 1, none⟩) (.int .i64 (numV n0.data.toList)) (by simp)).trans k1
            have f1s : (w3.setCell ⟨w.heap.size + 1, 0, none⟩ (.int .i64 (numV n0.data.toList))).frozen? ⟨w.heap.size + 1, 1, none⟩ = false := by rw [World.frozen?_setCell]; exact f1
            have k2s := (cs_other (w := w3) (a := ⟨w.heap.size + 1, 0, none⟩) (b := ⟨w.heap.size + 1, 2, none⟩) (.int .i64 (numV n0.data.toList)) (by simp)).trans k2
            have f2s : (w3.setCell ⟨w.heap.size + 1, 0, none⟩ (.int .i64 (numV n0.data.toList))).frozen? ⟨w.heap.size + 1, 2, none⟩ = false := by rw [World.frozen?_setCell]; exact f2
            have k3s := (cs_other (w := w3) (a := ⟨w.heap.size + 1, 0, none⟩) (b := ⟨w.heap.size + 1, 3, none⟩) (.int .i64 (numV n0.data.toList)) (by simp)).trans k3
            have f3s : (w3.setCell ⟨w.heap.size + 1, 0, none⟩ (.int .i64 (numV n0.data.toList))).frozen? ⟨w.heap.size + 1, 3, none⟩ = false := by rw [World.frozen?_setCell]; exact f3
            have HZs := (Below.heap_setCell w3 ⟨w.heap.size + 1, 0, none⟩ (.int .i64 (numV n0.data.toList)) w.heap.size (by simp)).trans HZ.out
            have bbs := bb.setCell (p := ⟨w.heap.size + 1, 0, none⟩) (by simp) (.int .i64 (numV n0.data.toList))
            have HZ2 := Lib.hid HZs
            clear HZs HZ
            have HZ := HZ2
            clear HZ2
            go_wp2_with fail
            generalize w3.setCell ⟨w.heap.size + 1, 0, none⟩ (.int .i64 (numV n0.data.toList)) = w3x at *
            clear k0 k1 k2 k3 f0 f1 f2 f3 bb
            clear d1
            clear c1'
            have k0 := k0s
            have f0 := f0s
            have k1 := k1s
            have f1 := f1s
            have k2 := k2s
            have f2 := f2s
            have k3 := k3s
            have f3 := f3s
            have bb := bbs
            have d1 := d1s
            have c1' := c1s
            clear k0s k1s k2s k3s f0s f1s f2s f3s bbs d1s c1s
            go_wp2_with fail
            refine (R1.out _).mono ?_
            rintro e w4 ⟨rfl, bn⟩
            replace HZ := Lib.hid (box_kept HZ.out bn)
            have sk := World.block_lt_of_cell? _ _ k0
            simp only at sk
            replace f0 := (bn.frozen (p := ⟨w.heap.size + 1, 0, none⟩) sk).trans f0
            replace f1 := (bn.frozen (p := ⟨w.heap.size + 1, 1, none⟩) sk).trans f1
            replace f2 := (bn.frozen (p := ⟨w.heap.size + 1, 2, none⟩) sk).trans f2
            replace f3 := (bn.frozen (p := ⟨w.heap.size + 1, 3, none⟩) sk).trans f3
            replace k0 := cell_kept k0 bn
            replace k1 := cell_kept k1 bn
            replace k2 := cell_kept k2 bn
            replace k3 := cell_kept k3 bn
            replace c1' := cell_kept c1' bn
            replace bb := below_chain bb bn
            clear bn sk
            have c1s := (World.cell?_setCell_far w4 (⟨w.heap.size + 1, 1, none⟩ : Addr) (⟨g1, 1, none⟩ : Addr) (.int .i64 (numV n1.data.toList)) (by simp; omega)).trans c1'
            have k0s := (cs_other (w := w4) (a := ⟨w.heap.size + 1, 1, none⟩) (b := ⟨w.heap.size + 1, 0, none⟩) (.int .i64 (numV n1.data.toList)) (by simp)).trans k0
            have f0s : (w4.setCell ⟨w.heap.size + 1, 1, none⟩ (.int .i64 (numV n1.data.toList))).frozen? ⟨w.heap.size + 1, 0, none⟩ = false := by rw [World.frozen?_setCell]; exact f0
            have k1s := cs_same (.int .i64 (numV n1.data.toList)) k1
            have f1s : (w4.setCell ⟨w.heap.size + 1, 1, none⟩ (.int .i64 (numV n1.data.toList))).frozen? ⟨w.heap.size + 1, 1, none⟩ = false := by rw [World.frozen?_setCell]; exact f1
            have k2s := (cs_other (w := w4) (a := ⟨w.heap.size + 1, 1, none⟩) (b := ⟨w.heap.size + 1, 2, none⟩) (.int .i64 (numV n1.data.toList)) (by simp)).trans k2
            have f2s : (w4.setCell ⟨w.heap.size + 1, 1, none⟩ (.int .i64 (numV n1.data.toList))).frozen? ⟨w.heap.size + 1, 2, none⟩ = false := by rw [World.frozen?_setCell]; exact f2
            have k3s := (cs_other (w := w4) (a := ⟨w.heap.size + 1, 1, none⟩) (b := ⟨w.heap.size + 1, 3, none⟩) (.int .i64 (numV n1.data.toList)) (by simp)).trans k3
            have f3s : (w4.setCell ⟨w.heap.size + 1, 1, none⟩ (.int .i64 (numV n1.data.toList))).frozen? ⟨w.heap.size + 1, 3, none⟩ = false := by rw [World.frozen?_setCell]; exact f3
            have HZs := (Below.heap_setCell w4 ⟨w.heap.size + 1, 1, none⟩ (.int .i64 (numV n1.data.toList)) w.heap.size (by simp)).trans HZ.out
            have bbs := bb.setCell (p := ⟨w.heap.size + 1, 1, none⟩) (by simp) (.int .i64 (numV n1.data.toList))
            have HZ2 := Lib.hid HZs
            clear HZs HZ
            have HZ := HZ2
            clear HZ2
            go_wp2_with fail
            generalize w4.setCell ⟨w.heap.size + 1, 1, none⟩ (.int .i64 (numV n1.data.toList)) = w4x at *
            clear k0 k1 k2 k3 f0 f1 f2 f3 bb
            clear c1'
            have k0 := k0s
            have f0 := f0s
            have k1 := k1s
            have f1 := f1s
            have k2 := k2s
            have f2 := f2s
            have k3 := k3s
            have f3 := f3s
            have bb := bbs
            have c1' := c1s
            clear k0s k1s k2s k3s f0s f1s f2s f3s bbs c1s
            go_wp2_with fail
            refine (R2.out _).mono ?_
            rintro e w5 ⟨rfl, bn⟩
            replace HZ := Lib.hid (box_kept HZ.out bn)
            have sk := World.block_lt_of_cell? _ _ k0
            simp only at sk
            replace f0 := (bn.frozen (p := ⟨w.heap.size + 1, 0, none⟩) sk).trans f0
            replace f1 := (bn.frozen (p := ⟨w.heap.size + 1, 1, none⟩) sk).trans f1
            replace f2 := (bn.frozen (p := ⟨w.heap.size + 1, 2, none⟩) sk).trans f2
            replace f3 := (bn.frozen (p := ⟨w.heap.size + 1, 3, none⟩) sk).trans f3
            replace k0 := cell_kept k0 bn
            replace k1 := cell_kept k1 bn
            replace k2 := cell_kept k2 bn
            replace k3 := cell_kept k3 bn
            replace bb := below_chain bb bn
            clear bn sk
            have k0s := (cs_other (w := w5) (a := ⟨w.heap.size + 1, 2, none⟩) (b := ⟨w.heap.size + 1, 0, none⟩) (.int .i64 (numV p1.data.toList)) (by simp)).trans k0
            have f0s : (w5.setCell ⟨w.heap.size + 1, 2, none⟩ (.int .i64 (numV p1.data.toList))).frozen? ⟨w.heap.size + 1, 0, none⟩ = false := by rw [World.frozen?_setCell]; exact f0
            have k1s := (cs_other (w := w5) (a := ⟨w.heap.size + 1, 2, none⟩) (b := ⟨w.heap.size + 1, 1, none⟩) (.int .i64 (numV p1.data.toList)) (by simp)).trans k1
            have f1s : (w5.setCell ⟨w.heap.size + 1, 2, none⟩ (.int .i64 (numV p1.data.toList))).frozen? ⟨w.heap.size + 1, 1, none⟩ = false := by rw [World.frozen?_setCell]; exact f1
            have k2s := cs_same (.int .i64 (numV p1.data.toList)) k2
            have f2s : (w5.setCell ⟨w.heap.size + 1, 2, none⟩ (.int .i64 (numV p1.data.toList))).frozen? ⟨w.heap.size + 1, 2, none⟩ = false := by rw [World.frozen?_setCell]; exact f2
            have k3s := (cs_other (w := w5) (a := ⟨w.heap.size + 1, 2, none⟩) (b := ⟨w.heap.size + 1, 3, none⟩) (.int .i64 (numV p1.data.toList)) (by simp)).trans k3
            have f3s : (w5.setCell ⟨w.heap.size + 1, 2, none⟩ (.int .i64 (numV p1.data.toList))).frozen? ⟨w.heap.size + 1, 3, none⟩ = false := by rw [World.frozen?_setCell]; exact f3
            have HZs := (Below.heap_setCell w5 ⟨w.heap.size + 1, 2, none⟩ (.int .i64 (numV p1.data.toList)) w.heap.size (by simp)).trans HZ.out
            have bbs := bb.setCell (p := ⟨w.heap.size + 1, 2, none⟩) (by simp) (.int .i64 (numV p1.data.toList))
            have z0 := box_cell HZs 0 rfl
            have z1 := box_cell HZs 1 rfl
            have z2 := box_cell HZs 2 rfl
            have z3 := box_cell HZs 3 rfl
            have y0 := blk_frozen HZs 0
            have y1 := blk_frozen HZs 1
            have y2 := blk_frozen HZs 2
            have y3 := blk_frozen HZs 3
            simp at z0 z1 z2 z3 y0 y1 y2 y3
            clear HZs
            go_wp2_with fail
            refine bodyPost_ret (v := .agg #[.int .i64 (numV n0.data.toList), .int .i64 (numV n1.data.toList), .int .i64 (numV p1.data.toList), .int .i64 3]) (by simp [results, Tryd.results37, go_sem, z0, z1, z2, z3]) rfl ⟨rfl, ?_⟩
            exact (((bbs.setCell (by simp) _).setCell (by simp) _).setCell (by simp) _).setCell (by simp) _
          · have t100 : ((c.toNat : Int) == 100) = false := beq_u8_no (d := 100) e100
            have hz0 : actOf c = 0 := by unfold actOf; rw [if_neg e107, if_neg e116, if_neg e100]
            rw [hz0]
            clear hz0 e107 e116 e100
            go_enter Tryd.func37, Tryd.ntmps37
            go_wp2_with fail
            refine (HSP.out _).mono ?_
            rintro e w1 ⟨v1, rfl, hown, b1⟩
            have Z := box_kept (box_al (heap_alloc_new w (.cells #[.int .i64 0, .int .i64 0, .int .i64 0, .int .i64 0] 30 (0, 0))) (.cells #[.int .i64 0, .int .i64 0, .int .i64 0, .int .i64 0] 30 (0, 0))) b1
            have K := box_kept (heap_alloc_new (w.alloc (.cells #[.int .i64 0, .int .i64 0, .int .i64 0, .int .i64 0] 30 (0, 0))) (.cells #[.int .i64 0, .int .i64 0, .int .i64 0, .int .i64 0] 30 (0, 0))) b1
            have bb := below_chain (below_al (below_al (Below.refl w.heap.size w) (.cells #[.int .i64 0, .int .i64 0, .int .i64 0, .int .i64 0] 30 (0, 0))) (.cells #[.int .i64 0, .int .i64 0, .int .i64 0, .int .i64 0] 30 (0, 0))) b1
            simp only [World.size_alloc] at K
            have sK1 := (Array.getElem?_eq_some_iff.1 K).1
            rcases hown.2 with ⟨_, hx⟩ | ⟨g1, cp1, cur1, rfl, hg1, hgs1, hnc1, hcm1, _, _⟩
            · simp at hx
            have q1 := hown.cells (g := g1) rfl
            have c0 := q1 0 (.string p0) rfl
            simp only [Addr.add_lit, Nat.add_zero] at c0
            have c1' := q1 1 (.string p1) rfl
            simp only [Addr.add_lit, Nat.zero_add] at c1'
            rw [HNP.out] at hnc1 ⊢
            unfold maxLen at hcm1
            simp only [World.size_alloc] at hg1
            clear hown q1 b1 hgs1
            go_wp2_with fail
            refine (HSP2.out _).mono ?_
            rintro e w2 ⟨v2, rfl, hown, b2⟩
            replace Z := box_kept Z b2
            replace K := box_kept K b2
            replace c1' := cell_kept c1' b2
            have bs := bb.size
            replace bb := below_chain bb b2
            rcases hown.2 with ⟨_, hx⟩ | ⟨g2, cp2, cur2, rfl, hg2, hgs2, hnc2, hcm2, _, _⟩
            · simp at hx
            have q2 := hown.cells (g := g2) rfl
            have d0 := q2 0 (.string n0) rfl
            simp only [Addr.add_lit, Nat.add_zero] at d0
            have d1 := q2 1 (.string n1) rfl
            simp only [Addr.add_lit, Nat.zero_add] at d1
            clear q2
            have sK := (Array.getElem?_eq_some_iff.1 K).1
            rw [HNN.out] at hnc2 ⊢
            unfold maxLen at hcm2
            clear hown b2 c0 hgs2
            have z0 := box_cell Z 0 rfl
            have z1 := box_cell Z 1 rfl
            have z2 := box_cell Z 2 rfl
            have z3 := box_cell Z 3 rfl
            have y0 := blk_frozen Z 0
            have y1 := blk_frozen Z 1
            have y2 := blk_frozen Z 2
            have y3 := blk_frozen Z 3
            simp at z0 z1 z2 z3 y0 y1 y2 y3
            clear z0 z1 z2 z3 y0 y1 y2 y3
            have HZ := Lib.hid Z
            have k0 := box_cell K 0 rfl
            have k1 := box_cell K 1 rfl
            have k2 := box_cell K 2 rfl
            have k3 := box_cell K 3 rfl
            have f0 := blk_frozen K 0
            have f1 := blk_frozen K 1
            have f2 := blk_frozen K 2
            have f3 := blk_frozen K 3
            simp at k0 k1 k2 k3 f0 f1 f2 f3
            clear Z K
            have sb := bb.size
            have nA1 : w.heap.size + 1 ≠ g1 := by omega
            have nA2 : w.heap.size + 1 ≠ g2 := by omega
            go_wp2_with fail
            refine (R0.out _).mono ?_
            rintro e w3 ⟨rfl, bn⟩
            replace HZ := Lib.hid (box_kept HZ.out bn)
            have sk := World.block_lt_of_cell? _ _ k0
            simp only at sk
            replace f0 := (bn.frozen (p := ⟨w.heap.size + 1, 0, none⟩) sk).trans f0
            replace f1 := (bn.frozen (p := ⟨w.heap.size + 1, 1, none⟩) sk).trans f1
            replace f2 := (bn.frozen (p := ⟨w.heap.size + 1, 2, none⟩) sk).trans f2
            replace f3 := (bn.frozen (p := ⟨w.heap.size + 1, 3, none⟩) sk).trans f3
            replace k0 := cell_kept k0 bn
            replace k1 := cell_kept k1 bn
            replace k2 := cell_kept k2 bn
            replace k3 := cell_kept k3 bn
            replace d1 := cell_kept d1 bn
            replace c1' := cell_kept c1' bn
            replace bb := below_chain bb bn
            clear bn sk
            have d1s := (World.cell?_setCell_far w3 (⟨w.heap.size + 1, 0, none⟩ : Addr) (⟨g2, 1, none⟩ : Addr) (.int .i64 (numV n0.data.toList)) (by simp; omega)).trans d1
            have c1s := (World.cell?_setCell_far w3 (⟨w.heap.size + 1, 0, none⟩ : Addr) (⟨g1, 1, none⟩ : Addr) (.int .i64 (numV n0.data.toList)) (by simp; omega)).trans c1'
            have k0s := cs_same (.int .i64 (numV n0.data.toList)) k0
            have f0s : (w3.setCell ⟨w.heap.size + 1, 0, none⟩ (.int .i64 (numV n0.data.toList))).frozen? ⟨w.heap.size + 1, 0, none⟩ = false := by rw [World.frozen?_setCell]; exact f0
            have k1s := (cs_other (w := w3) (a := ⟨w.heap.size + 1, 0, none⟩) (b := ⟨w.heap.size + 1, 1, none⟩) (.int .i64 (numV n0.data.toList)) (by simp)).trans k1
            have f1s : (w3.setCell ⟨w.heap.size + 1, 0, none⟩ (.int .i64 (numV n0.data.toList))).frozen? ⟨w.heap.size + 1, 1, none⟩ = false := by rw [World.frozen?_setCell]; exact f1
            have k2s := (cs_other (w := w3) (a := ⟨w.heap.size + 1, 0, none⟩) (b := ⟨w.heap.size + 1, 2, none⟩) (.int .i64 (numV n0.data.toList)) (by simp)).trans k2
            have f2s : (w3.setCell ⟨w.heap.size + 1, 0, none⟩ (.int .i64 (numV n0.data.toList))).frozen? ⟨w.heap.size + 1, 2, none⟩ = false := by rw [World.frozen?_setCell]; exact f2
            have k3s := (cs_other (w := w3) (a := ⟨w.heap.size + 1, 0, none⟩) (b := ⟨w.heap.size + 1, 3, none⟩) (.int .i64 (numV n0.data.toList)) (by simp)).trans k3
            have f3s : (w3.setCell ⟨w.heap.size + 1, 0, none⟩ (.int .i64 (numV n0.data.toList))).frozen? ⟨w.heap.size + 1, 3, none⟩ = false := by rw [World.frozen?_setCell]; exact f3
            have HZs := (Below.heap_setCell w3 ⟨w.heap.size + 1, 0, none⟩ (.int .i64 (numV n0.data.toList)) w.heap.size (by simp)).trans HZ.out
            have bbs := bb.setCell (p := ⟨w.heap.size + 1, 0, none⟩) (by simp) (.int .i64 (numV n0.data.toList))
            have HZ2 := Lib.hid HZs
            clear HZs HZ
            have HZ := HZ2
            clear HZ2
            go_wp2_with fail
            generalize w3.setCell ⟨w.heap.size + 1, 0, none⟩ (.int .i64 (numV n0.data.toList)) = w3x at *
            clear k0 k1 k2 k3 f0 f1 f2 f3 bb
            clear d1
            clear c1'
            have k0 := k0s
            have f0 := f0s
            have k1 := k1s
            have f1 := f1s
            have k2 := k2s
            have f2 := f2s
            have k3 := k3s
            have f3 := f3s
            have bb := bbs
            have d1 := d1s
            have c1' := c1s
            clear k0s k1s k2s k3s f0s f1s f2s f3s bbs d1s c1s
            go_wp2_with fail
            refine (R1.out _).mono ?_
            rintro e w4 ⟨rfl, bn⟩
            replace HZ := Lib.hid (box_kept HZ.out bn)
            have sk := World.block_lt_of_cell? _ _ k0
            simp only at sk
            replace f0 := (bn.frozen (p := ⟨w.heap.size + 1, 0, none⟩) sk).trans f0
            replace f1 := (bn.frozen (p := ⟨w.heap.size + 1, 1, none⟩) sk).trans f1
            replace f2 := (bn.frozen (p := ⟨w.heap.size + 1, 2, none⟩) sk).trans f2
            replace f3 := (bn.frozen (p := ⟨w.heap.size + 1, 3, none⟩) sk).trans f3
            replace k0 := cell_kept k0 bn
            replace k1 := cell_kept k1 bn
            replace k2 := cell_kept k2 bn
            replace k3 := cell_kept k3 bn
            replace c1' := cell_kept c1' bn
            replace bb := below_chain bb bn
            clear bn sk
            have c1s := (World.cell?_setCell_far w4 (⟨w.heap.size + 1, 1, none⟩ : Addr) (⟨g1, 1, none⟩ : Addr) (.int .i64 (numV n1.data.toList)) (by simp; omega)).trans c1'
            have k0s := (cs_other (w := w4) (a := ⟨w.heap.size + 1, 1, none⟩) (b := ⟨w.heap.size + 1, 0, none⟩) (.int .i64 (numV n1.data.toList)) (by simp)).trans k0
            have f0s : (w4.setCell ⟨w.heap.size + 1, 1, none⟩ (.int .i64 (numV n1.data.toList))).frozen? ⟨w.heap.size + 1, 0, none⟩ = false := by rw [World.frozen?_setCell]; exact f0
            have k1s := cs_same (.int .i64 (numV n1.data.toList)) k1
            have f1s : (w4.setCell ⟨w.heap.size + 1, 1, none⟩ (.int .i64 (numV n1.data.toList))).frozen? ⟨w.heap.size + 1, 1, none⟩ = false := by rw [World.frozen?_setCell]; exact f1
            have k2s := (cs_other (w := w4) (a := ⟨w.heap.size + 1, 1, none⟩) (b := ⟨w.heap.size + 1, 2, none⟩) (.int .i64 (numV n1.data.toList)) (by simp)).trans k2
            have f2s : (w4.setCell ⟨w.heap.size + 1, 1, none⟩ (.int .i64 (numV n1.data.toList))).frozen? ⟨w.heap.size + 1, 2, none⟩ = false := by rw [World.frozen?_setCell]; exact f2
            have k3s := (cs_other (w := w4) (a := ⟨w.heap.size + 1, 1, none⟩) (b := ⟨w.heap.size + 1, 3, none⟩) (.int .i64 (numV n1.data.toList)) (by simp)).trans k3
            have f3s : (w4.setCell ⟨w.heap.size + 1, 1, none⟩ (.int .i64 (numV n1.data.toList))).frozen? ⟨w.heap.size + 1, 3, none⟩ = false := by rw [World.frozen?_setCell]; exact f3
            have HZs := (Below.heap_setCell w4 ⟨w.heap.size + 1, 1, none⟩ (.int .i64 (numV n1.data.toList)) w.heap.size (by simp)).trans HZ.out
            have bbs := bb.setCell (p := ⟨w.heap.size + 1, 1, none⟩) (by simp) (.int .i64 (numV n1.data.toList))
            have HZ2 := Lib.hid HZs
            clear HZs HZ
            have HZ := HZ2
            clear HZ2
            go_wp2_with fail
            generalize w4.setCell ⟨w.heap.size + 1, 1, none⟩ (.int .i64 (numV n1.data.toList)) = w4x at *
            clear k0 k1 k2 k3 f0 f1 f2 f3 bb
            clear c1'
            have k0 := k0s
            have f0 := f0s
            have k1 := k1s
            have f1 := f1s
            have k2 := k2s
            have f2 := f2s
            have k3 := k3s
            have f3 := f3s
            have bb := bbs
            have c1' := c1s
            clear k0s k1s k2s k3s f0s f1s f2s f3s bbs c1s
            go_wp2_with fail
            refine (R2.out _).mono ?_
            rintro e w5 ⟨rfl, bn⟩
            replace HZ := Lib.hid (box_kept HZ.out bn)
            have sk := World.block_lt_of_cell? _ _ k0
            simp only at sk
            replace f0 := (bn.frozen (p := ⟨w.heap.size + 1, 0, none⟩) sk).trans f0
            replace f1 := (bn.frozen (p := ⟨w.heap.size + 1, 1, none⟩) sk).trans f1
            replace f2 := (bn.frozen (p := ⟨w.heap.size + 1, 2, none⟩) sk).trans f2
            replace f3 := (bn.frozen (p := ⟨w.heap.size + 1, 3, none⟩) sk).trans f3
            replace k0 := cell_kept k0 bn
            replace k1 := cell_kept k1 bn
            replace k2 := cell_kept k2 bn
            replace k3 := cell_kept k3 bn
            replace bb := below_chain bb bn
            clear bn sk
            have k0s := (cs_other (w := w5) (a := ⟨w.heap.size + 1, 2, none⟩) (b := ⟨w.heap.size + 1, 0, none⟩) (.int .i64 (numV p1.data.toList)) (by simp)).trans k0
            have f0s : (w5.setCell ⟨w.heap.size + 1, 2, none⟩ (.int .i64 (numV p1.data.toList))).frozen? ⟨w.heap.size + 1, 0, none⟩ = false := by rw [World.frozen?_setCell]; exact f0
            have k1s := (cs_other (w := w5) (a := ⟨w.heap.size + 1, 2, none⟩) (b := ⟨w.heap.size + 1, 1, none⟩) (.int .i64 (numV p1.data.toList)) (by simp)).trans k1
            have f1s : (w5.setCell ⟨w.heap.size + 1, 2, none⟩ (.int .i64 (numV p1.data.toList))).frozen? ⟨w.heap.size + 1, 1, none⟩ = false := by rw [World.frozen?_setCell]; exact f1
            have k2s := cs_same (.int .i64 (numV p1.data.toList)) k2
            have f2s : (w5.setCell ⟨w.heap.size + 1, 2, none⟩ (.int .i64 (numV p1.data.toList))).frozen? ⟨w.heap.size + 1, 2, none⟩ = false := by rw [World.frozen?_setCell]; exact f2
            have k3s := (cs_other (w := w5) (a := ⟨w.heap.size + 1, 2, none⟩) (b := ⟨w.heap.size + 1, 3, none⟩) (.int .i64 (numV p1.data.toList)) (by simp)).trans k3
            have f3s : (w5.setCell ⟨w.heap.size + 1, 2, none⟩ (.int .i64 (numV p1.data.toList))).frozen? ⟨w.heap.size + 1, 3, none⟩ = false := by rw [World.frozen?_setCell]; exact f3
            have HZs := (Below.heap_setCell w5 ⟨w.heap.size + 1, 2, none⟩ (.int .i64 (numV p1.data.toList)) w.heap.size (by simp)).trans HZ.out
            have bbs := bb.setCell (p := ⟨w.heap.size + 1, 2, none⟩) (by simp) (.int .i64 (numV p1.data.toList))
            have z0 := box_cell HZs 0 rfl
            have z1 := box_cell HZs 1 rfl
            have z2 := box_cell HZs 2 rfl
            have z3 := box_cell HZs 3 rfl
            have y0 := blk_frozen HZs 0
            have y1 := blk_frozen HZs 1
            have y2 := blk_frozen HZs 2
            have y3 := blk_frozen HZs 3
            simp at z0 z1 z2 z3 y0 y1 y2 y3
            clear HZs
            go_wp2_with fail
            refine bodyPost_ret (v := .agg #[.int .i64 (numV n0.data.toList), .int .i64 (numV n1.data.toList), .int .i64 (numV p1.data.toList), .int .i64 0]) (by simp [results, Tryd.results37, go_sem, z0, z1, z2, z3]) rfl ⟨rfl, ?_⟩
            exact (((bbs.setCell (by simp) _).setCell (by simp) _).setCell (by simp) _).setCell (by simp) _
    · rw [if_neg hA]
      show Calls _ _ _ _ (fun e w' => e = .returned (.agg #[.int .i64 0, .int .i64 0, .int .i64 0, .int .i64 0]) ∧ Below w.heap.size w w')
      by_cases hB : NP = 2
      · have n2 : ((NP : Int) != 2) = false := by simp; omega
        have n3 : ((NN : Int) != 2) = true := by simp; omega
        clear hA hB
        by_cases e107 : c = 107
        · subst e107
          skip
          go_enter Tryd.func37, Tryd.ntmps37
          go_wp2_with fail
          refine (HSP.out _).mono ?_
          rintro e w1 ⟨v1, rfl, hown, b1⟩
          have Z := box_kept (box_al (heap_alloc_new w (.cells #[.int .i64 0, .int .i64 0, .int .i64 0, .int .i64 0] 30 (0, 0))) (.cells #[.int .i64 0, .int .i64 0, .int .i64 0, .int .i64 1] 30 (0, 0))) b1
          have K := box_kept (heap_alloc_new (w.alloc (.cells #[.int .i64 0, .int .i64 0, .int .i64 0, .int .i64 0] 30 (0, 0))) (.cells #[.int .i64 0, .int .i64 0, .int .i64 0, .int .i64 1] 30 (0, 0))) b1
          have bb := below_chain (below_al (below_al (Below.refl w.heap.size w) (.cells #[.int .i64 0, .int .i64 0, .int .i64 0, .int .i64 0] 30 (0, 0))) (.cells #[.int .i64 0, .int .i64 0, .int .i64 0, .int .i64 1] 30 (0, 0))) b1
          simp only [World.size_alloc] at K
          have sK1 := (Array.getElem?_eq_some_iff.1 K).1
          rcases hown.2 with ⟨_, hx⟩ | ⟨g1, cp1, cur1, rfl, hg1, hgs1, hnc1, hcm1, _, _⟩
          · simp at hx
          have q1 := hown.cells (g := g1) rfl
          have c0 := q1 0 (.string p0) rfl
          simp only [Addr.add_lit, Nat.add_zero] at c0
          rw [HNP.out] at hnc1 ⊢
          unfold maxLen at hcm1
          simp only [World.size_alloc] at hg1
          clear hown q1 b1 hgs1
          go_wp2_with fail
          refine (HSP2.out _).mono ?_
          rintro e w2 ⟨v2, rfl, hown, b2⟩
          replace Z := box_kept Z b2
          replace K := box_kept K b2
          have bs := bb.size
          replace bb := below_chain bb b2
          rcases hown.2 with ⟨_, hx⟩ | ⟨g2, cp2, cur2, rfl, hg2, hgs2, hnc2, hcm2, _, _⟩
          · simp at hx
          rw [HNN.out] at hnc2 ⊢
          unfold maxLen at hcm2
          clear hown b2 c0 hgs2
          have z0 := box_cell Z 0 rfl
          have z1 := box_cell Z 1 rfl
          have z2 := box_cell Z 2 rfl
          have z3 := box_cell Z 3 rfl
          have y0 := blk_frozen Z 0
          have y1 := blk_frozen Z 1
          have y2 := blk_frozen Z 2
          have y3 := blk_frozen Z 3
          simp at z0 z1 z2 z3 y0 y1 y2 y3
          go_wp2_with fail
          refine bodyPost_ret (v := .agg #[.int .i64 0, .int .i64 0, .int .i64 0, .int .i64 0]) (by simp [results, Tryd.results37, go_sem, z0, z1, z2, z3]) rfl ⟨rfl, ?_⟩
          exact (((bb.setCell (by simp) _).setCell (by simp) _).setCell (by simp) _).setCell (by simp) _
        · have t107 : ((c.toNat : Int) == 107) = false := beq_u8_no (d := 107) e107
          by_cases e116 : c = 116
          · subst e116
            skip
            go_enter Tryd.func37, Tryd.ntmps37
            go_wp2_with fail
            refine (HSP.out _).mono ?_
            rintro e w1 ⟨v1, rfl, hown, b1⟩
            have Z := box_kept (box_al (heap_alloc_new w (.cells #[.int .i64 0, .int .i64 0, .int .i64 0, .int .i64 0] 30 (0, 0))) (.cells #[.int .i64 0, .int .i64 0, .int .i64 0, .int .i64 2] 30 (0, 0))) b1
            have K := box_kept (heap_alloc_new (w.alloc (.cells #[.int .i64 0, .int .i64 0, .int .i64 0, .int .i64 0] 30 (0, 0))) (.cells #[.int .i64 0, .int .i64 0, .int .i64 0, .int .i64 2] 30 (0, 0))) b1
            have bb := below_chain (below_al (below_al (Below.refl w.heap.size w) (.cells #[.int .i64 0, .int .i64 0, .int .i64 0, .int .i64 0] 30 (0, 0))) (.cells #[.int .i64 0, .int .i64 0, .int .i64 0, .int .i64 2] 30 (0, 0))) b1
            simp only [World.size_alloc] at K
            have sK1 := (Array.getElem?_eq_some_iff.1 K).1
            rcases hown.2 with ⟨_, hx⟩ | ⟨g1, cp1, cur1, rfl, hg1, hgs1, hnc1, hcm1, _, _⟩
            · simp at hx
            have q1 := hown.cells (g := g1) rfl
            have c0 := q1 0 (.string p0) rfl
            simp only [Addr.add_lit, Nat.add_zero] at c0
            rw [HNP.out] at hnc1 ⊢
            unfold maxLen at hcm1
            simp only [World.size_alloc] at hg1
            clear hown q1 b1 hgs1
            go_wp2_with fail
            refine (HSP2.out _).mono ?_
            rintro e w2 ⟨v2, rfl, hown, b2⟩
            replace Z := box_kept Z b2
            replace K := box_kept K b2
            have bs := bb.size
            replace bb := below_chain bb b2
            rcases hown.2 with ⟨_, hx⟩ | ⟨g2, cp2, cur2, rfl, hg2, hgs2, hnc2, hcm2, _, _⟩
            · simp at hx
            rw [HNN.out] at hnc2 ⊢
            unfold maxLen at hcm2
            clear hown b2 c0 hgs2
            have z0 := box_cell Z 0 rfl
            have z1 := box_cell Z 1 rfl
            have z2 := box_cell Z 2 rfl
            have z3 := box_cell Z 3 rfl
            have y0 := blk_frozen Z 0
            have y1 := blk_frozen Z 1
            have y2 := blk_frozen Z 2
            have y3 := blk_frozen Z 3
            simp at z0 z1 z2 z3 y0 y1 y2 y3
            go_wp2_with fail
            refine bodyPost_ret (v := .agg #[.int .i64 0, .int .i64 0, .int .i64 0, .int .i64 0]) (by simp [results, Tryd.results37, go_sem, z0, z1, z2, z3]) rfl ⟨rfl, ?_⟩
            exact (((bb.setCell (by simp) _).setCell (by simp) _).setCell (by simp) _).setCell (by simp) _
          · have t116 : ((c.toNat : Int) == 116) = false := beq_u8_no (d := 116) e116
            by_cases e100 : c = 100
            · subst e100
              skip
              go_enter Tryd.func37, Tryd.ntmps37
              go_wp2_with fail
              refine (HSP.out _).mono ?_
              rintro e w1 ⟨v1, rfl, hown, b1⟩
              have Z := box_kept (box_al (heap_alloc_new w (.cells #[.int .i64 0, .int .i64 0, .int .i64 0, .int .i64 0] 30 (0, 0))) (.cells #[.int .i64 0, .int .i64 0, .int .i64 0, .int .i64 3] 30 (0, 0))) b1
              have K := box_kept (heap_alloc_new (w.alloc (.cells #[.int .i64 0, .int .i64 0, .int .i64 0, .int .i64 0] 30 (0, 0))) (.cells #[.int .i64 0, .int .i64 0, .int .i64 0, .int .i64 3] 30 (0, 0))) b1
              have bb := below_chain (below_al (below_al (Below.refl w.heap.size w) (.cells #[.int .i64 0, .int .i64 0, .int .i64 0, .int .i64 0] 30 (0, 0))) (.cells #[.int .i64 0, .int .i64 0, .int .i64 0, .int .i64 3] 30 (0, 0))) b1
              simp only [World.size_alloc] at K
              have sK1 := (Array.getElem?_eq_some_iff.1 K).1
              rcases hown.2 with ⟨_, hx⟩ | ⟨g1, cp1, cur1, rfl, hg1, hgs1, hnc1, hcm1, _, _⟩
              · simp at hx
              have q1 := hown.cells (g := g1) rfl
              have c0 := q1 0 (.string p0) rfl
              simp only [Addr.add_lit, Nat.add_zero] at c0
              rw [HNP.out] at hnc1 ⊢
              unfold maxLen at hcm1
              simp only [World.size_alloc] at hg1
              clear hown q1 b1 hgs1
              go_wp2_with fail
              refine (HSP2.out _).mono ?_
              rintro e w2 ⟨v2, rfl, hown, b2⟩
              replace Z := box_kept Z b2
              replace K := box_kept K b2
              have bs := bb.size
              replace bb := below_chain bb b2
              rcases hown.2 with ⟨_, hx⟩ | ⟨g2, cp2, cur2, rfl, hg2, hgs2, hnc2, hcm2, _, _⟩
              · simp at hx
              rw [HNN.out] at hnc2 ⊢
              unfold maxLen at hcm2
              clear hown b2 c0 hgs2
              have z0 := box_cell Z 0 rfl
              have z1 := box_cell Z 1 rfl
              have z2 := box_cell Z 2 rfl
              have z3 := box_cell Z 3 rfl
              have y0 := blk_frozen Z 0
              have y1 := blk_frozen Z 1
              have y2 := blk_frozen Z 2
              have y3 := blk_frozen Z 3
              simp at z0 z1 z2 z3 y0 y1 y2 y3
              go_wp2_with fail
              refine bodyPost_ret (v := .agg #[.int .i64 0, .int .i64 0, .int .i64 0, .int .i64 0]) (by simp [results, Tryd.results37, go_sem, z0, z1, z2, z3]) rfl ⟨rfl, ?_⟩
              exact (((bb.setCell (by simp) _).setCell (by simp) _).setCell (by simp) _).setCell (by simp) _
            · have t100 : ((c.toNat : Int) == 100) = false := beq_u8_no (d := 100) e100
              have hz0 : actOf c = 0 := by unfold actOf; rw [if_neg e107, if_neg e116, if_neg e100]
              clear hz0 e107 e116 e100
              go_enter Tryd.func37, Tryd.ntmps37
              go_wp2_with fail
              refine (HSP.out _).mono ?_
              rintro e w1 ⟨v1, rfl, hown, b1⟩
              have Z := box_kept (box_al (heap_alloc_new w (.cells #[.int .i64 0, .int .i64 0, .int .i64 0, .int .i64 0] 30 (0, 0))) (.cells #[.int .i64 0, .int .i64 0, .int .i64 0, .int .i64 0] 30 (0, 0))) b1
              have K := box_kept (heap_alloc_new (w.alloc (.cells #[.int .i64 0, .int .i64 0, .int .i64 0, .int .i64 0] 30 (0, 0))) (.cells #[.int .i64 0, .int .i64 0, .int .i64 0, .int .i64 0] 30 (0, 0))) b1
              have bb := below_chain (below_al (below_al (Below.refl w.heap.size w) (.cells #[.int .i64 0, .int .i64 0, .int .i64 0, .int .i64 0] 30 (0, 0))) (.cells #[.int .i64 0, .int .i64 0, .int .i64 0, .int .i64 0] 30 (0, 0))) b1
              simp only [World.size_alloc] at K
              have sK1 := (Array.getElem?_eq_some_iff.1 K).1
              rcases hown.2 with ⟨_, hx⟩ | ⟨g1, cp1, cur1, rfl, hg1, hgs1, hnc1, hcm1, _, _⟩
              · simp at hx
              have q1 := hown.cells (g := g1) rfl
              have c0 := q1 0 (.string p0) rfl
              simp only [Addr.add_lit, Nat.add_zero] at c0
              rw [HNP.out] at hnc1 ⊢
              unfold maxLen at hcm1
              simp only [World.size_alloc] at hg1
              clear hown q1 b1 hgs1
              go_wp2_with fail
              refine (HSP2.out _).mono ?_
              rintro e w2 ⟨v2, rfl, hown, b2⟩
              replace Z := box_kept Z b2
              replace K := box_kept K b2
              have bs := bb.size
              replace bb := below_chain bb b2
              rcases hown.2 with ⟨_, hx⟩ | ⟨g2, cp2, cur2, rfl, hg2, hgs2, hnc2, hcm2, _, _⟩
              · simp at hx
              rw [HNN.out] at hnc2 ⊢
              unfold maxLen at hcm2
              clear hown b2 c0 hgs2
              have z0 := box_cell Z 0 rfl
              have z1 := box_cell Z 1 rfl
              have z2 := box_cell Z 2 rfl
              have z3 := box_cell Z 3 rfl
              have y0 := blk_frozen Z 0
              have y1 := blk_frozen Z 1
              have y2 := blk_frozen Z 2
              have y3 := blk_frozen Z 3
              simp at z0 z1 z2 z3 y0 y1 y2 y3
              go_wp2_with fail
              refine bodyPost_ret (v := .agg #[.int .i64 0, .int .i64 0, .int .i64 0, .int .i64 0]) (by simp [results, Tryd.results37, go_sem, z0, z1, z2, z3]) rfl ⟨rfl, ?_⟩
              exact (((bb.setCell (by simp) _).setCell (by simp) _).setCell (by simp) _).setCell (by simp) _
      · have n2 : ((NP : Int) != 2) = true := by simp; omega
        clear hA hB
        by_cases e107 : c = 107
        · subst e107
          skip
          go_enter Tryd.func37, Tryd.ntmps37
          go_wp2_with fail
          refine (HSP.out _).mono ?_
          rintro e w1 ⟨v1, rfl, hown, b1⟩
          have Z := box_kept (box_al (heap_alloc_new w (.cells #[.int .i64 0, .int .i64 0, .int .i64 0, .int .i64 0] 30 (0, 0))) (.cells #[.int .i64 0, .int .i64 0, .int .i64 0, .int .i64 1] 30 (0, 0))) b1
          have K := box_kept (heap_alloc_new (w.alloc (.cells #[.int .i64 0, .int .i64 0, .int .i64 0, .int .i64 0] 30 (0, 0))) (.cells #[.int .i64 0, .int .i64 0, .int .i64 0, .int .i64 1] 30 (0, 0))) b1
          have bb := below_chain (below_al (below_al (Below.refl w.heap.size w) (.cells #[.int .i64 0, .int .i64 0, .int .i64 0, .int .i64 0] 30 (0, 0))) (.cells #[.int .i64 0, .int .i64 0, .int .i64 0, .int .i64 1] 30 (0, 0))) b1
          simp only [World.size_alloc] at K
          have sK1 := (Array.getElem?_eq_some_iff.1 K).1
          rcases hown.2 with ⟨_, hx⟩ | ⟨g1, cp1, cur1, rfl, hg1, hgs1, hnc1, hcm1, _, _⟩
          · simp at hx
          have q1 := hown.cells (g := g1) rfl
          have c0 := q1 0 (.string p0) rfl
          simp only [Addr.add_lit, Nat.add_zero] at c0
          rw [HNP.out] at hnc1 ⊢
          unfold maxLen at hcm1
          simp only [World.size_alloc] at hg1
          clear hown q1 b1 hgs1
          go_wp2_with fail
          refine (HSP2.out _).mono ?_
          rintro e w2 ⟨v2, rfl, hown, b2⟩
          replace Z := box_kept Z b2
          replace K := box_kept K b2
          have bs := bb.size
          replace bb := below_chain bb b2
          rcases hown.2 with ⟨_, hx⟩ | ⟨g2, cp2, cur2, rfl, hg2, hgs2, hnc2, hcm2, _, _⟩
          · simp at hx
          rw [HNN.out] at hnc2 ⊢
          unfold maxLen at hcm2
          clear hown b2 c0 hgs2
          have z0 := box_cell Z 0 rfl
          have z1 := box_cell Z 1 rfl
          have z2 := box_cell Z 2 rfl
          have z3 := box_cell Z 3 rfl
          have y0 := blk_frozen Z 0
          have y1 := blk_frozen Z 1
          have y2 := blk_frozen Z 2
          have y3 := blk_frozen Z 3
          simp at z0 z1 z2 z3 y0 y1 y2 y3
          go_wp2_with fail
          refine bodyPost_ret (v := .agg #[.int .i64 0, .int .i64 0, .int .i64 0, .int .i64 0]) (by simp [results, Tryd.results37, go_sem, z0, z1, z2, z3]) rfl ⟨rfl, ?_⟩
          exact (((bb.setCell (by simp) _).setCell (by simp) _).setCell (by simp) _).setCell (by simp) _
        · have t107 : ((c.toNat : Int) == 107) = false := beq_u8_no (d := 107) e107
          by_cases e116 : c = 116
          · subst e116
            skip
            go_enter Tryd.func37, Tryd.ntmps37
            go_wp2_with fail
            refine (HSP.out _).mono ?_
            rintro e w1 ⟨v1, rfl, hown, b1⟩
            have Z := box_kept (box_al (heap_alloc_new w (.cells #[.int .i64 0, .int .i64 0, .int .i64 0, .int .i64 0] 30 (0, 0))) (.cells #[.int .i64 0, .int .i64 0, .int .i64 0, .int .i64 2] 30 (0, 0))) b1
            have K := box_kept (heap_alloc_new (w.alloc (.cells #[.int .i64 0, .int .i64 0, .int .i64 0, .int .i64 0] 30 (0, 0))) (.cells #[.int .i64 0, .int .i64 0, .int .i64 0, .int .i64 2] 30 (0, 0))) b1
            have bb := below_chain (below_al (below_al (Below.refl w.heap.size w) (.cells #[.int .i64 0, .int .i64 0, .int .i64 0, .int .i64 0] 30 (0, 0))) (.cells #[.int .i64 0, .int .i64 0, .int .i64 0, .int .i64 2] 30 (0, 0))) b1
            simp only [World.size_alloc] at K
            have sK1 := (Array.getElem?_eq_some_iff.1 K).1
            rcases hown.2 with ⟨_, hx⟩ | ⟨g1, cp1, cur1, rfl, hg1, hgs1, hnc1, hcm1, _, _⟩
            · simp at hx
            have q1 := hown.cells (g := g1) rfl
            have c0 := q1 0 (.string p0) rfl
            simp only [Addr.add_lit, Nat.add_zero] at c0
            rw [HNP.out] at hnc1 ⊢
            unfold maxLen at hcm1
            simp only [World.size_alloc] at hg1
            clear hown q1 b1 hgs1
            go_wp2_with fail
            refine (HSP2.out _).mono ?_
            rintro e w2 ⟨v2, rfl, hown, b2⟩
            replace Z := box_kept Z b2
            replace K := box_kept K b2
            have bs := bb.size
            replace bb := below_chain bb b2
            rcases hown.2 with ⟨_, hx⟩ | ⟨g2, cp2, cur2, rfl, hg2, hgs2, hnc2, hcm2, _, _⟩
            · simp at hx
            rw [HNN.out] at hnc2 ⊢
            unfold maxLen at hcm2
            clear hown b2 c0 hgs2
            have z0 := box_cell Z 0 rfl
            have z1 := box_cell Z 1 rfl
            have z2 := box_cell Z 2 rfl
            have z3 := box_cell Z 3 rfl
            have y0 := blk_frozen Z 0
            have y1 := blk_frozen Z 1
            have y2 := blk_frozen Z 2
            have y3 := blk_frozen Z 3
            simp at z0 z1 z2 z3 y0 y1 y2 y3
            go_wp2_with fail
            refine bodyPost_ret (v := .agg #[.int .i64 0, .int .i64 0, .int .i64 0, .int .i64 0]) (by simp [results, Tryd.results37, go_sem, z0, z1, z2, z3]) rfl ⟨rfl, ?_⟩
            exact (((bb.setCell (by simp) _).setCell (by simp) _).setCell (by simp) _).setCell (by simp) _
          · have t116 : ((c.toNat : Int) == 116) = false := beq_u8_no (d := 116) e116
            by_cases e100 : c = 100
            · subst e100
              skip
              go_enter Tryd.func37, Tryd.ntmps37
              go_wp2_with fail
              refine (HSP.out _).mono ?_
              rintro e w1 ⟨v1, rfl, hown, b1⟩
              have Z := box_kept (box_al (heap_alloc_new w (.cells #[.int .i64 0, .int .i64 0, .int .i64 0, .int .i64 0] 30 (0, 0))) (.cells #[.int .i64 0, .int .i64 0, .int .i64 0, .int .i64 3] 30 (0, 0))) b1
              have K := box_kept (heap_alloc_new (w.alloc (.cells #[.int .i64 0, .int .i64 0, .int .i64 0, .int .i64 0] 30 (0, 0))) (.cells #[.int .i64 0, .int .i64 0, .int .i64 0, .int .i64 3] 30 (0, 0))) b1
              have bb := below_chain (below_al (below_al (Below.refl w.heap.size w) (.cells #[.int .i64 0, .int .i64 0, .int .i64 0, .int .i64 0] 30 (0, 0))) (.cells #[.int .i64 0, .int .i64 0, .int .i64 0, .int .i64 3] 30 (0, 0))) b1
              simp only [World.size_alloc] at K
              have sK1 := (Array.getElem?_eq_some_iff.1 K).1
              rcases hown.2 with ⟨_, hx⟩ | ⟨g1, cp1, cur1, rfl, hg1, hgs1, hnc1, hcm1, _, _⟩
              · simp at hx
              have q1 := hown.cells (g := g1) rfl
              have c0 := q1 0 (.string p0) rfl
              simp only [Addr.add_lit, Nat.add_zero] at c0
              rw [HNP.out] at hnc1 ⊢
              unfold maxLen at hcm1
              simp only [World.size_alloc] at hg1
              clear hown q1 b1 hgs1
              go_wp2_with fail
              refine (HSP2.out _).mono ?_
              rintro e w2 ⟨v2, rfl, hown, b2⟩
              replace Z := box_kept Z b2
              replace K := box_kept K b2
              have bs := bb.size
              replace bb := below_chain bb b2
              rcases hown.2 with ⟨_, hx⟩ | ⟨g2, cp2, cur2, rfl, hg2, hgs2, hnc2, hcm2, _, _⟩
              · simp at hx
              rw [HNN.out] at hnc2 ⊢
              unfold maxLen at hcm2
              clear hown b2 c0 hgs2
              have z0 := box_cell Z 0 rfl
              have z1 := box_cell Z 1 rfl
              have z2 := box_cell Z 2 rfl
              have z3 := box_cell Z 3 rfl
              have y0 := blk_frozen Z 0
              have y1 := blk_frozen Z 1
              have y2 := blk_frozen Z 2
              have y3 := blk_frozen Z 3
              simp at z0 z1 z2 z3 y0 y1 y2 y3
              go_wp2_with fail
              refine bodyPost_ret (v := .agg #[.int .i64 0, .int .i64 0, .int .i64 0, .int .i64 0]) (by simp [results, Tryd.results37, go_sem, z0, z1, z2, z3]) rfl ⟨rfl, ?_⟩
              exact (((bb.setCell (by simp) _).setCell (by simp) _).setCell (by simp) _).setCell (by simp) _
            · have t100 : ((c.toNat : Int) == 100) = false := beq_u8_no (d := 100) e100
              have hz0 : actOf c = 0 := by unfold actOf; rw [if_neg e107, if_neg e116, if_neg e100]
              clear hz0 e107 e116 e100
              go_enter Tryd.func37, Tryd.ntmps37
              go_wp2_with fail
              refine (HSP.out _).mono ?_
              rintro e w1 ⟨v1, rfl, hown, b1⟩
              have Z := box_kept (box_al (heap_alloc_new w (.cells #[.int .i64 0, .int .i64 0, .int .i64 0, .int .i64 0] 30 (0, 0))) (.cells #[.int .i64 0, .int .i64 0, .int .i64 0, .int .i64 0] 30 (0, 0))) b1
              have K := box_kept (heap_alloc_new (w.alloc (.cells #[.int .i64 0, .int .i64 0, .int .i64 0, .int .i64 0] 30 (0, 0))) (.cells #[.int .i64 0, .int .i64 0, .int .i64 0, .int .i64 0] 30 (0, 0))) b1
              have bb := below_chain (below_al (below_al (Below.refl w.heap.size w) (.cells #[.int .i64 0, .int .i64 0, .int .i64 0, .int .i64 0] 30 (0, 0))) (.cells #[.int .i64 0, .int .i64 0, .int .i64 0, .int .i64 0] 30 (0, 0))) b1
              simp only [World.size_alloc] at K
              have sK1 := (Array.getElem?_eq_some_iff.1 K).1
              rcases hown.2 with ⟨_, hx⟩ | ⟨g1, cp1, cur1, rfl, hg1, hgs1, hnc1, hcm1, _, _⟩
              · simp at hx
              have q1 := hown.cells (g := g1) rfl
              have c0 := q1 0 (.string p0) rfl
              simp only [Addr.add_lit, Nat.add_zero] at c0
              rw [HNP.out] at hnc1 ⊢
              unfold maxLen at hcm1
              simp only [World.size_alloc] at hg1
              clear hown q1 b1 hgs1
              go_wp2_with fail
              refine (HSP2.out _).mono ?_
              rintro e w2 ⟨v2, rfl, hown, b2⟩
              replace Z := box_kept Z b2
              replace K := box_kept K b2
              have bs := bb.size
              replace bb := below_chain bb b2
              rcases hown.2 with ⟨_, hx⟩ | ⟨g2, cp2, cur2, rfl, hg2, hgs2, hnc2, hcm2, _, _⟩
              · simp at hx
              rw [HNN.out] at hnc2 ⊢
              unfold maxLen at hcm2
              clear hown b2 c0 hgs2
              have z0 := box_cell Z 0 rfl
              have z1 := box_cell Z 1 rfl
              have z2 := box_cell Z 2 rfl
              have z3 := box_cell Z 3 rfl
              have y0 := blk_frozen Z 0
              have y1 := blk_frozen Z 1
              have y2 := blk_frozen Z 2
              have y3 := blk_frozen Z 3
              simp at z0 z1 z2 z3 y0 y1 y2 y3
              go_wp2_with fail
              refine bodyPost_ret (v := .agg #[.int .i64 0, .int .i64 0, .int .i64 0, .int .i64 0]) (by simp [results, Tryd.results37, go_sem, z0, z1, z2, z3]) rfl ⟨rfl, ?_⟩
              exact (((bb.setCell (by simp) _).setCell (by simp) _).setCell (by simp) _).setCell (by simp) _
end Go.Proofs.YtpcdjpkcalbpkaaDoor
