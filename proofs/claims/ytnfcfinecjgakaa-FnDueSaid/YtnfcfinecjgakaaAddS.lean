/- AddEvent, the model's. -/
import Derived.Test.YtnfcfinecjgakaaAddX
import Derived.Deep.DeepCutAuto
import Derived.Deep.CutBlock
namespace Go.Proofs.Ytnfcfinecjgakaa
set_option linter.unusedVariables false
open Go.RowKit Go.Sort

theorem below_sz3 {w a : World} {o1 o2 o3 : Obj} (h : Below (((w.alloc o1).alloc o2).alloc o3).heap.size (((w.alloc o1).alloc o2).alloc o3) a) : w.heap.size + 3 ≤ a.heap.size := by
  have := h.size
  simp at this
  omega

set_option maxRecDepth 20000 in
set_option maxHeartbeats 16000000 in
theorem specAddEvent_any (v : Value) (r : Rec) (e : Ev) (w : World) (h : RecV w v r) (hsome : ∃ x0 x1 x2 g c, v = .agg #[x0, x1, x2, .slice (some ⟨g, 0, none⟩) r.evs.length c]) (hek : e.ok) (out : Rec) (b : Bool) (hres : addRes r e = (out, b)) :
    Calls Try.prog 77 #[v, .agg #[.int .i64 e.kind, .int .i64 e.day]] w fun en w' => ∃ v', en = .returned (.tuple #[v', .bool b]) ∧ RecO w.heap.size w'.heap.size w' v' out ∧ Below w.heap.size w w' := by
  obtain ⟨i0, hi, hz0, hz1, hz2⟩ := info_parts Try.info_event
  obtain ⟨s, rfl, h1, hok⟩ := h
  have hV : ∀ W, Below w.heap.size w W → RecV W (.agg #[.int .i64 r.id, .int .i64 r.series, .int .i64 r.made, s]) r := fun W hb => ⟨s, rfl, h1.below rEv_stable hb, hok⟩
  have HV := Lib.hid hV
  obtain ⟨a1, c1, rfl, hl1, hm1, r1⟩ := h1.evs
  obtain ⟨_, _, _, gA, _, hse⟩ := hsome
  obtain rfl : a1 = some ⟨gA, 0, none⟩ := by simp at hse; exact hse.2.2.2.1
  clear hse
  have hcells : ∀ i, i < r.evs.length → w.cell? ⟨gA, i * 2, none⟩ = some (.int .i64 (r.evs.getD i evD).kind) ∧ w.cell? ⟨gA, i * 2 + 1, none⟩ = some (.int .i64 (r.evs.getD i evD).day) ∧ (r.evs.getD i evD).ok := by
    intro i hi
    obtain ⟨b, off, _, he, hc⟩ := r1.resolve_left (fun e => by rw [e] at hi; simp at hi)
    simp at he
    obtain ⟨rfl, rfl⟩ := he
    simpa using hc i hi
  have HC := Lib.hid hcells
  have R1 := Lib.hid r1
  clear hcells
  have H1 := Lib.hid h1
  have HOK := Lib.hid hok
  clear hV hok h1 r1
  unfold maxLen at hm1
  obtain ⟨ek, ed⟩ := e
  obtain ⟨br, hr⟩ : ∃ b, isRec r = b := ⟨_, rfl⟩
  obtain ⟨be, he⟩ : ∃ b, isEv ⟨ek, ed⟩ = b := ⟨_, rfl⟩
  obtain ⟨d, hd⟩ : ∃ d, dayOf r ek = d := ⟨_, rfl⟩
  have HR := Lib.hid hr
  have HE := Lib.hid he
  have HD := Lib.hid hd
  have HRES := Lib.hid hres
  clear hr he hd hres
  cases br
  · have hh := HRES.out
    unfold addRes at hh
    rw [if_neg (fun h => by rw [HR.out] at h; cases h.1)] at hh
    obtain ⟨rfl, rfl⟩ := Prod.mk.inj hh
    clear hh HRES
    go_enter Try.func77, Try.ntmps77
    go_wp2_with fail
    refine (l2Record_any _ r _ (HV.out _ (below_al (below_al (below_al (Below.refl w.heap.size w) _) _) _))).mono ?_
    rw [HR.out]
    rintro en w1 ⟨rfl, b1⟩
    have K := box_kept (box_al (box_al (box_new w _) _) _) b1
    have E := box_kept (box_al (box_new (w.alloc _) _) _) b1
    have z := box_kept (box_new _ _) b1
    simp at E z
    have k0 := box_cell K 0 rfl
    have k1 := box_cell K 1 rfl
    have k2 := box_cell K 2 rfl
    have k3 := box_cell K 3 rfl
    have e0 := box_cell E 0 rfl
    have e1 := box_cell E 1 rfl
    have b10 := below_sz3 b1
    replace b1 := below_chain (below_al (below_al (below_al (Below.refl w.heap.size w) _) _) _) b1
    clear K E
    have z0 := box_cell z 0 rfl
    have y0 := blk_frozen z 0
    have z1 := box_cell z 1 rfl
    have y1 := blk_frozen z 1
    have z2 := box_cell z 2 rfl
    have y2 := blk_frozen z 2
    have z3 := box_cell z 3 rfl
    have y3 := blk_frozen z 3
    simp at z0 z1 z2 z3 y0 y1 y2 y3
    clear z
    go_wp2_with fail
    refine bodyPost_ret (v := .tuple #[.agg #[.int .i64 0, .int .i64 0, .int .i64 0, .slice none 0 0], .bool false]) (by simp [results, Try.results77, go_sem, z0, z1, z2, z3]) rfl ⟨_, rfl, rec0 _ _ _, ?_⟩
    exact (((b1.setCell (by simp; omega) _).setCell (by simp; omega) _).setCell (by simp; omega) _).setCell (by simp; omega) _
  cases be
  · have hh := HRES.out
    unfold addRes at hh
    rw [if_neg (fun h => by have := (ins_ok HR.out h.2).1; rw [HE.out] at this; cases this)] at hh
    obtain ⟨rfl, rfl⟩ := Prod.mk.inj hh
    clear hh HRES
    go_enter Try.func77, Try.ntmps77
    go_wp2_with fail
    refine (l2Record_any _ r _ (HV.out _ (below_al (below_al (below_al (Below.refl w.heap.size w) _) _) _))).mono ?_
    rw [HR.out]
    rintro en w1 ⟨rfl, b1⟩
    have K := box_kept (box_al (box_al (box_new w _) _) _) b1
    have E := box_kept (box_al (box_new (w.alloc _) _) _) b1
    have z := box_kept (box_new _ _) b1
    simp at E z
    have k0 := box_cell K 0 rfl
    have k1 := box_cell K 1 rfl
    have k2 := box_cell K 2 rfl
    have k3 := box_cell K 3 rfl
    have e0 := box_cell E 0 rfl
    have e1 := box_cell E 1 rfl
    have b10 := below_sz3 b1
    replace b1 := below_chain (below_al (below_al (below_al (Below.refl w.heap.size w) _) _) _) b1
    clear K E
    go_wp2_with fail
    refine (l2Event_any ⟨ek, ed⟩ _).mono ?_
    rw [HE.out]
    rintro en w2 ⟨rfl, b2⟩
    replace z := box_kept z b2
    replace k0 := cell_kept k0 b2
    replace k1 := cell_kept k1 b2
    replace k2 := cell_kept k2 b2
    replace k3 := cell_kept k3 b2
    replace e0 := cell_kept e0 b2
    replace e1 := cell_kept e1 b2
    replace b10 := Nat.le_trans b10 b2.size
    replace b1 := below_chain b1 b2
    have z0 := box_cell z 0 rfl
    have y0 := blk_frozen z 0
    have z1 := box_cell z 1 rfl
    have y1 := blk_frozen z 1
    have z2 := box_cell z 2 rfl
    have y2 := blk_frozen z 2
    have z3 := box_cell z 3 rfl
    have y3 := blk_frozen z 3
    simp at z0 z1 z2 z3 y0 y1 y2 y3
    clear z
    go_wp2_with fail
    refine bodyPost_ret (v := .tuple #[.agg #[.int .i64 0, .int .i64 0, .int .i64 0, .slice none 0 0], .bool false]) (by simp [results, Try.results77, go_sem, z0, z1, z2, z3]) rfl ⟨_, rfl, rec0 _ _ _, ?_⟩
    exact (((b1.setCell (by simp; omega) _).setCell (by simp; omega) _).setCell (by simp; omega) _).setCell (by simp; omega) _
  by_cases hd0 : 0 ≤ d
  · have hh := HRES.out
    unfold addRes at hh
    rw [if_neg (fun h => by have := (ins_ok HR.out h.2).2; rw [HD.out] at this; omega)] at hh
    obtain ⟨rfl, rfl⟩ := Prod.mk.inj hh
    clear hh HRES
    go_enter Try.func77, Try.ntmps77
    go_wp2_with fail
    refine (l2Record_any _ r _ (HV.out _ (below_al (below_al (below_al (Below.refl w.heap.size w) _) _) _))).mono ?_
    rw [HR.out]
    rintro en w1 ⟨rfl, b1⟩
    have K := box_kept (box_al (box_al (box_new w _) _) _) b1
    have E := box_kept (box_al (box_new (w.alloc _) _) _) b1
    have z := box_kept (box_new _ _) b1
    simp at E z
    have k0 := box_cell K 0 rfl
    have k1 := box_cell K 1 rfl
    have k2 := box_cell K 2 rfl
    have k3 := box_cell K 3 rfl
    have e0 := box_cell E 0 rfl
    have e1 := box_cell E 1 rfl
    have b10 := below_sz3 b1
    replace b1 := below_chain (below_al (below_al (below_al (Below.refl w.heap.size w) _) _) _) b1
    clear K E
    go_wp2_with fail
    refine (l2Event_any ⟨ek, ed⟩ _).mono ?_
    rw [HE.out]
    rintro en w2 ⟨rfl, b2⟩
    replace z := box_kept z b2
    replace k0 := cell_kept k0 b2
    replace k1 := cell_kept k1 b2
    replace k2 := cell_kept k2 b2
    replace k3 := cell_kept k3 b2
    replace e0 := cell_kept e0 b2
    replace e1 := cell_kept e1 b2
    replace b10 := Nat.le_trans b10 b2.size
    replace b1 := below_chain b1 b2
    go_wp2_with fail
    refine (l2DayOf_any _ r ek _ (HV.out _ b1)).mono ?_
    rw [HD.out]
    rintro en w3 ⟨rfl, b3⟩
    replace z := box_kept z b3
    replace k0 := cell_kept k0 b3
    replace k1 := cell_kept k1 b3
    replace k2 := cell_kept k2 b3
    replace k3 := cell_kept k3 b3
    replace e0 := cell_kept e0 b3
    replace e1 := cell_kept e1 b3
    replace b10 := Nat.le_trans b10 b3.size
    replace b1 := below_chain b1 b3
    have z0 := box_cell z 0 rfl
    have y0 := blk_frozen z 0
    have z1 := box_cell z 1 rfl
    have y1 := blk_frozen z 1
    have z2 := box_cell z 2 rfl
    have y2 := blk_frozen z 2
    have z3 := box_cell z 3 rfl
    have y3 := blk_frozen z 3
    simp at z0 z1 z2 z3 y0 y1 y2 y3
    clear z
    go_wp2_with fail
    refine bodyPost_ret (v := .tuple #[.agg #[.int .i64 0, .int .i64 0, .int .i64 0, .slice none 0 0], .bool false]) (by simp [results, Try.results77, go_sem, z0, z1, z2, z3]) rfl ⟨_, rfl, rec0 _ _ _, ?_⟩
    exact (((b1.setCell (by simp; omega) _).setCell (by simp; omega) _).setCell (by simp; omega) _).setCell (by simp; omega) _
  go_enter Try.func77, Try.ntmps77
  go_wp2_with fail
  refine (l2Record_any _ r _ (HV.out _ (below_al (below_al (below_al (Below.refl w.heap.size w) _) _) _))).mono ?_
  rw [HR.out]
  rintro en w1 ⟨rfl, b1⟩
  have K := box_kept (box_al (box_al (box_new w _) _) _) b1
  have E := box_kept (box_al (box_new (w.alloc _) _) _) b1
  have z := box_kept (box_new _ _) b1
  simp at E z
  have k0 := box_cell K 0 rfl
  have k1 := box_cell K 1 rfl
  have k2 := box_cell K 2 rfl
  have k3 := box_cell K 3 rfl
  have e0 := box_cell E 0 rfl
  have e1 := box_cell E 1 rfl
  have b10 := below_sz3 b1
  replace b1 := below_chain (below_al (below_al (below_al (Below.refl w.heap.size w) _) _) _) b1
  clear K E
  go_wp2_with fail
  refine (l2Event_any ⟨ek, ed⟩ _).mono ?_
  rw [HE.out]
  rintro en w2 ⟨rfl, b2⟩
  replace z := box_kept z b2
  replace k0 := cell_kept k0 b2
  replace k1 := cell_kept k1 b2
  replace k2 := cell_kept k2 b2
  replace k3 := cell_kept k3 b2
  replace e0 := cell_kept e0 b2
  replace e1 := cell_kept e1 b2
  replace b10 := Nat.le_trans b10 b2.size
  replace b1 := below_chain b1 b2
  go_wp2_with fail
  refine (l2DayOf_any _ r ek _ (HV.out _ b1)).mono ?_
  rw [HD.out]
  rintro en w3 ⟨rfl, b3⟩
  replace z := box_kept z b3
  replace k0 := cell_kept k0 b3
  replace k1 := cell_kept k1 b3
  replace k2 := cell_kept k2 b3
  replace k3 := cell_kept k3 b3
  replace e0 := cell_kept e0 b3
  replace e1 := cell_kept e1 b3
  replace b10 := Nat.le_trans b10 b3.size
  replace b1 := below_chain b1 b3
  have hlen := (isRec_iff.1 HR.out).2.2.2.1
  go_upto_block 0 with fail
  go_cut [6] (fun s6 wx => ∃ k : Nat, k ≤ r.evs.length ∧ s6 = .int .i64 k ∧ Hid (placeK r.evs ek = k) ∧ Below w.heap.size w wx ∧ w.heap.size + 3 ≤ wx.heap.size ∧ Hid (wx.heap[w.heap.size + 1 + 1]? = some (.cells #[.int .i64 0, .int .i64 0, .int .i64 0, .slice none 0 0] 26 (0, 0))) ∧ wx.cell? ⟨w.heap.size, 0, none⟩ = some (.int .i64 r.id) ∧ wx.cell? ⟨w.heap.size, 1, none⟩ = some (.int .i64 r.series) ∧ wx.cell? ⟨w.heap.size, 2, none⟩ = some (.int .i64 r.made) ∧ wx.cell? ⟨w.heap.size, 3, none⟩ = some (.slice (some ⟨gA, 0, none⟩) r.evs.length c1) ∧ wx.cell? ⟨w.heap.size + 1, 0, none⟩ = some (.int .i64 ek) ∧ wx.cell? ⟨w.heap.size + 1, 1, none⟩ = some (.int .i64 ed))
  case first =>
    go_wp2_with fail
    go_loopw [6] (fun i wr => ∃ k : Nat, k ≤ r.evs.length ∧ i = .int .i64 k ∧ Hid (∀ j, j < k → (r.evs.getD j evD).kind < ek) ∧ Below w.heap.size w wr ∧ w.heap.size + 3 ≤ wr.heap.size ∧
        wr.heap[w.heap.size + 1 + 1]? = some (.cells #[.int .i64 0, .int .i64 0, .int .i64 0, .slice none 0 0] 26 (0, 0)) ∧
        wr.cell? ⟨w.heap.size, 0, none⟩ = some (.int .i64 r.id) ∧ wr.cell? ⟨w.heap.size, 1, none⟩ = some (.int .i64 r.series) ∧ wr.cell? ⟨w.heap.size, 2, none⟩ = some (.int .i64 r.made) ∧ wr.cell? ⟨w.heap.size, 3, none⟩ = some (.slice (some ⟨gA, 0, none⟩) r.evs.length c1) ∧
        wr.cell? ⟨w.heap.size + 1, 0, none⟩ = some (.int .i64 ek) ∧ wr.cell? ⟨w.heap.size + 1, 1, none⟩ = some (.int .i64 ed)) (fun i _ => r.evs.length - (intOf i).toNat)
    case atStart => exact ⟨0, Nat.zero_le _, rfl, Lib.hid (fun j hj => absurd hj (Nat.not_lt_zero _)), b1, b10, z, k0, k1, k2, k3, e0, e1⟩
    case round =>
      clear b1 b10 z k0 k1 k2 k3 e0 e1 b2 b3
      obtain ⟨k, hk, rfl, I, b1, b10, z, k0, k1, k2, k3, e0, e1⟩ := hrel
      have Z := Lib.hid z
      clear z
      have hw := b1.size
      by_cases hlt : k < r.evs.length
      · have hcs := HC.out
        obtain ⟨⟨x, y⟩, hx⟩ : ∃ s, r.evs.getD k evD = s := ⟨_, rfl⟩
        obtain ⟨q1, _, _⟩ := hcs k hlt
        rw [hx] at q1
        simp only at q1
        have f1 := cell_kept q1 b1
        have HX := Lib.hid hx
        have g0 : (0 : Int) ≤ (k : Int) := by omega
        have g1 : (k : Int) < (r.evs.length : Int) := by omega
        clear q1 hx hcs
        have k3q := cell_regrown k3
        have e0q := cell_regrown e0
        have f1q := cell_regrown f1
        by_cases hq : x < ek
        · go_wp2_with fail
          refine wp_region_quiet_below (by kernel_rfl) (by kernel_rfl) ?_
          repeat (go_big_quiet_step (fail))
          refine wpQuiet_nil ?_
          intro _ hw'
          obtain ⟨⟨dq, osq⟩, hw''⟩ := hw'
          subst hw''
          have bq := below_regrown wr dq osq
          generalize grow (redrawn wr dq) osq = w4 at bq ⊢
          go_wp2_with fail
          go_roundw
          case rel =>
            refine ⟨k + 1, by omega, by go_num, Lib.hid (fun j hj => ?_), b1.trans (bq.mono hw), Nat.le_trans b10 bq.size, box_kept Z.out bq, cell_kept k0 bq, cell_kept k1 bq, cell_kept k2 bq, cell_kept k3 bq, cell_kept e0 bq, cell_kept e1 bq⟩
            rcases Nat.lt_or_ge j k with h' | h'
            · exact I.out j h'
            · obtain rfl : j = k := by omega
              rw [HX.out]
              exact hq
          case measure => simp [intOf]; omega
        · have dq : decide (x < ek) = false := decide_eq_false hq
          have hp : placeK r.evs ek = k := placeK_is hk I.out (fun _ => by rw [HX.out]; simp only; omega)
          have HP := Lib.hid hp
          clear hp
          go_wp2_with fail
          refine wp_region_quiet_below (by kernel_rfl) (by kernel_rfl) ?_
          repeat (go_big_quiet_step (fail))
          refine wpQuiet_nil ?_
          intro _ hw'
          obtain ⟨⟨dq, osq⟩, hw''⟩ := hw'
          subst hw''
          have bq := below_regrown wr dq osq
          generalize grow (redrawn wr dq) osq = w4 at bq ⊢
          go_wp2_with fail
          replace k0 := cell_kept k0 bq
          replace k1 := cell_kept k1 bq
          replace k2 := cell_kept k2 bq
          replace k3 := cell_kept k3 bq
          replace e0 := cell_kept e0 bq
          replace e1 := cell_kept e1 bq
          have Z4 := box_kept Z.out bq
          replace b10 := Nat.le_trans b10 bq.size
          replace b1 := b1.trans (bq.mono hw)
          go_meet
          exact ⟨k, by omega, rfl, HP, b1, b10, Lib.hid Z4, k0, k1, k2, k3, e0, e1⟩
      · have hkl : k = r.evs.length := by omega
        have hp : placeK r.evs ek = k := placeK_is hk I.out (fun h => by omega)
        have HP := Lib.hid hp
        have g0 : ¬ (k : Int) < (r.evs.length : Int) := by omega
        have g1 : ¬ k < r.evs.length := by omega
        have d0 : decide ((k : Int) < (r.evs.length : Int)) = false := decide_eq_false g0
        have d1 : decide (k < r.evs.length) = false := decide_eq_false g1
        have HKL := Lib.hid hkl
        clear hp hkl
        have k3q := cell_regrown k3
        have e0q := cell_regrown e0
        go_wp2_with fail
        refine wp_region_quiet_below (by kernel_rfl) (by kernel_rfl) ?_
        repeat (go_big_quiet_step (fail))
        refine wpQuiet_nil ?_
        intro _ hw'
        obtain ⟨⟨dq, osq⟩, hw''⟩ := hw'
        subst hw''
        have bq := below_regrown wr dq osq
        generalize grow (redrawn wr dq) osq = w4 at bq ⊢
        go_wp2_with fail
        go_meet
        exact ⟨k, hk, rfl, HP, b1.trans (bq.mono hw), Nat.le_trans b10 bq.size, Lib.hid (box_kept Z.out bq), cell_kept k0 bq, cell_kept k1 bq, cell_kept k2 bq, cell_kept k3 bq, cell_kept e0 bq, cell_kept e1 bq⟩
  case rest =>
    obtain ⟨k, hk, rfl, HP, b1, b10, Z4, k0, k1, k2, k3, e0, e1⟩ := hcut
    obtain ⟨w4, hw4⟩ : ∃ x, x = wc := ⟨_, rfl⟩
    subst hw4
    go_wp2_with fail
    have gk0 : (0 : Int) ≤ (k : Int) := by omega
    have gk1 : (k : Int) ≤ (r.evs.length : Int) := by omega
    have gk2 : (k : Int) ≤ (c1 : Int) := by omega
    have hfl : ∀ W, Below w.heap.size w W → ∀ j u, ((r.evs.take k).map evC).flatten[j]? = some u → W.cell? ((⟨gA, 0, none⟩ : Addr).add j) = some u := by
      intro W hb j u hj
      rw [Addr.add_lit]
      refine cell_kept (cells_flat (b := gA) (o := 0) (fun i hi => ?_) j u hj) hb
      rw [List.length_take] at hi
      rw [getD_take (by omega)]
      have := HC.out i (by omega)
      rw [Nat.zero_add]
      exact ⟨this.1, this.2.1⟩
    obtain ⟨ad, hAD, hfd⟩ : ∃ ad : Addr, (if c1 = k then some (⟨gA, 0, none⟩ : Addr) else some ⟨gA, k * 2, none⟩) = some ad ∧ ∀ W, Below w.heap.size w W → ∀ j u, ((r.evs.drop k).map evC).flatten[j]? = some u → W.cell? (ad.add j) = some u := by
      by_cases hcp : c1 = k
      · refine ⟨_, if_pos hcp, fun W _ j u hj => ?_⟩
        rw [List.drop_eq_nil_of_le (by omega)] at hj
        simp at hj
      · refine ⟨_, if_neg hcp, fun W hb j u hj => ?_⟩
        rw [Addr.add_lit]
        refine cell_kept (cells_flat (b := gA) (o := k * 2) (fun i hi => ?_) j u hj) hb
        rw [List.length_drop] at hi
        rw [getD_drop]
        have := HC.out (k + i) (by omega)
        rw [show k * 2 + i * 2 = (k + i) * 2 by omega]
        exact ⟨this.1, this.2.1⟩
    have hx6 : Value.slice (if c1 = k then some (⟨gA, 0, none⟩ : Addr) else some ⟨gA, k * 2, none⟩) (r.evs.length - k) (c1 - k) = .slice (some ad) (r.evs.length - k) (c1 - k) := by rw [hAD]
    have hlt' : ((r.evs.take k).map evC).flatten.length = k * 2 := by rw [flat_evs_len, List.length_take]; congr 1; omega
    have hld : ((r.evs.drop k).map evC).flatten.length = (r.evs.length - k) * 2 := by rw [flat_evs_len, List.length_drop]
    obtain ⟨NEWS1, hN1⟩ : ∃ N, ((r.evs.take k).map evC).flatten = N := ⟨_, rfl⟩
    obtain ⟨NEWS2, hN2⟩ : ∃ N, ((r.evs.drop k).map evC).flatten = N := ⟨_, rfl⟩
    rw [hN1] at hfl hlt'
    rw [hN2] at hfd hld
    have HE1 := Lib.hid hN1
    have HE2 := Lib.hid hN2
    have HFL := Lib.hid hfl
    have HFD := Lib.hid hfd
    clear hfl hfd hN1 hN2 hx6
    have HN1 : Hid (∀ W, Below w4.heap.size w4 W → ∀ j u, NEWS1[j]? = some u → W.cell? ((⟨gA, 0, none⟩ : Addr).add j) = some u) := Lib.hid (fun W hb => HFL.out W (b1.trans (hb.mono (by omega))))
    have HN2 : Hid (∀ W, Below w4.heap.size w4 W → ∀ j u, NEWS2[j]? = some u → W.cell? (ad.add j) = some u) := Lib.hid (fun W hb => HFD.out W (b1.trans (hb.mono (by omega))))
    have HL1 := Lib.hid hlt'
    have HL2 := Lib.hid hld
    have HO1 : Hid (∀ u ∈ NEWS1, u.oneCell' = true) := Lib.hid (by rw [← HE1.out]; exact evs_one _)
    have HO2 : Hid (∀ u ∈ NEWS2, u.oneCell' = true) := Lib.hid (by rw [← HE2.out]; exact evs_one _)
    have b0 : Below w4.heap.size w4 w4.drew := (Below.refl _ _).drew
    have Yk0 := Lib.hid k0
    have Yk1 := Lib.hid k1
    have Yk2 := Lib.hid k2
    have Yk3 := Lib.hid k3
    have Ye0 := Lib.hid e0
    have Ye1 := Lib.hid e1
    clear hlt' hld HFL HFD
    go_cut [7] (fun s7 wx => ∃ G n7 g7 cap7 : Nat, s7 = .pointer (some ⟨G, 0, none⟩) ∧ Lit w wx G n7 g7 cap7 (insEv r.evs ⟨ek, ed⟩) (.int .i64 r.id) (.int .i64 r.series) (.int .i64 r.made) (w.heap.size + 1 + 1) (.cells #[.int .i64 0, .int .i64 0, .int .i64 0, .slice none 0 0] 26 (0, 0)))
    case first =>
      go_region_held3 (fun w' => w'.cell? ⟨w.heap.size, 0, none⟩ = some (.int .i64 r.id) ∧ w'.cell? ⟨w.heap.size, 1, none⟩ = some (.int .i64 r.series) ∧ w'.cell? ⟨w.heap.size, 2, none⟩ = some (.int .i64 r.made) ∧ w'.cell? ⟨w.heap.size, 3, none⟩ = some (.slice (some ⟨gA, 0, none⟩) r.evs.length c1) ∧ w'.cell? ⟨w.heap.size + 1, 0, none⟩ = some (.int .i64 ek) ∧ w'.cell? ⟨w.heap.size + 1, 1, none⟩ = some (.int .i64 ed)) (first | with_reducible exact ⟨k0, k1, k2, k3, e0, e1⟩ | with_reducible exact ⟨(below_al_cell k0 _), (below_al_cell k1 _), (below_al_cell k2 _), (below_al_cell k3 _), (below_al_cell e0 _), (below_al_cell e1 _)⟩ | with_reducible exact ⟨(below_al_cell (below_al_cell k0 _) _), (below_al_cell (below_al_cell k1 _) _), (below_al_cell (below_al_cell k2 _) _), (below_al_cell (below_al_cell k3 _) _), (below_al_cell (below_al_cell e0 _) _), (below_al_cell (below_al_cell e1 _) _)⟩ | with_reducible exact ⟨(below_al_cell (below_al_cell (below_al_cell k0 _) _) _), (below_al_cell (below_al_cell (below_al_cell k1 _) _) _), (below_al_cell (below_al_cell (below_al_cell k2 _) _) _), (below_al_cell (below_al_cell (below_al_cell k3 _) _) _), (below_al_cell (below_al_cell (below_al_cell e0 _) _) _), (below_al_cell (below_al_cell (below_al_cell e1 _) _) _)⟩ | with_reducible exact ⟨drew_cell k0, drew_cell k1, drew_cell k2, drew_cell k3, drew_cell e0, drew_cell e1⟩ | with_reducible exact ⟨drew_cell (below_al_cell k0 _), drew_cell (below_al_cell k1 _), drew_cell (below_al_cell k2 _), drew_cell (below_al_cell k3 _), drew_cell (below_al_cell e0 _), drew_cell (below_al_cell e1 _)⟩ | with_reducible exact ⟨drew_cell (below_al_cell (below_al_cell k0 _) _), drew_cell (below_al_cell (below_al_cell k1 _) _), drew_cell (below_al_cell (below_al_cell k2 _) _), drew_cell (below_al_cell (below_al_cell k3 _) _), drew_cell (below_al_cell (below_al_cell e0 _) _), drew_cell (below_al_cell (below_al_cell e1 _) _)⟩ | with_reducible exact ⟨drew_cell (below_al_cell (below_al_cell (below_al_cell k0 _) _) _), drew_cell (below_al_cell (below_al_cell (below_al_cell k1 _) _) _), drew_cell (below_al_cell (below_al_cell (below_al_cell k2 _) _) _), drew_cell (below_al_cell (below_al_cell (below_al_cell k3 _) _) _), drew_cell (below_al_cell (below_al_cell (below_al_cell e0 _) _) _), drew_cell (below_al_cell (below_al_cell (below_al_cell e1 _) _) _)⟩ | (refine ⟨?_, ?_, ?_, ?_, ?_, ?_⟩ <;> (repeat rw [World.cell?_setCell_far _ _ _ _ (by simp; omega)]) <;> first | assumption | go_keep)) (first | (rw [if_pos (by rfl)]; refine wp_append_at _ _ _ _ rfl w4.heap.size 43 i0 (.agg #[.int .i64 0, .int .i64 0]) 2 16 Try.underlying24 hi hz0 hz1 hz2 rfl (by decide) v6 (0 + k + 1) ([] ++ NEWS1 ++ [.int .i64 ek, .int .i64 ed]) (by rfl) (by (repeat (first | exact hown6 | refine World.ownsRow.alloc ?_ _)); first | done | fail) ad (r.evs.length - k) (c1 - k) NEWS2 (by rfl) HL2.out (by exact HN2.out _ (by (repeat (first | exact b6 | refine below_al ?_ _)); first | done | fail)) HO2.out (by unfold maxLen; omega) (by omega) (by (first | omega | (simp; done) | (simp; omega))) ?_; intro v7 w7 hown7 hg7 hat7; have b7 : Below w4.heap.size w4 w7 := Below.grown (by (repeat (first | exact b6 | refine below_al ?_ _)); first | done | fail) hg7 (by (first | omega | (simp; done) | (simp; omega))) (by exact fun kk hk => (hown6.lt kk hk).1); have s7 := b7.size; replace k0 := cell_kept Yk0.out b7; replace k1 := cell_kept Yk1.out b7; replace k2 := cell_kept Yk2.out b7; replace k3 := cell_kept Yk3.out b7; replace e0 := cell_kept Ye0.out b7; replace e1 := cell_kept Ye1.out b7; (first | (have QB7 := off_app QB6 hg7 hat7) | (have QB7 := off_app (off_al QB6 _) hg7 hat7) | (have QB7 := off_app (off_al (off_al QB6 _) _) hg7 hat7) | (have QB7 := off_app (G := w6.heap.size) (O := (.cells #[.int .i64 0, .int .i64 0, .int .i64 0, .slice none 0 0] 26 (0, 0))) (by (repeat (first | exact off_new (by first | (simp; done) | fail) (fun kk hk => (hown6.lt kk hk).2) | refine off_al ?_ _)); first | done | fail) hg7 hat7) | (have QB7 := off_app (G := (w6.heap.size + 1)) (O := (.cells #[.int .i64 0, .int .i64 0, .int .i64 0, .slice none 0 0] 26 (0, 0))) (by (repeat (first | exact off_new (by first | (simp; done) | fail) (fun kk hk => Nat.lt_succ_of_lt (hown6.lt kk hk).2) | refine off_al ?_ _)); first | done | fail) hg7 hat7) | skip); (first | (have z0 := box_cell QB7.1 0 rfl; have z1 := box_cell QB7.1 1 rfl; have z2 := box_cell QB7.1 2 rfl; have z3 := box_cell QB7.1 3 rfl; have y0 := blk_frozen QB7.1 0; have y1 := blk_frozen QB7.1 1; have y2 := blk_frozen QB7.1 2; have y3 := blk_frozen QB7.1 3) | skip); obtain ⟨g7, cap7, rfl, hge7⟩ := own_form hown7 (by omega)) | (rw [if_pos (by rfl)]; refine wp_append_at _ _ _ _ rfl w4.heap.size 43 i0 (.agg #[.int .i64 0, .int .i64 0]) 2 16 Try.underlying24 hi hz0 hz1 hz2 rfl (by decide) v5 (0 + k) ([] ++ NEWS1) (by rfl) (by (repeat (first | exact hown5 | refine World.ownsRow.alloc ?_ _)); first | done | fail) ⟨w5.heap.size, 0, none⟩ 1 1 [.int .i64 ek, .int .i64 ed] (by rfl) rfl (by (repeat (first | exact two_new (by first | (simp; done) | fail) | refine cells_al ?_ _)); first | done | fail) (by simp [Value.oneCell']) (by unfold maxLen; omega) (by omega) (by (first | omega | (simp; done) | (simp; omega))) ?_; intro v6 w6 hown6 hg6 hat6; have b6 : Below w4.heap.size w4 w6 := Below.grown (by (repeat (first | exact b5 | refine below_al ?_ _)); first | done | fail) hg6 (by (first | omega | (simp; done) | (simp; omega))) (by exact fun kk hk => (hown5.lt kk hk).1); have s6 := b6.size; replace k0 := cell_kept Yk0.out b6; replace k1 := cell_kept Yk1.out b6; replace k2 := cell_kept Yk2.out b6; replace k3 := cell_kept Yk3.out b6; replace e0 := cell_kept Ye0.out b6; replace e1 := cell_kept Ye1.out b6; (first | (have QB6 := off_app QB5 hg6 hat6) | (have QB6 := off_app (off_al QB5 _) hg6 hat6) | (have QB6 := off_app (off_al (off_al QB5 _) _) hg6 hat6) | (have QB6 := off_app (G := w5.heap.size) (O := (.cells #[.int .i64 0, .int .i64 0, .int .i64 0, .slice none 0 0] 26 (0, 0))) (by (repeat (first | exact off_new (by first | (simp; done) | fail) (fun kk hk => (hown5.lt kk hk).2) | refine off_al ?_ _)); first | done | fail) hg6 hat6) | (have QB6 := off_app (G := (w5.heap.size + 1)) (O := (.cells #[.int .i64 0, .int .i64 0, .int .i64 0, .slice none 0 0] 26 (0, 0))) (by (repeat (first | exact off_new (by first | (simp; done) | fail) (fun kk hk => Nat.lt_succ_of_lt (hown5.lt kk hk).2) | refine off_al ?_ _)); first | done | fail) hg6 hat6) | skip)) | (rw [if_pos (by rfl)]; refine wp_append_at _ _ _ _ rfl w4.heap.size 43 i0 (.agg #[.int .i64 0, .int .i64 0]) 2 16 Try.underlying24 hi hz0 hz1 hz2 rfl (by decide) v5 (0 + k) ([] ++ NEWS1) (by rfl) (by (repeat (first | exact hown5 | refine World.ownsRow.alloc ?_ _)); first | done | fail) ⟨(w5.heap.size + 1), 0, none⟩ 1 1 [.int .i64 ek, .int .i64 ed] (by rfl) rfl (by (repeat (first | exact two_new (by first | (simp; done) | fail) | refine cells_al ?_ _)); first | done | fail) (by simp [Value.oneCell']) (by unfold maxLen; omega) (by omega) (by (first | omega | (simp; done) | (simp; omega))) ?_; intro v6 w6 hown6 hg6 hat6; have b6 : Below w4.heap.size w4 w6 := Below.grown (by (repeat (first | exact b5 | refine below_al ?_ _)); first | done | fail) hg6 (by (first | omega | (simp; done) | (simp; omega))) (by exact fun kk hk => (hown5.lt kk hk).1); have s6 := b6.size; replace k0 := cell_kept Yk0.out b6; replace k1 := cell_kept Yk1.out b6; replace k2 := cell_kept Yk2.out b6; replace k3 := cell_kept Yk3.out b6; replace e0 := cell_kept Ye0.out b6; replace e1 := cell_kept Ye1.out b6; (first | (have QB6 := off_app QB5 hg6 hat6) | (have QB6 := off_app (off_al QB5 _) hg6 hat6) | (have QB6 := off_app (off_al (off_al QB5 _) _) hg6 hat6) | (have QB6 := off_app (G := w5.heap.size) (O := (.cells #[.int .i64 0, .int .i64 0, .int .i64 0, .slice none 0 0] 26 (0, 0))) (by (repeat (first | exact off_new (by first | (simp; done) | fail) (fun kk hk => (hown5.lt kk hk).2) | refine off_al ?_ _)); first | done | fail) hg6 hat6) | (have QB6 := off_app (G := (w5.heap.size + 1)) (O := (.cells #[.int .i64 0, .int .i64 0, .int .i64 0, .slice none 0 0] 26 (0, 0))) (by (repeat (first | exact off_new (by first | (simp; done) | fail) (fun kk hk => Nat.lt_succ_of_lt (hown5.lt kk hk).2) | refine off_al ?_ _)); first | done | fail) hg6 hat6) | skip)) | (rw [if_pos (by rfl)]; refine wp_append_at _ _ _ _ rfl w4.heap.size 43 i0 (.agg #[.int .i64 0, .int .i64 0]) 2 16 Try.underlying24 hi hz0 hz1 hz2 rfl (by decide) v5 (0 + k) ([] ++ NEWS1) (by rfl) (by (repeat (first | exact hown5 | refine World.ownsRow.alloc ?_ _)); first | done | fail) ⟨w4.heap.size, 0, none⟩ 1 1 [.int .i64 ek, .int .i64 ed] (by rfl) rfl (by (repeat (first | exact off_cells2 QE5 | refine cells_al ?_ _)); first | done | fail) (by simp [Value.oneCell']) (by unfold maxLen; omega) (by omega) (by (first | omega | (simp; done) | (simp; omega))) ?_; intro v6 w6 hown6 hg6 hat6; have b6 : Below w4.heap.size w4 w6 := Below.grown (by (repeat (first | exact b5 | refine below_al ?_ _)); first | done | fail) hg6 (by (first | omega | (simp; done) | (simp; omega))) (by exact fun kk hk => (hown5.lt kk hk).1); have s6 := b6.size; replace k0 := cell_kept Yk0.out b6; replace k1 := cell_kept Yk1.out b6; replace k2 := cell_kept Yk2.out b6; replace k3 := cell_kept Yk3.out b6; replace e0 := cell_kept Ye0.out b6; replace e1 := cell_kept Ye1.out b6; (first | (have QB6 := off_app QB5 hg6 hat6) | (have QB6 := off_app (off_al QB5 _) hg6 hat6) | (have QB6 := off_app (off_al (off_al QB5 _) _) hg6 hat6) | (have QB6 := off_app (G := w5.heap.size) (O := (.cells #[.int .i64 0, .int .i64 0, .int .i64 0, .slice none 0 0] 26 (0, 0))) (by (repeat (first | exact off_new (by first | (simp; done) | fail) (fun kk hk => (hown5.lt kk hk).2) | refine off_al ?_ _)); first | done | fail) hg6 hat6) | (have QB6 := off_app (G := (w5.heap.size + 1)) (O := (.cells #[.int .i64 0, .int .i64 0, .int .i64 0, .slice none 0 0] 26 (0, 0))) (by (repeat (first | exact off_new (by first | (simp; done) | fail) (fun kk hk => Nat.lt_succ_of_lt (hown5.lt kk hk).2) | refine off_al ?_ _)); first | done | fail) hg6 hat6) | skip)) | (rw [if_pos (by rfl)]; refine wp_append_at _ _ _ _ rfl w4.heap.size 43 i0 (.agg #[.int .i64 0, .int .i64 0]) 2 16 Try.underlying24 hi hz0 hz1 hz2 rfl (by decide) v5 (0 + k) ([] ++ NEWS1) (by rfl) (by (repeat (first | exact hown5 | refine World.ownsRow.alloc ?_ _)); first | done | fail) ⟨(w4.heap.size + 1), 0, none⟩ 1 1 [.int .i64 ek, .int .i64 ed] (by rfl) rfl (by (repeat (first | exact off_cells2 QE5 | refine cells_al ?_ _)); first | done | fail) (by simp [Value.oneCell']) (by unfold maxLen; omega) (by omega) (by (first | omega | (simp; done) | (simp; omega))) ?_; intro v6 w6 hown6 hg6 hat6; have b6 : Below w4.heap.size w4 w6 := Below.grown (by (repeat (first | exact b5 | refine below_al ?_ _)); first | done | fail) hg6 (by (first | omega | (simp; done) | (simp; omega))) (by exact fun kk hk => (hown5.lt kk hk).1); have s6 := b6.size; replace k0 := cell_kept Yk0.out b6; replace k1 := cell_kept Yk1.out b6; replace k2 := cell_kept Yk2.out b6; replace k3 := cell_kept Yk3.out b6; replace e0 := cell_kept Ye0.out b6; replace e1 := cell_kept Ye1.out b6; (first | (have QB6 := off_app QB5 hg6 hat6) | (have QB6 := off_app (off_al QB5 _) hg6 hat6) | (have QB6 := off_app (off_al (off_al QB5 _) _) hg6 hat6) | (have QB6 := off_app (G := w5.heap.size) (O := (.cells #[.int .i64 0, .int .i64 0, .int .i64 0, .slice none 0 0] 26 (0, 0))) (by (repeat (first | exact off_new (by first | (simp; done) | fail) (fun kk hk => (hown5.lt kk hk).2) | refine off_al ?_ _)); first | done | fail) hg6 hat6) | (have QB6 := off_app (G := (w5.heap.size + 1)) (O := (.cells #[.int .i64 0, .int .i64 0, .int .i64 0, .slice none 0 0] 26 (0, 0))) (by (repeat (first | exact off_new (by first | (simp; done) | fail) (fun kk hk => Nat.lt_succ_of_lt (hown5.lt kk hk).2) | refine off_al ?_ _)); first | done | fail) hg6 hat6) | skip)) | (rw [if_pos (by rfl)]; refine wp_append_at _ _ _ _ rfl w4.heap.size 43 i0 (.agg #[.int .i64 0, .int .i64 0]) 2 16 Try.underlying24 hi hz0 hz1 hz2 rfl (by decide) v5 (0 + k) ([] ++ NEWS1) (by rfl) (by (repeat (first | exact hown5 | refine World.ownsRow.alloc ?_ _)); first | done | fail) ⟨(w4.heap.size + 1 + 1), 0, none⟩ 1 1 [.int .i64 ek, .int .i64 ed] (by rfl) rfl (by (repeat (first | exact off_cells2 QE5 | refine cells_al ?_ _)); first | done | fail) (by simp [Value.oneCell']) (by unfold maxLen; omega) (by omega) (by (first | omega | (simp; done) | (simp; omega))) ?_; intro v6 w6 hown6 hg6 hat6; have b6 : Below w4.heap.size w4 w6 := Below.grown (by (repeat (first | exact b5 | refine below_al ?_ _)); first | done | fail) hg6 (by (first | omega | (simp; done) | (simp; omega))) (by exact fun kk hk => (hown5.lt kk hk).1); have s6 := b6.size; replace k0 := cell_kept Yk0.out b6; replace k1 := cell_kept Yk1.out b6; replace k2 := cell_kept Yk2.out b6; replace k3 := cell_kept Yk3.out b6; replace e0 := cell_kept Ye0.out b6; replace e1 := cell_kept Ye1.out b6; (first | (have QB6 := off_app QB5 hg6 hat6) | (have QB6 := off_app (off_al QB5 _) hg6 hat6) | (have QB6 := off_app (off_al (off_al QB5 _) _) hg6 hat6) | (have QB6 := off_app (G := w5.heap.size) (O := (.cells #[.int .i64 0, .int .i64 0, .int .i64 0, .slice none 0 0] 26 (0, 0))) (by (repeat (first | exact off_new (by first | (simp; done) | fail) (fun kk hk => (hown5.lt kk hk).2) | refine off_al ?_ _)); first | done | fail) hg6 hat6) | (have QB6 := off_app (G := (w5.heap.size + 1)) (O := (.cells #[.int .i64 0, .int .i64 0, .int .i64 0, .slice none 0 0] 26 (0, 0))) (by (repeat (first | exact off_new (by first | (simp; done) | fail) (fun kk hk => Nat.lt_succ_of_lt (hown5.lt kk hk).2) | refine off_al ?_ _)); first | done | fail) hg6 hat6) | skip)) | (rw [if_pos (by rfl)]; refine wp_append_at _ _ _ _ rfl w4.heap.size 43 i0 (.agg #[.int .i64 0, .int .i64 0]) 2 16 Try.underlying24 hi hz0 hz1 hz2 rfl (by decide) (.slice (some ⟨w4.heap.size, 0, none⟩) 0 0) 0 [] (by rfl) (by refine own_drew ?_; (repeat (first | exact own_made (by first | (simp; done) | fail) (by omega) | refine World.ownsRow.alloc ?_ _)); first | done | fail) ⟨gA, 0, none⟩ k c1 NEWS1 (by rfl) HL1.out (by exact HN1.out _ (by refine Below.drew ?_; (repeat (first | exact Below.refl _ _ | refine below_al ?_ _)); first | done | fail)) HO1.out (by unfold maxLen; omega) (by omega) (by (first | omega | (simp; done) | (simp; omega))) ?_; intro v5 w5 hown5 hg5 hat5; have b5 : Below w4.heap.size w4 w5 := Below.grown (by refine Below.drew ?_; (repeat (first | exact Below.refl _ _ | refine below_al ?_ _)); first | done | fail) hg5 (by (first | omega | (simp; done) | (simp; omega))) (by intro kk hk; cases hk; first | exact Nat.le_refl _ | exact Nat.le_succ _ | exact Nat.le_trans (Nat.le_succ _) (Nat.le_succ _)); have s5 := b5.size; replace k0 := cell_kept Yk0.out b5; replace k1 := cell_kept Yk1.out b5; replace k2 := cell_kept Yk2.out b5; replace k3 := cell_kept Yk3.out b5; replace e0 := cell_kept Ye0.out b5; replace e1 := cell_kept Ye1.out b5; (first | (have QB5 := off_app (G := w4.heap.size) (O := (.cells #[.int .i64 0, .int .i64 0, .int .i64 0, .slice none 0 0] 26 (0, 0))) (off_row (by refine heap_drew ?_; (repeat (first | exact heap_al0 (by first | (simp; done) | fail) | refine heap_al1 ?_ _)); first | done | fail) (by omega)) hg5 hat5) | (have QB5 := off_app (G := (w4.heap.size + 1)) (O := (.cells #[.int .i64 0, .int .i64 0, .int .i64 0, .slice none 0 0] 26 (0, 0))) (off_row (by refine heap_drew ?_; (repeat (first | exact heap_al0 (by first | (simp; done) | fail) | refine heap_al1 ?_ _)); first | done | fail) (by omega)) hg5 hat5) | (have QB5 := off_app (G := (w4.heap.size + 1 + 1)) (O := (.cells #[.int .i64 0, .int .i64 0, .int .i64 0, .slice none 0 0] 26 (0, 0))) (off_row (by refine heap_drew ?_; (repeat (first | exact heap_al0 (by first | (simp; done) | fail) | refine heap_al1 ?_ _)); first | done | fail) (by omega)) hg5 hat5) | skip); (first | (have QE5 := off_app (G := w4.heap.size) (O := (.cells #[.int .i64 ek, .int .i64 ed] 43 (0, 0))) (off_row (by refine heap_drew ?_; (repeat (first | exact heap_al0 (by first | (simp; done) | fail) | refine heap_al1 ?_ _)); first | done | fail) (by omega)) hg5 hat5) | (have QE5 := off_app (G := (w4.heap.size + 1)) (O := (.cells #[.int .i64 ek, .int .i64 ed] 43 (0, 0))) (off_row (by refine heap_drew ?_; (repeat (first | exact heap_al0 (by first | (simp; done) | fail) | refine heap_al1 ?_ _)); first | done | fail) (by omega)) hg5 hat5) | (have QE5 := off_app (G := (w4.heap.size + 1 + 1)) (O := (.cells #[.int .i64 ek, .int .i64 ed] 43 (0, 0))) (off_row (by refine heap_drew ?_; (repeat (first | exact heap_al0 (by first | (simp; done) | fail) | refine heap_al1 ?_ _)); first | done | fail) (by omega)) hg5 hat5) | skip)) | (rw [if_pos (by rfl)]; refine wp_append_at _ _ _ _ rfl w4.heap.size 43 i0 (.agg #[.int .i64 0, .int .i64 0]) 2 16 Try.underlying24 hi hz0 hz1 hz2 rfl (by decide) (.slice (some ⟨(w4.heap.size + 1), 0, none⟩) 0 0) 0 [] (by rfl) (by refine own_drew ?_; (repeat (first | exact own_made (by first | (simp; done) | fail) (by omega) | refine World.ownsRow.alloc ?_ _)); first | done | fail) ⟨gA, 0, none⟩ k c1 NEWS1 (by rfl) HL1.out (by exact HN1.out _ (by refine Below.drew ?_; (repeat (first | exact Below.refl _ _ | refine below_al ?_ _)); first | done | fail)) HO1.out (by unfold maxLen; omega) (by omega) (by (first | omega | (simp; done) | (simp; omega))) ?_; intro v5 w5 hown5 hg5 hat5; have b5 : Below w4.heap.size w4 w5 := Below.grown (by refine Below.drew ?_; (repeat (first | exact Below.refl _ _ | refine below_al ?_ _)); first | done | fail) hg5 (by (first | omega | (simp; done) | (simp; omega))) (by intro kk hk; cases hk; first | exact Nat.le_refl _ | exact Nat.le_succ _ | exact Nat.le_trans (Nat.le_succ _) (Nat.le_succ _)); have s5 := b5.size; replace k0 := cell_kept Yk0.out b5; replace k1 := cell_kept Yk1.out b5; replace k2 := cell_kept Yk2.out b5; replace k3 := cell_kept Yk3.out b5; replace e0 := cell_kept Ye0.out b5; replace e1 := cell_kept Ye1.out b5; (first | (have QB5 := off_app (G := w4.heap.size) (O := (.cells #[.int .i64 0, .int .i64 0, .int .i64 0, .slice none 0 0] 26 (0, 0))) (off_row (by refine heap_drew ?_; (repeat (first | exact heap_al0 (by first | (simp; done) | fail) | refine heap_al1 ?_ _)); first | done | fail) (by omega)) hg5 hat5) | (have QB5 := off_app (G := (w4.heap.size + 1)) (O := (.cells #[.int .i64 0, .int .i64 0, .int .i64 0, .slice none 0 0] 26 (0, 0))) (off_row (by refine heap_drew ?_; (repeat (first | exact heap_al0 (by first | (simp; done) | fail) | refine heap_al1 ?_ _)); first | done | fail) (by omega)) hg5 hat5) | (have QB5 := off_app (G := (w4.heap.size + 1 + 1)) (O := (.cells #[.int .i64 0, .int .i64 0, .int .i64 0, .slice none 0 0] 26 (0, 0))) (off_row (by refine heap_drew ?_; (repeat (first | exact heap_al0 (by first | (simp; done) | fail) | refine heap_al1 ?_ _)); first | done | fail) (by omega)) hg5 hat5) | skip); (first | (have QE5 := off_app (G := w4.heap.size) (O := (.cells #[.int .i64 ek, .int .i64 ed] 43 (0, 0))) (off_row (by refine heap_drew ?_; (repeat (first | exact heap_al0 (by first | (simp; done) | fail) | refine heap_al1 ?_ _)); first | done | fail) (by omega)) hg5 hat5) | (have QE5 := off_app (G := (w4.heap.size + 1)) (O := (.cells #[.int .i64 ek, .int .i64 ed] 43 (0, 0))) (off_row (by refine heap_drew ?_; (repeat (first | exact heap_al0 (by first | (simp; done) | fail) | refine heap_al1 ?_ _)); first | done | fail) (by omega)) hg5 hat5) | (have QE5 := off_app (G := (w4.heap.size + 1 + 1)) (O := (.cells #[.int .i64 ek, .int .i64 ed] 43 (0, 0))) (off_row (by refine heap_drew ?_; (repeat (first | exact heap_al0 (by first | (simp; done) | fail) | refine heap_al1 ?_ _)); first | done | fail) (by omega)) hg5 hat5) | skip)) | (rw [if_pos (by rfl)]; refine wp_append_at _ _ _ _ rfl w4.heap.size 43 i0 (.agg #[.int .i64 0, .int .i64 0]) 2 16 Try.underlying24 hi hz0 hz1 hz2 rfl (by decide) (.slice (some ⟨(w4.heap.size + 1 + 1), 0, none⟩) 0 0) 0 [] (by rfl) (by refine own_drew ?_; (repeat (first | exact own_made (by first | (simp; done) | fail) (by omega) | refine World.ownsRow.alloc ?_ _)); first | done | fail) ⟨gA, 0, none⟩ k c1 NEWS1 (by rfl) HL1.out (by exact HN1.out _ (by refine Below.drew ?_; (repeat (first | exact Below.refl _ _ | refine below_al ?_ _)); first | done | fail)) HO1.out (by unfold maxLen; omega) (by omega) (by (first | omega | (simp; done) | (simp; omega))) ?_; intro v5 w5 hown5 hg5 hat5; have b5 : Below w4.heap.size w4 w5 := Below.grown (by refine Below.drew ?_; (repeat (first | exact Below.refl _ _ | refine below_al ?_ _)); first | done | fail) hg5 (by (first | omega | (simp; done) | (simp; omega))) (by intro kk hk; cases hk; first | exact Nat.le_refl _ | exact Nat.le_succ _ | exact Nat.le_trans (Nat.le_succ _) (Nat.le_succ _)); have s5 := b5.size; replace k0 := cell_kept Yk0.out b5; replace k1 := cell_kept Yk1.out b5; replace k2 := cell_kept Yk2.out b5; replace k3 := cell_kept Yk3.out b5; replace e0 := cell_kept Ye0.out b5; replace e1 := cell_kept Ye1.out b5; (first | (have QB5 := off_app (G := w4.heap.size) (O := (.cells #[.int .i64 0, .int .i64 0, .int .i64 0, .slice none 0 0] 26 (0, 0))) (off_row (by refine heap_drew ?_; (repeat (first | exact heap_al0 (by first | (simp; done) | fail) | refine heap_al1 ?_ _)); first | done | fail) (by omega)) hg5 hat5) | (have QB5 := off_app (G := (w4.heap.size + 1)) (O := (.cells #[.int .i64 0, .int .i64 0, .int .i64 0, .slice none 0 0] 26 (0, 0))) (off_row (by refine heap_drew ?_; (repeat (first | exact heap_al0 (by first | (simp; done) | fail) | refine heap_al1 ?_ _)); first | done | fail) (by omega)) hg5 hat5) | (have QB5 := off_app (G := (w4.heap.size + 1 + 1)) (O := (.cells #[.int .i64 0, .int .i64 0, .int .i64 0, .slice none 0 0] 26 (0, 0))) (off_row (by refine heap_drew ?_; (repeat (first | exact heap_al0 (by first | (simp; done) | fail) | refine heap_al1 ?_ _)); first | done | fail) (by omega)) hg5 hat5) | skip); (first | (have QE5 := off_app (G := w4.heap.size) (O := (.cells #[.int .i64 ek, .int .i64 ed] 43 (0, 0))) (off_row (by refine heap_drew ?_; (repeat (first | exact heap_al0 (by first | (simp; done) | fail) | refine heap_al1 ?_ _)); first | done | fail) (by omega)) hg5 hat5) | (have QE5 := off_app (G := (w4.heap.size + 1)) (O := (.cells #[.int .i64 ek, .int .i64 ed] 43 (0, 0))) (off_row (by refine heap_drew ?_; (repeat (first | exact heap_al0 (by first | (simp; done) | fail) | refine heap_al1 ?_ _)); first | done | fail) (by omega)) hg5 hat5) | (have QE5 := off_app (G := (w4.heap.size + 1 + 1)) (O := (.cells #[.int .i64 ek, .int .i64 ed] 43 (0, 0))) (off_row (by refine heap_drew ?_; (repeat (first | exact heap_al0 (by first | (simp; done) | fail) | refine heap_al1 ?_ _)); first | done | fail) (by omega)) hg5 hat5) | skip)))
      all_goals
        go_wp2_with fail
        go_meet
        rw [Nat.zero_add] at hown7
        have hF := evs_ins (lo := w.heap.size + 3) hown7 (by omega) HE1.out HE2.out HP.out (by omega) H1.out.evs_ok hek
        have hb7 : Below w.heap.size w w7 := b1.trans (b7.mono (by omega))
        have hz7 := box_kept Z4.out b7
        have hs7 : w.heap.size + 3 ≤ w7.heap.size := by omega
        first
          | (have qq := QB7; exact ⟨_, _, _, _, rfl, lit_a hF qq hb7 (by omega) hz7 (by omega) hs7⟩)
          | exact ⟨_, _, _, _, rfl, lit_b hF hb7 hz7 hs7⟩
    case rest =>
      obtain ⟨G, n7, g7, cap7, rfl, HEV, b7, Z7, s7, c0, c1', c2, c3⟩ := hcut
      have hrec : ∀ W', Below wc.heap.size wc W' → RecO (w.heap.size + 3) wc.heap.size W' (.agg #[.int .i64 r.id, .int .i64 r.series, .int .i64 r.made, .slice (some ⟨g7, 0, none⟩) n7 cap7]) { r with evs := insEv r.evs ⟨ek, ed⟩ } := fun W' hb => ⟨_, rfl, HEV.below hb, HOK.out⟩
      have HREC := Lib.hid hrec
      have HEV' := Lib.hid HEV
      have ZZ := Lib.hid Z7
      obtain ⟨bo, ho⟩ : ∃ b, isRec { r with evs := insEv r.evs ⟨ek, ed⟩ } = b := ⟨_, rfl⟩
      have HO := Lib.hid ho
      clear hrec HEV Z7 ho k0 k1 k2 k3 e0 e1 b1 HN1 HN2 HL1 HL2 HO1 HO2 HE1 HE2 Yk0 Yk1 Yk2 Yk3 Ye0 Ye1 hAD
      go_wp2_with fail
      refine (l2Record_any _ { r with evs := insEv r.evs ⟨ek, ed⟩ } _ (HREC.out _ (Below.refl _ _)).toV).mono ?_
      rw [HO.out]
      rintro en w8 ⟨rfl, b8⟩
      have z := box_kept ZZ.out b8
      replace c0 := cell_kept c0 b8
      replace c1' := cell_kept c1' b8
      replace c2 := cell_kept c2 b8
      replace c3 := cell_kept c3 b8
      have b18 := below_chain b7 b8
      have s8 := Nat.le_trans s7 b8.size
      have z0 := box_cell z 0 rfl
      have y0 := blk_frozen z 0
      have z1 := box_cell z 1 rfl
      have y1 := blk_frozen z 1
      have z2 := box_cell z 2 rfl
      have y2 := blk_frozen z 2
      have z3 := box_cell z 3 rfl
      have y3 := blk_frozen z 3
      simp at z0 z1 z2 z3 y0 y1 y2 y3
      clear z b7
      cases bo
      · have hh := HRES.out
        unfold addRes at hh
        rw [if_neg (fun h => by have := HO.out; rw [h.2] at this; cases this)] at hh
        obtain ⟨rfl, rfl⟩ := Prod.mk.inj hh
        clear hh HRES
        go_wp2_with fail
        refine bodyPost_ret (v := .tuple #[.agg #[.int .i64 0, .int .i64 0, .int .i64 0, .slice none 0 0], .bool false]) (by simp [results, Try.results77, go_sem, z0, z1, z2, z3]) rfl ⟨_, rfl, rec0 _ _ _, ?_⟩
        exact (((b18.setCell (by simp; omega) _).setCell (by simp; omega) _).setCell (by simp; omega) _).setCell (by simp; omega) _
      · have hh := HRES.out
        unfold addRes at hh
        rw [if_pos ⟨HR.out, HO.out⟩] at hh
        obtain ⟨rfl, rfl⟩ := Prod.mk.inj hh
        clear hh HRES
        go_wp2_with fail
        refine bodyPost_ret (v := .tuple #[.agg #[.int .i64 r.id, .int .i64 r.series, .int .i64 r.made, .slice (some ⟨g7, 0, none⟩) n7 cap7], .bool true]) (by simp [results, Try.results77, go_sem, z0, z1, z2, z3]) rfl ⟨_, rfl, ⟨_, rfl, ?_, HOK.out⟩, ?_⟩
        · exact (((((HEV'.out.below b8).far (by first | omega | (simp; omega) | (simp; done)) _).far (by first | omega | (simp; omega) | (simp; done)) _).far (by first | omega | (simp; omega) | (simp; done)) _).far (by first | omega | (simp; omega) | (simp; done)) _).wide (by omega) (by simp; exact b8.size)
        · exact (((b18.setCell (by simp; omega) _).setCell (by simp; omega) _).setCell (by simp; omega) _).setCell (by simp; omega) _
end Go.Proofs.Ytnfcfinecjgakaa
