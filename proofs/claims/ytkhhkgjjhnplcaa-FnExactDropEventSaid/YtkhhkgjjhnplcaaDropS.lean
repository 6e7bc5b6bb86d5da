/- DropEvent, the model's. -/
import Derived.Test.YtkhhkgjjhnplcaaDrop
namespace Go.Proofs.Ytkhhkgjjhnplcaa
set_option linter.unusedVariables false
open Go.RowKit Go.Sort

/-- The first k events but those of a kind. -/
def keepK (xs : List Ev) (kd : Int) (k : Nat) : List Ev := (xs.take k).filter (fun e => decide (e.kind ≠ kd))
theorem keepK_succ (xs : List Ev) (kd : Int) (k : Nat) (h : k < xs.length) : keepK xs kd (k + 1) = if (xs.getD k evD).kind ≠ kd then keepK xs kd k ++ [xs.getD k evD] else keepK xs kd k := by
  unfold keepK
  rw [List.take_add_one, List.getElem?_eq_getElem h, getD_lt h, List.filter_append]
  by_cases hk : xs[k].kind ≠ kd
  · simp [hk]
  · simp at hk
    simp [hk]
theorem keepK_len (xs : List Ev) (kd : Int) (k : Nat) : (keepK xs kd k).length ≤ k := by
  unfold keepK
  exact Nat.le_trans (List.length_filter_le _ _) (by rw [List.length_take]; omega)
theorem al_frozen {w : World} {p : Addr} (h : w.frozen? p = false) (o : Obj) (hp : p.block < w.heap.size) : (w.alloc o).frozen? p = false := ((below_al (Below.refl w.heap.size w) o).frozen hp).trans h
theorem setCell_grown (w : World) (g j : Nat) (u : Value) : w.grownBy (w.setCell ⟨g, j, none⟩ u) (some g) :=
  ⟨rfl, rfl, rfl, by simp, fun k hk hne => Below.heap_setCell w ⟨g, j, none⟩ u k (fun e => hne (by rw [e]))⟩
/-- The events that are kept so far: none in a row of no room, or a row of the call's own behind Bo. -/
def KeptIn (Br : Nat) (w : World) (v : Value) (ys : List Ev) : Prop :=
  (v = .slice (some ⟨Br, 0, none⟩) 0 0 ∧ ys = [] ∧ w.ownsRow Br 25 2 v 0 []) ∨ w.ownsRow (Br + 2) 25 2 v ys.length (ys.map evC).flatten
theorem KeptIn.below {Br : Nat} {w w' : World} {v : Value} {ys : List Ev} (h : KeptIn Br w v ys) (hb : Below w.heap.size w w') : KeptIn Br w' v ys :=
  h.imp (fun ⟨a, b, c⟩ => ⟨a, b, ownsRow_below c hb⟩) (fun c => ownsRow_below c hb)
theorem KeptIn.set {Br : Nat} {w : World} {v u : Value} {ys : List Ev} {j : Nat} (h : KeptIn Br w v ys) : KeptIn Br (w.setCell ⟨Br + 1, j, none⟩ u) v ys := by
  rcases h with ⟨rfl, b, c⟩ | c
  · exact .inl ⟨rfl, b, c.kept (setCell_grown w _ _ _) (.inr (by simp [Value.ownBlock]))⟩
  · exact .inr (ownsRow_setCell_below c (by simp) u)
theorem KeptIn.evs {Br : Nat} {w : World} {v : Value} {ys : List Ev} (h : KeptIn Br w v ys) (hok : ∀ e ∈ ys, e.ok) : EvsO Br w.heap.size w v ys := by
  have ho : Own Br 25 2 w v (ys.map evC) := by
    rcases h with ⟨_, rfl, c⟩ | c
    · exact ⟨c, by simp⟩
    · exact ⟨ownsRow_base_a' (by rw [List.length_map]; exact c) (by omega), by simp [evC]⟩
  exact ⟨ho, hok, ho.under⟩

set_option maxHeartbeats 4000000 in
theorem specDropEvent_any (v : Value) (r : Rec) (kd : Int) (w : World) (h : RecV w v r) (hkd : inI kd) (out : Rec) (b : Bool) (hres : dropRes r kd = (out, b)) :
    Calls Try.prog 30 #[v, .int .i64 kd] w fun en w' => ∃ v', en = .returned (.tuple #[v', .bool b]) ∧ RecO w.heap.size w'.heap.size w' v' out ∧ Below w.heap.size w w' := by
  obtain ⟨i0, hi, hz0, hz1, hz2⟩ := info_parts Try.info_event
  obtain ⟨s, rfl, h1, hok⟩ := h
  have hV : ∀ W, Below w.heap.size w W → RecV W (.agg #[.int .i64 r.id, .int .i64 r.series, .int .i64 r.made, s]) r := fun W hb => ⟨s, rfl, h1.below rEv_stable hb, hok⟩
  have HV := Lib.hid hV
  obtain ⟨a1, c1, rfl, hl1, hm1, r1⟩ := h1.evs
  have R1 := Lib.hid r1
  have H1 := Lib.hid h1
  have HOK := Lib.hid hok
  clear hV hok h1 r1
  unfold maxLen at hm1
  obtain ⟨br, hr⟩ : ∃ b, isRec r = b := ⟨_, rfl⟩
  obtain ⟨d, hd⟩ : ∃ d, dayOf r kd = d := ⟨_, rfl⟩
  unfold dropRes at hres
  rw [hr] at hres
  have HR := Lib.hid hr
  have HD := Lib.hid hd
  have HRES := Lib.hid hres
  clear hr hd hres
  cases br
  · have hh := HRES.out
    rw [if_neg (by simp)] at hh
    obtain ⟨rfl, rfl⟩ := Prod.mk.inj hh
    clear hh HRES
    go_enter Try.func30, Try.ntmps30
    go_wp2_with fail
    refine (l2Record_any _ r _ (HV.out _ (below_al (below_al (Below.refl w.heap.size w) _) _))).mono ?_
    rw [HR.out]
    rintro en w1 ⟨rfl, b1⟩
    have K := box_kept (box_al (box_new w _) _) b1
    have z := box_kept (box_new _ _) b1
    simp at z
    have k0 := box_cell K 0 rfl
    have k1 := box_cell K 1 rfl
    have k2 := box_cell K 2 rfl
    have k3 := box_cell K 3 rfl
    have b10 : w.heap.size + 2 ≤ w1.heap.size := by have := b1.size; simp at this; omega
    replace b1 := below_chain (below_al (below_al (Below.refl w.heap.size w) _) _) b1
    clear K
    have z0 := box_cell z 0 rfl
    have y0 := blk_frozen z 0
    have z1 := box_cell z 1 rfl
    have y1 := blk_frozen z 1
    have z2 := box_cell z 2 rfl
    have y2 := blk_frozen z 2
    have z3 := box_cell z 3 rfl
    have y3 := blk_frozen z 3
    clear z
    simp at z0 z1 z2 z3 y0 y1 y2 y3
    go_wp2_with fail
    refine bodyPost_ret (v := .tuple #[.agg #[.int .i64 0, .int .i64 0, .int .i64 0, .slice none 0 0], .bool false]) (by simp [results, Try.results30, go_sem, z0, z1, z2, z3]) rfl ⟨_, rfl, rec0 _ _ _, ?_⟩
    exact (((b1.setCell (by simp) _).setCell (by simp) _).setCell (by simp) _).setCell (by simp) _
  by_cases hk0 : kd = 0
  · have e0 : (kd == 0) = true := by simp [hk0]
    have HK0 := Lib.hid hk0
    clear hk0
    have hh := HRES.out
    rw [if_neg (fun h => by have h2 := h.2; rw [HK0.out, found_zero HR.out] at h2; cases h2)] at hh
    obtain ⟨rfl, rfl⟩ := Prod.mk.inj hh
    clear hh HRES
    go_enter Try.func30, Try.ntmps30
    go_wp2_with fail
    refine (l2Record_any _ r _ (HV.out _ (below_al (below_al (Below.refl w.heap.size w) _) _))).mono ?_
    rw [HR.out]
    rintro en w1 ⟨rfl, b1⟩
    have K := box_kept (box_al (box_new w _) _) b1
    have z := box_kept (box_new _ _) b1
    simp at z
    have k0 := box_cell K 0 rfl
    have k1 := box_cell K 1 rfl
    have k2 := box_cell K 2 rfl
    have k3 := box_cell K 3 rfl
    have b10 : w.heap.size + 2 ≤ w1.heap.size := by have := b1.size; simp at this; omega
    replace b1 := below_chain (below_al (below_al (Below.refl w.heap.size w) _) _) b1
    clear K
    have z0 := box_cell z 0 rfl
    have y0 := blk_frozen z 0
    have z1 := box_cell z 1 rfl
    have y1 := blk_frozen z 1
    have z2 := box_cell z 2 rfl
    have y2 := blk_frozen z 2
    have z3 := box_cell z 3 rfl
    have y3 := blk_frozen z 3
    clear z
    simp at z0 z1 z2 z3 y0 y1 y2 y3
    go_wp2_with fail
    refine bodyPost_ret (v := .tuple #[.agg #[.int .i64 0, .int .i64 0, .int .i64 0, .slice none 0 0], .bool false]) (by simp [results, Try.results30, go_sem, z0, z1, z2, z3]) rfl ⟨_, rfl, rec0 _ _ _, ?_⟩
    exact (((b1.setCell (by simp) _).setCell (by simp) _).setCell (by simp) _).setCell (by simp) _
  have e0 : (kd == 0) = false := by simp [hk0]
  have HK0 := Lib.hid hk0
  clear hk0
  by_cases hd0 : d < 0
  · have hh := HRES.out
    rw [if_neg (fun h => by have h2 := (dayOf_neg HR.out kd).2 (Or.inr h.2); rw [HD.out] at h2; omega)] at hh
    obtain ⟨rfl, rfl⟩ := Prod.mk.inj hh
    clear hh HRES
    go_enter Try.func30, Try.ntmps30
    go_wp2_with fail
    refine (l2Record_any _ r _ (HV.out _ (below_al (below_al (Below.refl w.heap.size w) _) _))).mono ?_
    rw [HR.out]
    rintro en w1 ⟨rfl, b1⟩
    have K := box_kept (box_al (box_new w _) _) b1
    have z := box_kept (box_new _ _) b1
    simp at z
    have k0 := box_cell K 0 rfl
    have k1 := box_cell K 1 rfl
    have k2 := box_cell K 2 rfl
    have k3 := box_cell K 3 rfl
    have b10 : w.heap.size + 2 ≤ w1.heap.size := by have := b1.size; simp at this; omega
    replace b1 := below_chain (below_al (below_al (Below.refl w.heap.size w) _) _) b1
    clear K
    go_wp2_with fail
    refine (l2DayOf_any _ r kd _ (HV.out _ b1)).mono ?_
    rw [HD.out]
    rintro en w2 ⟨rfl, b2⟩
    replace z := box_kept z b2
    replace k0 := cell_kept k0 b2
    replace k1 := cell_kept k1 b2
    replace k2 := cell_kept k2 b2
    replace k3 := cell_kept k3 b2
    replace b10 := Nat.le_trans b10 b2.size
    replace b1 := below_chain b1 b2
    have z0 := box_cell z 0 rfl
    have y0 := blk_frozen z 0
    have z1 := box_cell z 1 rfl
    have y1 := blk_frozen z 1
    have z2 := box_cell z 2 rfl
    have y2 := blk_frozen z 2
    have z3 := box_cell z 3 rfl
    have y3 := blk_frozen z 3
    clear z
    simp at z0 z1 z2 z3 y0 y1 y2 y3
    go_wp2_with fail
    refine bodyPost_ret (v := .tuple #[.agg #[.int .i64 0, .int .i64 0, .int .i64 0, .slice none 0 0], .bool false]) (by simp [results, Try.results30, go_sem, z0, z1, z2, z3]) rfl ⟨_, rfl, rec0 _ _ _, ?_⟩
    exact (((b1.setCell (by simp) _).setCell (by simp) _).setCell (by simp) _).setCell (by simp) _
  have hfd : foundK r.evs kd = true := ((dayOf_neg HR.out kd).1 (by rw [HD.out]; omega)).resolve_left HK0.out
  have hflt := del_filter HR.out hfd
  have hh := HRES.out
  rw [if_pos ⟨rfl, hfd⟩, ← hflt] at hh
  obtain ⟨rfl, rfl⟩ := Prod.mk.inj hh
  have hlen := (isRec_iff.1 HR.out).2.2.2.1
  clear hh HRES hfd hflt
  go_enter Try.func30, Try.ntmps30
  go_wp2_with fail
  refine (l2Record_any _ r _ (HV.out _ (below_al (below_al (Below.refl w.heap.size w) _) _))).mono ?_
  rw [HR.out]
  rintro en w1 ⟨rfl, b1⟩
  have K := box_kept (box_al (box_new w _) _) b1
  have z := box_kept (box_new _ _) b1
  simp at z
  have k0 := box_cell K 0 rfl
  have k1 := box_cell K 1 rfl
  have k2 := box_cell K 2 rfl
  have k3 := box_cell K 3 rfl
  have b10 : w.heap.size + 2 ≤ w1.heap.size := by have := b1.size; simp at this; omega
  replace b1 := below_chain (below_al (below_al (Below.refl w.heap.size w) _) _) b1
  clear K
  go_wp2_with fail
  refine (l2DayOf_any _ r kd _ (HV.out _ b1)).mono ?_
  rw [HD.out]
  rintro en w2 ⟨rfl, b2⟩
  replace z := box_kept z b2
  replace k0 := cell_kept k0 b2
  replace k1 := cell_kept k1 b2
  replace k2 := cell_kept k2 b2
  replace k3 := cell_kept k3 b2
  replace b10 := Nat.le_trans b10 b2.size
  replace b1 := below_chain b1 b2
  have dd : decide (d < 0) = false := decide_eq_false (by omega)
  have ZZ := Lib.hid z
  clear z
  go_wp2_with fail
  go_loopw [7] (fun i wr => ∃ (k : Nat) (va : Option Addr) (vn vc : Nat), k ≤ r.evs.length ∧ i = .int .i64 k ∧ Hid (KeptIn w2.heap.size wr (.slice va vn vc) (keepK r.evs kd k)) ∧ Below w.heap.size w wr ∧ w2.heap.size + 2 ≤ wr.heap.size ∧
      Hid (wr.heap[w.heap.size + 1]? = some (.cells #[.int .i64 0, .int .i64 0, .int .i64 0, .slice none 0 0] 35 (0, 0))) ∧ wr.cell? ⟨w.heap.size, 3, none⟩ = some (.slice a1 r.evs.length c1) ∧
      wr.cell? ⟨w2.heap.size + 1, 0, none⟩ = some (.int .i64 r.id) ∧ wr.cell? ⟨w2.heap.size + 1, 1, none⟩ = some (.int .i64 r.series) ∧ wr.cell? ⟨w2.heap.size + 1, 2, none⟩ = some (.int .i64 r.made) ∧ wr.cell? ⟨w2.heap.size + 1, 3, none⟩ = some (.slice va vn vc) ∧ wr.frozen? ⟨w2.heap.size + 1, 3, none⟩ = false) (fun i _ => r.evs.length - (intOf i).toNat)
  case atStart =>
    have B := box_new (w2.alloc (.cells #[] 25 (0, 0))) (.cells #[.int .i64 r.id, .int .i64 r.series, .int .i64 r.made, .slice (some ⟨w2.heap.size, 0, none⟩) 0 0] 35 (0, 0))
    have hsz : (w2.alloc (.cells #[] 25 (0, 0))).heap.size = w2.heap.size + 1 := by simp
    rw [hsz] at B
    refine ⟨0, some ⟨w2.heap.size, 0, none⟩, 0, 0, Nat.zero_le _, rfl, Lib.hid (.inl ⟨rfl, by simp [keepK], (World.ownsRow_made w2 #[] 0 (Nat.le_refl _) (Nat.zero_le _) rfl).alloc _⟩), below_al (below_al b1 _) _, by simp, Lib.hid (box_al (box_al ZZ.out _) _), below_al_cell (below_al_cell k3 _) _, box_cell B 0 rfl, box_cell B 1 rfl, box_cell B 2 rfl, box_cell B 3 rfl, blk_frozen B 3⟩
  case round =>
    clear k0 k1 k2 k3 b1 ZZ b2
    obtain ⟨k, va, vn, vc, hk, rfl, KI, b1, bs, Z, k3, l0, l1, l2, l3, fr⟩ := hrel
    have hw := b1.size
    by_cases hlt : k < r.evs.length
    · obtain ⟨b0, o0, hb0, rfl, hcs⟩ := R1.out.resolve_left (fun e => by rw [e] at hlt; simp at hlt)
      obtain ⟨⟨x, y⟩, hx⟩ : ∃ s, r.evs.getD k evD = s := ⟨_, rfl⟩
      obtain ⟨q1, q2, hok⟩ := hcs k hlt
      rw [hx] at q1 q2 hok
      simp only at q1 q2
      have f1 := cell_kept q1 b1
      have f2 := cell_kept q2 b1
      have hsu := keepK_succ r.evs kd k hlt
      rw [hx] at hsu
      simp only at hsu
      have hkl := keepK_len r.evs kd k
      have HX := Lib.hid hx
      have HSU := Lib.hid hsu
      have g0 : (0 : Int) ≤ (k : Int) := by omega
      have g1 : (k : Int) < (r.evs.length : Int) := by omega
      clear q1 q2 hx hcs hok hsu
      by_cases hq : x = kd
      · have eq1 : (x != kd) = false := by simp [hq]
        have HQ := Lib.hid hq
        clear hq
        go_wp2_with fail
        go_roundw
        case rel => exact ⟨k + 1, va, vn, vc, by omega, by go_num, (by rw [HSU.out, if_neg (fun h => h HQ.out)]; exact KI), b1, bs, Z, k3, l0, l1, l2, l3, fr⟩
        case measure => simp [intOf]; omega
      · have eq1 : (x != kd) = true := by simp [hq]
        have HQ := Lib.hid hq
        clear hq
        have l3a : ∀ o, (wr.alloc o).cell? ⟨w2.heap.size + 1, 3, none⟩ = some (.slice va vn vc) := fun o => below_al_cell l3 o
        have k3a : ∀ o, (wr.alloc o).cell? ⟨w.heap.size, 3, none⟩ = some (.slice (some ⟨b0, o0, none⟩) r.evs.length c1) := fun o => below_al_cell k3 o
        have f1a : ∀ o, (wr.alloc o).cell? ⟨b0, o0 + k * 2, none⟩ = some (.int .i64 x) := fun o => below_al_cell f1 o
        have f2a : ∀ o, (wr.alloc o).cell? ⟨b0, o0 + k * 2 + 1, none⟩ = some (.int .i64 y) := fun o => below_al_cell f2 o
        have HNEWS : ∀ j u, [Value.int .i64 x, Value.int .i64 y][j]? = some u → (wr.alloc (.cells #[.int .i64 x, .int .i64 y] 25 (0, 0))).drew.cell? ((⟨wr.heap.size, 0, none⟩ : Addr).add j) = some u := by
          intro j u hj
          rw [Addr.add_lit]
          exact (blk_cell (box_new wr _) _).trans (by simpa using hj)
        rcases KI.out with ⟨hv, hnil, _⟩ | hown0
        · simp at hv
          obtain ⟨rfl, rfl, rfl⟩ := hv
          have HNIL := Lib.hid hnil
          clear hnil
          go_wp2_with fail
          go_region_law (first | (refine step_append_grows rfl _ _ _ rfl 25 i0 (.agg #[.int .i64 0, .int .i64 0]) 2 16 Try.underlying33 hi hz0 hz1 hz2 rfl (by decide) _ 0 0 [] (by rfl) (fun _ => ⟨rfl, rfl⟩) (by simp) (fun _ _ j u h => by simp at h) ⟨wr.heap.size, 0, none⟩ 1 1 [.int .i64 x, .int .i64 y] (by rfl) rfl HNEWS (by simp [Value.oneCell']) (by omega) (by unfold maxLen; omega) (by omega) ?_; intro v3 w3 hown hgrow; have b3 := below_of_grow hgrow (Nat.le_refl _) (fun k h => by cases h); have n3 : w3.ownsRow (w2.heap.size + 2) 25 2 v3 1 [.int .i64 x, .int .i64 y] := (ownsRow_base_a' hown (by first | omega | (simp; omega) | (simp; done))); have l30 := (b3.cell (p := ⟨w2.heap.size + 1, 0, none⟩) (by first | omega | (simp; omega) | (simp; done))).trans (below_al_cell l0 _); have l31 := (b3.cell (p := ⟨w2.heap.size + 1, 1, none⟩) (by first | omega | (simp; omega) | (simp; done))).trans (below_al_cell l1 _); have l32 := (b3.cell (p := ⟨w2.heap.size + 1, 2, none⟩) (by first | omega | (simp; omega) | (simp; done))).trans (below_al_cell l2 _); have l33 := (b3.cell (p := ⟨w2.heap.size + 1, 3, none⟩) (by first | omega | (simp; omega) | (simp; done))).trans (below_al_cell l3 _); have f33 := (b3.frozen (p := ⟨w2.heap.size + 1, 3, none⟩) (by first | omega | (simp; omega) | (simp; done))).trans (al_frozen fr (.cells #[.int .i64 x, .int .i64 y] 25 (0, 0)) (by first | omega | (simp; omega) | (simp; done))); have k33 := (b3.cell (p := ⟨w.heap.size, 3, none⟩) (by first | omega | (simp; omega) | (simp; done))).trans (below_al_cell k3 _); have Z3 := Lib.hid ((b3.block (w.heap.size + 1) (by first | omega | (simp; omega) | (simp; done))).trans (box_al Z.out _)); have B3 : Hid (Below w.heap.size w w3) := Lib.hid ((below_al b1 _).drew.trans (b3.mono (by first | omega | (simp; omega) | (simp; done)))); have s3 := b3.size; simp at s3; obtain ⟨va, vn, vc, rfl⟩ := own_slice n3; have N3 := Lib.hid n3; clear hown hgrow b3 n3))
          all_goals go_wp2_with fail
          all_goals go_roundw
          all_goals first | (simp [intOf]; omega) | skip
          all_goals exact ⟨k + 1, va, vn, vc, by omega, by go_num, Lib.hid (KeptIn.set (.inr (by rw [HSU.out, if_pos HQ.out, HNIL.out]; simpa [evC] using N3.out))), B3.out.setCell (by first | omega | (simp; omega) | (simp; done)) _, by simp; omega, Lib.hid ((Below.heap_setCell _ _ _ _ (by first | omega | (simp; omega) | (simp; done))).trans Z3.out), (World.cell?_setCell_far _ _ _ _ (by first | omega | (simp; omega) | (simp; done))).trans k33, (setCell_other _ (by simp)).trans l30, (setCell_other _ (by simp)).trans l31, (setCell_other _ (by simp)).trans l32, setCell_same _ l33, by rw [World.frozen?_setCell]; exact f33⟩
        · have HOWN0 := Lib.hid hown0
          clear hown0
          go_wp2_with fail
          go_region_law (first | (rw [if_pos (by rfl)]; refine wp_append_own _ _ _ _ rfl (w2.heap.size + 2) 25 i0 (.agg #[.int .i64 0, .int .i64 0]) 2 16 Try.underlying33 hi hz0 hz1 hz2 rfl (by decide) _ _ _ rfl (show (wr.alloc (.cells #[.int .i64 x, .int .i64 y] 25 (0, 0))).drew.ownsRow _ _ _ _ _ _ from HOWN0.out.alloc _) ⟨wr.heap.size, 0, none⟩ 1 1 [.int .i64 x, .int .i64 y] (by rfl) rfl HNEWS (by simp [Value.oneCell']) (by unfold maxLen; omega) (by omega) (by first | omega | (simp; omega) | (simp; done)) ?_; intro v3 w3 hown hgrow hiff; have b3 : Below (w2.heap.size + 2) (wr.alloc (.cells #[.int .i64 x, .int .i64 y] 25 (0, 0))).drew w3 := below_of_grow hgrow (by first | omega | (simp; omega) | (simp; done)) (fun k h => (HOWN0.out.lt k h).1); have n3 := hown; have l30 := (b3.cell (p := ⟨w2.heap.size + 1, 0, none⟩) (by first | omega | (simp; omega) | (simp; done))).trans (below_al_cell l0 _); have l31 := (b3.cell (p := ⟨w2.heap.size + 1, 1, none⟩) (by first | omega | (simp; omega) | (simp; done))).trans (below_al_cell l1 _); have l32 := (b3.cell (p := ⟨w2.heap.size + 1, 2, none⟩) (by first | omega | (simp; omega) | (simp; done))).trans (below_al_cell l2 _); have l33 := (b3.cell (p := ⟨w2.heap.size + 1, 3, none⟩) (by first | omega | (simp; omega) | (simp; done))).trans (below_al_cell l3 _); have f33 := (b3.frozen (p := ⟨w2.heap.size + 1, 3, none⟩) (by first | omega | (simp; omega) | (simp; done))).trans (al_frozen fr (.cells #[.int .i64 x, .int .i64 y] 25 (0, 0)) (by first | omega | (simp; omega) | (simp; done))); have k33 := (b3.cell (p := ⟨w.heap.size, 3, none⟩) (by first | omega | (simp; omega) | (simp; done))).trans (below_al_cell k3 _); have Z3 := Lib.hid ((b3.block (w.heap.size + 1) (by first | omega | (simp; omega) | (simp; done))).trans (box_al Z.out _)); have B3 : Hid (Below w.heap.size w w3) := Lib.hid ((below_al b1 _).drew.trans (b3.mono (by first | omega | (simp; omega) | (simp; done)))); have s3 := b3.size; simp at s3; obtain ⟨va', vn', vc', rfl⟩ := own_slice n3; have N3 := Lib.hid n3; clear hown hgrow b3 n3 hiff))
          all_goals go_wp2_with fail
          all_goals go_roundw
          all_goals first | (simp [intOf]; omega) | skip
          all_goals exact ⟨k + 1, va', vn', vc', by omega, by go_num, Lib.hid (KeptIn.set (.inr (by rw [HSU.out, if_pos HQ.out]; simpa [evC] using N3.out))), B3.out.setCell (by first | omega | (simp; omega) | (simp; done)) _, by simp; omega, Lib.hid ((Below.heap_setCell _ _ _ _ (by first | omega | (simp; omega) | (simp; done))).trans Z3.out), (World.cell?_setCell_far _ _ _ _ (by first | omega | (simp; omega) | (simp; done))).trans k33, (setCell_other _ (by simp)).trans l30, (setCell_other _ (by simp)).trans l31, (setCell_other _ (by simp)).trans l32, setCell_same _ l33, by rw [World.frozen?_setCell]; exact f33⟩
    · obtain rfl : k = r.evs.length := by omega
      have z0 := box_cell Z.out 0 rfl
      have z1 := box_cell Z.out 1 rfl
      have z2 := box_cell Z.out 2 rfl
      have z3 := box_cell Z.out 3 rfl
      have y0 := blk_frozen Z.out 0
      have y1 := blk_frozen Z.out 1
      have y2 := blk_frozen Z.out 2
      have y3 := blk_frozen Z.out 3
      simp at z0 z1 z2 z3 y0 y1 y2 y3
      have hev : EvsO w2.heap.size wr.heap.size wr (.slice va vn vc) (r.evs.filter (fun e => decide (e.kind ≠ kd))) := by
        have h1 := KI.out
        have h2 : keepK r.evs kd r.evs.length = r.evs.filter (fun e => decide (e.kind ≠ kd)) := by unfold keepK; rw [List.take_length]
        rw [h2] at h1
        exact h1.evs (fun e he => H1.out.evs_ok e (List.mem_filter.1 he).1)
      have HEV := Lib.hid hev
      clear hev
      go_wp2_with fail
      refine bodyPost_ret (v := .tuple #[.agg #[.int .i64 r.id, .int .i64 r.series, .int .i64 r.made, .slice va vn vc], .bool true]) (by simp [results, Try.results30, go_sem, z0, z1, z2, z3]) rfl ⟨_, rfl, ⟨_, rfl, ?_, HOK.out⟩, ?_⟩
      · exact ((((HEV.out.far (by first | omega | (simp; omega) | (simp; done)) _).far (by first | omega | (simp; omega) | (simp; done)) _).far (by first | omega | (simp; omega) | (simp; done)) _).far (by first | omega | (simp; omega) | (simp; done)) _).wide (by omega) (by simp)
      · exact (((b1.setCell (by simp) _).setCell (by simp) _).setCell (by simp) _).setCell (by simp) _
end Go.Proofs.Ytkhhkgjjhnplcaa
