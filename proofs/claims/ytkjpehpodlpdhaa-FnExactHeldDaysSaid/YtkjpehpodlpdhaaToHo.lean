/- The laws' own copies of Hold: what they answer, and where it lies. -/
import Derived.Test.YtkjpehpodlpdhaaTyHo
import Derived.Test.YtkjpehpodlpdhaaCells
import Derived.Test.YtkjpehpodlpdhaaProg
import Derived.Test.YtkjpehpodlpdhaaUpto
import Derived.WalkSmall
namespace Go.Proofs.Ytkjpehpodlpdhaa
set_option linter.unusedVariables false
open Go.RowKit

/-- One in memory of the call's own. -/
def HoO (lo hi : Nat) (w : World) (v : Value) (r : Ho) : Prop := ∃ s, v = .agg #[.int .i64 r.id, .int .i64 r.frm, .int .i64 r.til, s, .int .i64 r.fst, .int .i64 r.lst] ∧ IntsO lo hi w s r.ser ∧ r.ok
def hoC (r : Ho) (s : Value) : List Value := [.int .i64 r.id, .int .i64 r.frm, .int .i64 r.til, s, .int .i64 r.fst, .int .i64 r.lst]
/-- Of the call's own: the list ahead, the rows of each one behind those of the one before it. -/
def HosO (lo hi : Nat) (w : World) (v : Value) (rs : List Ho) : Prop :=
  ∃ (css : List (List Value)) (f : Nat → Nat), css.length = rs.length ∧ Own lo 100 6 w v css ∧ Under (f 0) v ∧ lo ≤ f 0 ∧ (∀ i, i < rs.length → f i ≤ f (i + 1)) ∧ f rs.length ≤ hi ∧
    ∀ i (h1 : i < css.length) (h2 : i < rs.length), ∃ s, css[i] = hoC rs[i] s ∧ IntsO (f i) (f (i + 1)) w s rs[i].ser ∧ rs[i].ok
section
variable {lo hi lo' hi' : Nat} {w w' : World} {v : Value} {r : Ho} {rs : List Ho}
theorem HoO.toV (h : HoO lo hi w v r) : HoV w v r := by
  obtain ⟨s, e, h, k⟩ := h
  exact ⟨s, e, h.row, k⟩
theorem HoO.below (h : HoO lo hi w v r) (hb : Below w.heap.size w w') : HoO lo hi w' v r := by
  obtain ⟨s, e, h, k⟩ := h
  exact ⟨s, e, h.below hb, k⟩
theorem HoO.only (h : HoO lo hi w v r) (hb : Only lo' hi' w w') (hh : hi' ≤ lo) : HoO lo hi w' v r := by
  obtain ⟨s, e, h, k⟩ := h
  exact ⟨s, e, h.only hb hh, k⟩
theorem HoO.wide (h : HoO lo hi w v r) (hl : lo' ≤ lo) (hh : hi ≤ hi') : HoO lo' hi' w v r := by
  obtain ⟨s, e, h, k⟩ := h
  exact ⟨s, e, h.wide hl hh, k⟩
theorem HosO.row (h : HosO lo hi w v rs) : RowR 6 rHo w v rs := by
  obtain ⟨css, f, hl, ho, _, _, _, _, he⟩ := h
  refine ho.row hl fun i h1 h2 => ?_
  obtain ⟨s, e, hs, hok⟩ := he i h1 h2
  exact ⟨s, e, hs.row, hok⟩
theorem HosO.below (h : HosO lo hi w v rs) (hb : Below w.heap.size w w') : HosO lo hi w' v rs := by
  obtain ⟨css, f, hl, ho, h1, h2, h3, h4, he⟩ := h
  refine ⟨css, f, hl, ho.below hb, h1, h2, h3, h4, fun i a b => ?_⟩
  obtain ⟨s, e, hs, hok⟩ := he i a b
  exact ⟨s, e, hs.below hb, hok⟩
theorem HosO.only (h : HosO lo hi w v rs) (hb : Only lo' hi' w w') (hh : hi' ≤ lo) : HosO lo hi w' v rs := by
  obtain ⟨css, f, hl, ho, h1, h2, h3, h4, he⟩ := h
  refine ⟨css, f, hl, ho.only hb hh, h1, h2, h3, h4, fun i a b => ?_⟩
  obtain ⟨s, e, hs, hok⟩ := he i a b
  exact ⟨s, e, hs.only hb (by have := mono_up h3 0 i (Nat.zero_le _) (by omega); omega), hok⟩
theorem HosO.only2 (h : HosO lo hi w v rs) (hb : Only lo' hi' w w') (hh : hi ≤ lo') : HosO lo hi w' v rs := by
  obtain ⟨css, f, hl, ho, h1, h2, h3, h4, he⟩ := h
  have hm := fun i (hi : i ≤ rs.length) => mono_up h3 i rs.length hi (Nat.le_refl _)
  refine ⟨css, f, hl, ho.only2 hb (h1.up (by have := hm 0 (Nat.zero_le _); omega)), h1, h2, h3, h4, fun i a b => ?_⟩
  obtain ⟨s, e, hs, hok⟩ := he i a b
  exact ⟨s, e, hs.only2 hb (by have := hm (i + 1) b; omega), hok⟩
theorem HosO.wide (h : HosO lo hi w v rs) (hl : lo' ≤ lo) (hh : hi ≤ hi') : HosO lo' hi' w v rs := by
  obtain ⟨css, f, a, ho, h1, h2, h3, h4, he⟩ := h
  exact ⟨css, f, a, ho.lower hl, h1, by omega, h3, by omega, he⟩
end

set_option maxHeartbeats 1000000 in
theorem toHo_any (v : Value) (r : Ho) (w : World) (h : HoV w v r) (hn : r.ser.length ≤ 1099511627776) :
    Calls Try.prog 76 #[v] w fun en w' => ∃ v', en = .returned v' ∧ HoO w.heap.size w'.heap.size w' v' r ∧ Below w.heap.size w w' := by
  obtain ⟨s, rfl, h1, hok⟩ := h
  obtain ⟨a0, a1, a2, a3, a4, a5⟩ := r
  have H1 := Lib.hid h1
  have HOK := Lib.hid hok
  clear h1 hok
  go_enter Try.func76, Try.ntmps76
  go_wp2_with (first | (go_at_call 143; refine (toIntS_any _ a3 _ (H1.out.below (below_al (below_al (below_al (Below.refl _ _) _) _) _)) hn).mono ?_; rintro en w1 ⟨v1, rfl, ho, hb'⟩; obtain ⟨sa, sn, sc, rfl⟩ := ho.slice; have hblk := (hb'.block (w.heap.size + 1 + 1) (by simp)).trans (heap_alloc_new' _ _ (by simp)); have pc0 := blk_cell hblk 0; have pf0 := blk_frozen hblk 0; simp at pc0; have pc1 := blk_cell hblk 1; have pf1 := blk_frozen hblk 1; simp at pc1; have pc2 := blk_cell hblk 2; have pf2 := blk_frozen hblk 2; simp at pc2; have pc3 := blk_cell hblk 3; have pf3 := blk_frozen hblk 3; simp at pc3; have pc4 := blk_cell hblk 4; have pf4 := blk_frozen hblk 4; simp at pc4; have pc5 := blk_cell hblk 5; have pf5 := blk_frozen hblk 5; simp at pc5; have hblq := (hb'.block (w.heap.size + 1) (by simp)).trans ((Below.heap_alloc _ _ _ (by simp)).trans (heap_alloc_new' _ _ (by simp))); have qc0 := blk_cell hblq 0; have qf0 := blk_frozen hblq 0; simp at qc0; have qc1 := blk_cell hblq 1; have qf1 := blk_frozen hblq 1; simp at qc1; have qc2 := blk_cell hblq 2; have qf2 := blk_frozen hblq 2; simp at qc2; have qc3 := blk_cell hblq 3; have qf3 := blk_frozen hblq 3; simp at qc3; have qc4 := blk_cell hblq 4; have qf4 := blk_frozen hblq 4; simp at qc4; have qc5 := blk_cell hblq 5; have qf5 := blk_frozen hblq 5; simp at qc5; have hblo := (hb'.block w.heap.size (by simp; omega)).trans ((Below.heap_alloc _ _ _ (by simp; omega)).trans ((Below.heap_alloc _ _ _ (by simp)).trans (heap_alloc_new' _ _ (by simp)))); have oc4 := blk_cell hblo 4; simp at oc4; have oc5 := blk_cell hblo 5; simp at oc5; clear hblo; have HO := Lib.hid ho; clear ho hblk hblq))
  refine bodyPost_ret (v := .agg #[.int .i64 a0, .int .i64 a1, .int .i64 a2, .slice sa sn sc, .int .i64 a4, .int .i64 a5]) (by simp [results, Try.results76, go_sem, qc0, qc1, qc2, qc3, qc4, qc5]) rfl ⟨_, rfl, ⟨_, rfl, ?_, HOK.out⟩, ?_⟩
  · have := HO.out
    exact (((((((((this.far (by simp) _).far (by simp) _).far (by simp) _).far (by simp) _).far (by simp) _).far (by simp) _).far (by simp) _).far (by simp) _).far (by simp) _).wide (by simp; omega) (by simp)
  · have hb := below_chain (below_al (below_al (below_al (Below.refl _ _) _) _) _) hb'
    exact (((((((((hb.setCell (by simp; omega) _).setCell (by simp; omega) _).setCell (by simp; omega) _).setCell (by simp) _).setCell (by simp) _).setCell (by simp) _).setCell (by simp) _).setCell (by simp) _).setCell (by simp) _)

theorem Try.info_ho : (Try.prog.info? 100).map (fun i => (i.zero, i.size, i.bytes)) = some (some (.agg #[.int .i64 0, .int .i64 0, .int .i64 0, .slice none 0 0, .int .i64 0, .int .i64 0]), 6, 64) := by kernel_rfl

/-- How much they hold. -/
def sz1Ho (x : Ho) : Nat := x.ser.length
def szHo (xs : List Ho) : Nat := (xs.map sz1Ho).sum
theorem szHo_take_succ (xs : List Ho) (k : Nat) (h : k < xs.length) : szHo (xs.take (k + 1)) = szHo (xs.take k) + sz1Ho (xs.getD k hoD) := by
  unfold szHo
  rw [List.take_add_one, List.getElem?_eq_getElem h, getHo_lt h, List.map_append, List.sum_append]
  simp only [Option.toList_some, List.map_cons, List.map_nil, List.sum_cons, List.sum_nil, Nat.add_zero]
theorem szHo_take_le (xs : List Ho) (k : Nat) : szHo (xs.take k) ≤ szHo xs := by
  have h : szHo xs = szHo (xs.take k) + szHo (xs.drop k) := by
    unfold szHo
    rw [← List.sum_append, ← List.map_append, List.take_append_drop]
  omega
theorem szHo_at (xs : List Ho) (i : Nat) (h : i < xs.length) : sz1Ho (xs.getD i hoD) ≤ szHo xs := by
  have h1 := szHo_take_succ xs i h
  have h2 := szHo_take_le xs (i + 1)
  omega
theorem sz1Ho_len (x : Ho) : x.ser.length ≤ sz1Ho x := by unfold sz1Ho; omega

set_option maxHeartbeats 2000000 in
theorem toHoS_any (v : Value) (rs : List Ho) (w : World) (h : RowR 6 rHo w v rs) (hn : rs.length + szHo rs ≤ 1048576) :
    Calls Try.prog 17 #[v] w fun en w' => ∃ v', en = .returned v' ∧ HosO w.heap.size w'.heap.size w' v' rs ∧ Below w.heap.size w w' := by
  obtain ⟨i0, hi, hz0, hz1, hz2⟩ := info_parts Try.info_ho
  obtain ⟨a1, c1, rfl, hl1, hm1, r1⟩ := h.hos
  have R1 := Lib.hid r1
  clear h r1
  unfold maxLen at hm1
  go_enter Try.func17, Try.ntmps17
  go_wp2_with (first | (at_make; refine wpList_make_full _ rfl _ _ 25 rfl w.heap.size 100 i0 _ 6 Try.underlying25 hi hz0 hz1 .i64 .i64 _ _ rs.length rfl rfl rfl rfl (by rw [hz2]; omega) (by unfold maxLen; omega) (Nat.le_refl _) ?_; intro w1 hown1 hgrow1; have HOWN := Lib.hid hown1; have HGROW := Lib.hid hgrow1; clear hown1 hgrow1))
  go_loopw [4] (fun i wr => ∃ (k : Nat) (css : List (List Value)) (f : Nat → Nat), k ≤ rs.length ∧ i = .int .i64 k ∧ css.length = rs.length ∧ Own w.heap.size 100 6 wr (.slice (some ⟨w.heap.size, 0, none⟩) rs.length rs.length) css ∧
      Hid (f 0 = w.heap.size + 1 ∧ (∀ i, i < k → f i ≤ f (i + 1)) ∧ f k ≤ wr.heap.size ∧ ∀ i (h1 : i < css.length) (h2 : i < rs.length), i < k → ∃ s, css[i] = hoC rs[i] s ∧ IntsO (f i) (f (i + 1)) wr s rs[i].ser ∧ rs[i].ok) ∧ Below w.heap.size w wr) (fun i _ => rs.length - (intOf i).toNat)
  case atStart =>
    refine ⟨0, List.replicate rs.length (#[.int .i64 0, .int .i64 0, .int .i64 0, .slice none 0 0, .int .i64 0, .int .i64 0] : Array Value).toList, fun _ => w.heap.size + 1, Nat.zero_le _, rfl, by simp, ?_, Lib.hid ⟨rfl, fun i h => absurd h (Nat.not_lt_zero _), (HOWN.out.lt _ rfl).2, fun i _ _ h => absurd h (Nat.not_lt_zero _)⟩, below_of_grow HGROW.out (Nat.le_refl _) (fun k h => by cases h)⟩
    exact Own.made (z := #[.int .i64 0, .int .i64 0, .int .i64 0, .slice none 0 0, .int .i64 0, .int .i64 0]) rfl (by omega) HOWN.out
  case round =>
    obtain ⟨k, css, f, hk, rfl, hcl, hO, I, hb⟩ := hrel
    have HO := Lib.hid hO
    have HCL := Lib.hid hcl
    by_cases hlt : k < rs.length
    · obtain ⟨b1, o1, hb1, rfl, e1⟩ := R1.out.resolve_left (fun e => by rw [e] at hlt; simp at hlt)
      obtain ⟨s, q0, q1, q2, q3, q4, q5, hr, hok⟩ := e1 k hlt
      obtain ⟨r, hx⟩ : ∃ s, rs.getD k hoD = s := ⟨_, rfl⟩
      have hsz := szHo_at rs k hlt
      rw [hx] at q0 q1 q2 q4 q5 hr hok hsz
      have hsl := sz1Ho_len r
      rw [getHo_lt hlt] at hx
      have f0 := cell_kept q0 hb
      have f1 := cell_kept q1 hb
      have f2 := cell_kept q2 hb
      have f3 := cell_kept q3 hb
      have f4 := cell_kept q4 hb
      have f5 := cell_kept q5 hb
      have HX := Lib.hid hx
      have hV : HoV wr (.agg #[.int .i64 r.id, .int .i64 r.frm, .int .i64 r.til, s, .int .i64 r.fst, .int .i64 r.lst]) r := ⟨s, rfl, hr.below hb, hok⟩
      have HV := Lib.hid hV
      have g0 : (0 : Int) ≤ (k : Int) := by omega
      have g1 : (k : Int) < (rs.length : Int) := by omega
      have hw := hb.size
      clear q0 q1 q2 q3 q4 q5 hr hok hx e1 hV hO hcl HOWN HGROW
      go_wp2_with fail
      refine (toHo_any _ r _ HV.out (by omega)).mono ?_
      rintro e w2 ⟨v2, rfl, ho, b2⟩
      obtain ⟨s2, rfl, hev, hok⟩ := ho
      obtain ⟨sa, sn, sc, rfl⟩ := hev.slice
      have hO2 := HO.out.below b2
      obtain ⟨y0, y1, y2, y3, y4, y5, hy⟩ : ∃ y0 y1 y2 y3 y4 y5, css[k]'(by rw [HCL.out]; exact hlt) = [y0, y1, y2, y3, y4, y5] := by
        have h4 := HO.out.2 _ (List.getElem_mem (by rw [HCL.out]; exact hlt : k < css.length))
        match css[k]'(by rw [HCL.out]; exact hlt), h4 with
        | [y0, y1, y2, y3, y4, y5], _ => exact ⟨_, _, _, _, _, _, rfl⟩
      have c0 := hO2.cell k 0 (by rw [HCL.out]; exact hlt) (by omega)
      have c1 := hO2.cell k 1 (by rw [HCL.out]; exact hlt) (by omega)
      have c2 := hO2.cell k 2 (by rw [HCL.out]; exact hlt) (by omega)
      have c3 := hO2.cell k 3 (by rw [HCL.out]; exact hlt) (by omega)
      have c4 := hO2.cell k 4 (by rw [HCL.out]; exact hlt) (by omega)
      have c5 := hO2.cell k 5 (by rw [HCL.out]; exact hlt) (by omega)
      rw [hy] at c0 c1 c2 c3 c4 c5
      have fr0 := hO2.frozen (k * 6)
      have fr1 := hO2.frozen (k * 6 + 1)
      have fr2 := hO2.frozen (k * 6 + 2)
      have fr3 := hO2.frozen (k * 6 + 3)
      have fr4 := hO2.frozen (k * 6 + 4)
      have fr5 := hO2.frozen (k * 6 + 5)
      simp at c0 c1 c2 c3 c4 c5
      have HO2 := Lib.hid hO2
      have HEV := Lib.hid hev
      have HOK := Lib.hid hok
      clear hO2 hev hok hy
      go_wp2_with fail
      go_roundw
      case rel =>
        have hkc : k < css.length := by rw [HCL.out]; exact hlt
        obtain ⟨p1, p2⟩ := HO2.out.put k hkc (hoC r (.slice sa sn sc)) rfl
        have hon : Only w.heap.size (w.heap.size + 1) w2 (w2.setCells w.heap.size (k * 6) (hoC r (.slice sa sn sc))) :=
          Only.of_grown (v := .slice (some ⟨w.heap.size, 0, none⟩) rs.length rs.length) p2 (fun g hg => by simp [Value.ownBlock] at hg; omega) (fun g hg => by simp [Value.ownBlock] at hg; omega)
        obtain ⟨I0, I1, I2, I3⟩ := I.out
        have hgt : w.heap.size + 1 ≤ wr.heap.size := by have := mono_up I1 0 k (Nat.zero_le _) (Nat.le_refl _); omega
        have key : ∀ i (h1 : i < (css.set k (hoC r (.slice sa sn sc))).length) (h2 : i < rs.length), i < k + 1 → ∃ s, (css.set k (hoC r (.slice sa sn sc)))[i] = hoC rs[i] s ∧ IntsO (upd f (k + 1) w2.heap.size i) (upd f (k + 1) w2.heap.size (i + 1)) (w2.setCells w.heap.size (k * 6) (hoC r (.slice sa sn sc))) s rs[i].ser ∧ rs[i].ok := by
          intro i h1 h2 h3
          rw [upd_ne f _ (by omega : i ≠ k + 1)]
          rcases Nat.lt_or_ge i k with h' | h'
          · obtain ⟨s', e1, e2, e3⟩ := I3 i (by rw [HCL.out]; exact h2) h2 h'
            rw [upd_ne f _ (by omega : i + 1 ≠ k + 1)]
            exact ⟨s', by rw [List.getElem_set_ne (by omega)]; exact e1, (e2.below b2).only hon (by rw [← I0]; exact mono_up I1 0 i (Nat.zero_le _) (by omega)), e3⟩
          · obtain rfl : i = k := by omega
            rw [upd_at]
            refine ⟨.slice sa sn sc, by rw [List.getElem_set_self, HX.out], ?_, by rw [HX.out]; exact HOK.out⟩
            rw [HX.out]
            exact (HEV.out.only hon hgt).wide I2 (Nat.le_refl _)
        refine ⟨k + 1, css.set k (hoC r (.slice sa sn sc)), upd f (k + 1) w2.heap.size, by omega, by go_num, by rw [List.length_set]; exact HCL.out, p1, Lib.hid ⟨by rw [upd_ne f _ (by omega)]; exact I0, fun i hi => ?_, by rw [upd_at]; exact p2.size, key⟩, (hb.trans (b2.mono hb.size)).grown p2 (Nat.le_trans hb.size b2.size) (fun _ h => by cases h; exact Nat.le_refl _)⟩
        rw [upd_ne f _ (by omega : i ≠ k + 1)]
        rcases Nat.lt_or_ge i k with h' | h'
        · rw [upd_ne f _ (by omega : i + 1 ≠ k + 1)]
          exact I1 i h'
        · obtain rfl : i = k := by omega
          rw [upd_at]
          exact Nat.le_trans I2 b2.size
      case measure => simp [intOf]; omega
    · clear hO
      go_wp2_with fail
      go_ret
      obtain rfl : k = rs.length := by omega
      obtain ⟨I0, I1, I2, I3⟩ := I.out
      exact ⟨_, rfl, ⟨css, f, HCL.out, HO.out, (by rw [I0]; intro g hg; simp [Value.ownBlock] at hg; omega), by omega, I1, I2, fun i h1 h2 => I3 i h1 h2 h2⟩, hb⟩
end Go.Proofs.Ytkjpehpodlpdhaa
