/- The laws' own copies of Version: what they answer, and where it lies. -/
import Derived.Test.YtmjeaciacgeioaaTyVe
import Derived.Test.YtmjeaciacgeioaaCells
import Derived.Test.YtmjeaciacgeioaaProg
import Derived.Test.YtmjeaciacgeioaaUpto
import Derived.WalkSmall
namespace Go.Proofs.Ytmjeaciacgeioaa
set_option linter.unusedVariables false
open Go.RowKit

/-- One in memory of the call's own. -/
def VeO (lo hi : Nat) (w : World) (v : Value) (r : Ve) : Prop := ∃ s, v = .agg #[.int .i64 r.frm, s] ∧ RusO lo hi w s r.rules ∧ r.ok
def veC (r : Ve) (s : Value) : List Value := [.int .i64 r.frm, s]
/-- Of the call's own: the list ahead, the rows of each one behind those of the one before it. -/
def VesO (lo hi : Nat) (w : World) (v : Value) (rs : List Ve) : Prop :=
  ∃ (css : List (List Value)) (f : Nat → Nat), css.length = rs.length ∧ Own lo 27 2 w v css ∧ Under (f 0) v ∧ lo ≤ f 0 ∧ (∀ i, i < rs.length → f i ≤ f (i + 1)) ∧ f rs.length ≤ hi ∧
    ∀ i (h1 : i < css.length) (h2 : i < rs.length), ∃ s, css[i] = veC rs[i] s ∧ RusO (f i) (f (i + 1)) w s rs[i].rules ∧ rs[i].ok
section
variable {lo hi lo' hi' : Nat} {w w' : World} {v : Value} {r : Ve} {rs : List Ve}
theorem VeO.toV (h : VeO lo hi w v r) : VeV w v r := by
  obtain ⟨s, e, h, k⟩ := h
  exact ⟨s, e, h.row, k⟩
theorem VeO.below (h : VeO lo hi w v r) (hb : Below w.heap.size w w') : VeO lo hi w' v r := by
  obtain ⟨s, e, h, k⟩ := h
  exact ⟨s, e, h.below hb, k⟩
theorem VeO.only (h : VeO lo hi w v r) (hb : Only lo' hi' w w') (hh : hi' ≤ lo) : VeO lo hi w' v r := by
  obtain ⟨s, e, h, k⟩ := h
  exact ⟨s, e, h.only hb hh, k⟩
theorem VeO.wide (h : VeO lo hi w v r) (hl : lo' ≤ lo) (hh : hi ≤ hi') : VeO lo' hi' w v r := by
  obtain ⟨s, e, h, k⟩ := h
  exact ⟨s, e, h.wide hl hh, k⟩
theorem VesO.row (h : VesO lo hi w v rs) : RowR 2 rVe w v rs := by
  obtain ⟨css, f, hl, ho, _, _, _, _, he⟩ := h
  refine ho.row hl fun i h1 h2 => ?_
  obtain ⟨s, e, hs, hok⟩ := he i h1 h2
  exact ⟨s, e, hs.row, hok⟩
theorem VesO.below (h : VesO lo hi w v rs) (hb : Below w.heap.size w w') : VesO lo hi w' v rs := by
  obtain ⟨css, f, hl, ho, h1, h2, h3, h4, he⟩ := h
  refine ⟨css, f, hl, ho.below hb, h1, h2, h3, h4, fun i a b => ?_⟩
  obtain ⟨s, e, hs, hok⟩ := he i a b
  exact ⟨s, e, hs.below hb, hok⟩
theorem VesO.only (h : VesO lo hi w v rs) (hb : Only lo' hi' w w') (hh : hi' ≤ lo) : VesO lo hi w' v rs := by
  obtain ⟨css, f, hl, ho, h1, h2, h3, h4, he⟩ := h
  refine ⟨css, f, hl, ho.only hb hh, h1, h2, h3, h4, fun i a b => ?_⟩
  obtain ⟨s, e, hs, hok⟩ := he i a b
  exact ⟨s, e, hs.only hb (by have := mono_up h3 0 i (Nat.zero_le _) (by omega); omega), hok⟩
theorem VesO.only2 (h : VesO lo hi w v rs) (hb : Only lo' hi' w w') (hh : hi ≤ lo') : VesO lo hi w' v rs := by
  obtain ⟨css, f, hl, ho, h1, h2, h3, h4, he⟩ := h
  have hm := fun i (hi : i ≤ rs.length) => mono_up h3 i rs.length hi (Nat.le_refl _)
  refine ⟨css, f, hl, ho.only2 hb (h1.up (by have := hm 0 (Nat.zero_le _); omega)), h1, h2, h3, h4, fun i a b => ?_⟩
  obtain ⟨s, e, hs, hok⟩ := he i a b
  exact ⟨s, e, hs.only2 hb (by have := hm (i + 1) b; omega), hok⟩
theorem VesO.wide (h : VesO lo hi w v rs) (hl : lo' ≤ lo) (hh : hi ≤ hi') : VesO lo' hi' w v rs := by
  obtain ⟨css, f, a, ho, h1, h2, h3, h4, he⟩ := h
  exact ⟨css, f, a, ho.lower hl, h1, by omega, h3, by omega, he⟩
end

set_option maxHeartbeats 1000000 in
theorem toVe_any (v : Value) (r : Ve) (w : World) (h : VeV w v r) (hn : r.rules.length ≤ 1099511627776) :
    Calls Try.prog 39 #[v] w fun en w' => ∃ v', en = .returned v' ∧ VeO w.heap.size w'.heap.size w' v' r ∧ Below w.heap.size w w' := by
  obtain ⟨s, rfl, h1, hok⟩ := h
  obtain ⟨a0, a1⟩ := r
  have H1 := Lib.hid h1
  have HOK := Lib.hid hok
  clear h1 hok
  go_enter Try.func39, Try.ntmps39
  go_wp2_with (first | (go_at_call 88; refine (toRuS_any _ a1 _ (H1.out.below rRu_stable (below_al (below_al (below_al (Below.refl _ _) _) _) _)) hn).mono ?_; rintro en w1 ⟨v1, rfl, ho, hb'⟩; obtain ⟨sa, sn, sc, rfl⟩ := ho.slice; have hblk := (hb'.block (w.heap.size + 1 + 1) (by simp)).trans (heap_alloc_new' _ _ (by simp)); have pc0 := blk_cell hblk 0; have pf0 := blk_frozen hblk 0; simp at pc0; have pc1 := blk_cell hblk 1; have pf1 := blk_frozen hblk 1; simp at pc1; have hblq := (hb'.block (w.heap.size + 1) (by simp)).trans ((Below.heap_alloc _ _ _ (by simp)).trans (heap_alloc_new' _ _ (by simp))); have qc0 := blk_cell hblq 0; have qf0 := blk_frozen hblq 0; simp at qc0; have qc1 := blk_cell hblq 1; have qf1 := blk_frozen hblq 1; simp at qc1; have HO := Lib.hid ho; clear ho hblk hblq))
  refine bodyPost_ret (v := .agg #[.int .i64 a0, .slice sa sn sc]) (by simp [results, Try.results39, go_sem, qc0, qc1]) rfl ⟨_, rfl, ⟨_, rfl, ?_, HOK.out⟩, ?_⟩
  · have := HO.out
    exact (((this.far (by simp) _).far (by simp) _).far (by simp) _).wide (by simp; omega) (by simp)
  · have hb := below_chain (below_al (below_al (below_al (Below.refl _ _) _) _) _) hb'
    exact (((hb.setCell (by simp; omega) _).setCell (by simp) _).setCell (by simp) _)

theorem Try.info_ve : (Try.prog.info? 27).map (fun i => (i.zero, i.size, i.bytes)) = some (some (.agg #[.int .i64 0, .slice none 0 0]), 2, 32) := by kernel_rfl

/-- How much they hold. -/
def sz1Ve (x : Ve) : Nat := x.rules.length
def szVe (xs : List Ve) : Nat := (xs.map sz1Ve).sum
theorem szVe_take_succ (xs : List Ve) (k : Nat) (h : k < xs.length) : szVe (xs.take (k + 1)) = szVe (xs.take k) + sz1Ve (xs.getD k veD) := by
  unfold szVe
  rw [List.take_add_one, List.getElem?_eq_getElem h, getVe_lt h, List.map_append, List.sum_append]
  simp only [Option.toList_some, List.map_cons, List.map_nil, List.sum_cons, List.sum_nil, Nat.add_zero]
theorem szVe_take_le (xs : List Ve) (k : Nat) : szVe (xs.take k) ≤ szVe xs := by
  have h : szVe xs = szVe (xs.take k) + szVe (xs.drop k) := by
    unfold szVe
    rw [← List.sum_append, ← List.map_append, List.take_append_drop]
  omega
theorem szVe_at (xs : List Ve) (i : Nat) (h : i < xs.length) : sz1Ve (xs.getD i veD) ≤ szVe xs := by
  have h1 := szVe_take_succ xs i h
  have h2 := szVe_take_le xs (i + 1)
  omega
theorem sz1Ve_len (x : Ve) : x.rules.length ≤ sz1Ve x := by unfold sz1Ve; omega

set_option maxHeartbeats 2000000 in
theorem toVeS_any (v : Value) (rs : List Ve) (w : World) (h : RowR 2 rVe w v rs) (hn : rs.length + szVe rs ≤ 1048576) :
    Calls Try.prog 38 #[v] w fun en w' => ∃ v', en = .returned v' ∧ VesO w.heap.size w'.heap.size w' v' rs ∧ Below w.heap.size w w' := by
  obtain ⟨i0, hi, hz0, hz1, hz2⟩ := info_parts Try.info_ve
  obtain ⟨a1, c1, rfl, hl1, hm1, r1⟩ := h.ves
  have R1 := Lib.hid r1
  clear h r1
  unfold maxLen at hm1
  go_enter Try.func38, Try.ntmps38
  go_wp2_with (first | (at_make; refine wpList_make_full _ rfl _ _ 24 rfl w.heap.size 27 i0 _ 2 Try.underlying24 hi hz0 hz1 .i64 .i64 _ _ rs.length rfl rfl rfl rfl (by rw [hz2]; omega) (by unfold maxLen; omega) (Nat.le_refl _) ?_; intro w1 hown1 hgrow1; have HOWN := Lib.hid hown1; have HGROW := Lib.hid hgrow1; clear hown1 hgrow1))
  go_loopw [4] (fun i wr => ∃ (k : Nat) (css : List (List Value)) (f : Nat → Nat), k ≤ rs.length ∧ i = .int .i64 k ∧ css.length = rs.length ∧ Own w.heap.size 27 2 wr (.slice (some ⟨w.heap.size, 0, none⟩) rs.length rs.length) css ∧
      Hid (f 0 = w.heap.size + 1 ∧ (∀ i, i < k → f i ≤ f (i + 1)) ∧ f k ≤ wr.heap.size ∧ ∀ i (h1 : i < css.length) (h2 : i < rs.length), i < k → ∃ s, css[i] = veC rs[i] s ∧ RusO (f i) (f (i + 1)) wr s rs[i].rules ∧ rs[i].ok) ∧ Below w.heap.size w wr) (fun i _ => rs.length - (intOf i).toNat)
  case atStart =>
    refine ⟨0, List.replicate rs.length (#[.int .i64 0, .slice none 0 0] : Array Value).toList, fun _ => w.heap.size + 1, Nat.zero_le _, rfl, by simp, ?_, Lib.hid ⟨rfl, fun i h => absurd h (Nat.not_lt_zero _), (HOWN.out.lt _ rfl).2, fun i _ _ h => absurd h (Nat.not_lt_zero _)⟩, below_of_grow HGROW.out (Nat.le_refl _) (fun k h => by cases h)⟩
    exact Own.made (z := #[.int .i64 0, .slice none 0 0]) rfl (by omega) HOWN.out
  case round =>
    obtain ⟨k, css, f, hk, rfl, hcl, hO, I, hb⟩ := hrel
    have HO := Lib.hid hO
    have HCL := Lib.hid hcl
    by_cases hlt : k < rs.length
    · obtain ⟨b1, o1, hb1, rfl, e1⟩ := R1.out.resolve_left (fun e => by rw [e] at hlt; simp at hlt)
      obtain ⟨s, q0, q1, hr, hok⟩ := e1 k hlt
      obtain ⟨r, hx⟩ : ∃ s, rs.getD k veD = s := ⟨_, rfl⟩
      have hsz := szVe_at rs k hlt
      rw [hx] at q0 hr hok hsz
      have hsl := sz1Ve_len r
      rw [getVe_lt hlt] at hx
      have f0 := cell_kept q0 hb
      have f1 := cell_kept q1 hb
      have HX := Lib.hid hx
      have hV : VeV wr (.agg #[.int .i64 r.frm, s]) r := ⟨s, rfl, hr.below rRu_stable hb, hok⟩
      have HV := Lib.hid hV
      have g0 : (0 : Int) ≤ (k : Int) := by omega
      have g1 : (k : Int) < (rs.length : Int) := by omega
      have hw := hb.size
      clear q0 q1 hr hok hx e1 hV hO hcl HOWN HGROW
      go_wp2_with fail
      refine (toVe_any _ r _ HV.out (by omega)).mono ?_
      rintro e w2 ⟨v2, rfl, ho, b2⟩
      obtain ⟨s2, rfl, hev, hok⟩ := ho
      obtain ⟨sa, sn, sc, rfl⟩ := hev.slice
      have hO2 := HO.out.below b2
      obtain ⟨y0, y1, hy⟩ : ∃ y0 y1, css[k]'(by rw [HCL.out]; exact hlt) = [y0, y1] := by
        have h4 := HO.out.2 _ (List.getElem_mem (by rw [HCL.out]; exact hlt : k < css.length))
        match css[k]'(by rw [HCL.out]; exact hlt), h4 with
        | [y0, y1], _ => exact ⟨_, _, rfl⟩
      have c0 := hO2.cell k 0 (by rw [HCL.out]; exact hlt) (by omega)
      have c1 := hO2.cell k 1 (by rw [HCL.out]; exact hlt) (by omega)
      rw [hy] at c0 c1
      have fr0 := hO2.frozen (k * 2)
      have fr1 := hO2.frozen (k * 2 + 1)
      simp at c0 c1
      have HO2 := Lib.hid hO2
      have HEV := Lib.hid hev
      have HOK := Lib.hid hok
      clear hO2 hev hok hy
      go_wp2_with fail
      go_roundw
      case rel =>
        have hkc : k < css.length := by rw [HCL.out]; exact hlt
        obtain ⟨p1, p2⟩ := HO2.out.put k hkc (veC r (.slice sa sn sc)) rfl
        have hon : Only w.heap.size (w.heap.size + 1) w2 (w2.setCells w.heap.size (k * 2) (veC r (.slice sa sn sc))) :=
          Only.of_grown (v := .slice (some ⟨w.heap.size, 0, none⟩) rs.length rs.length) p2 (fun g hg => by simp [Value.ownBlock] at hg; omega) (fun g hg => by simp [Value.ownBlock] at hg; omega)
        obtain ⟨I0, I1, I2, I3⟩ := I.out
        have hgt : w.heap.size + 1 ≤ wr.heap.size := by have := mono_up I1 0 k (Nat.zero_le _) (Nat.le_refl _); omega
        have key : ∀ i (h1 : i < (css.set k (veC r (.slice sa sn sc))).length) (h2 : i < rs.length), i < k + 1 → ∃ s, (css.set k (veC r (.slice sa sn sc)))[i] = veC rs[i] s ∧ RusO (upd f (k + 1) w2.heap.size i) (upd f (k + 1) w2.heap.size (i + 1)) (w2.setCells w.heap.size (k * 2) (veC r (.slice sa sn sc))) s rs[i].rules ∧ rs[i].ok := by
          intro i h1 h2 h3
          rw [upd_ne f _ (by omega : i ≠ k + 1)]
          rcases Nat.lt_or_ge i k with h' | h'
          · obtain ⟨s', e1, e2, e3⟩ := I3 i (by rw [HCL.out]; exact h2) h2 h'
            rw [upd_ne f _ (by omega : i + 1 ≠ k + 1)]
            exact ⟨s', by rw [List.getElem_set_ne (by omega)]; exact e1, (e2.below b2).only hon (by rw [← I0]; exact mono_up I1 0 i (Nat.zero_le _) (by omega)), e3⟩
          · obtain rfl : i = k := by omega
            rw [upd_at]
            refine ⟨.slice sa sn sc, by rw [List.getElem_set_self, HX.out], ?_, by rw [HX.out]; exact HOK.out⟩
            rw [HX.out]
            exact (HEV.out.only hon hgt).wide I2 (Nat.le_refl _)
        refine ⟨k + 1, css.set k (veC r (.slice sa sn sc)), upd f (k + 1) w2.heap.size, by omega, by go_num, by rw [List.length_set]; exact HCL.out, p1, Lib.hid ⟨by rw [upd_ne f _ (by omega)]; exact I0, fun i hi => ?_, by rw [upd_at]; exact p2.size, key⟩, (hb.trans (b2.mono hb.size)).grown p2 (Nat.le_trans hb.size b2.size) (fun _ h => by cases h; exact Nat.le_refl _)⟩
        rw [upd_ne f _ (by omega : i ≠ k + 1)]
        rcases Nat.lt_or_ge i k with h' | h'
        · rw [upd_ne f _ (by omega : i + 1 ≠ k + 1)]
          exact I1 i h'
        · obtain rfl : i = k := by omega
          rw [upd_at]
          exact Nat.le_trans I2 b2.size
      case measure => simp [intOf]; omega
    · clear hO
      go_wp2_with fail
      go_ret
      obtain rfl : k = rs.length := by omega
      obtain ⟨I0, I1, I2, I3⟩ := I.out
      exact ⟨_, rfl, ⟨css, f, HCL.out, HO.out, (by rw [I0]; intro g hg; simp [Value.ownBlock] at hg; omega), by omega, I1, I2, fun i h1 h2 => I3 i h1 h2 h2⟩, hb⟩
end Go.Proofs.Ytmjeaciacgeioaa
