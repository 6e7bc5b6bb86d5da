/- The laws' own copies of Format: what they answer, and where it lies. -/
import Derived.Test.YtcfghigmijibeaaTyFo
import Derived.Test.YtcfghigmijibeaaCells
import Derived.Test.YtcfghigmijibeaaProg
import Derived.Test.YtcfghigmijibeaaUpto
import Derived.WalkSmall
namespace Go.Proofs.Ytcfghigmijibeaa
set_option linter.unusedVariables false
open Go.RowKit

/-- One in memory of the call's own. -/
def FoO (lo hi : Nat) (w : World) (v : Value) (r : Fo) : Prop := ∃ s, v = .agg #[.int .i64 r.id, .string r.name, .int .i64 r.til, s] ∧ IntsO lo hi w s r.reads ∧ r.ok
def foC (r : Fo) (s : Value) : List Value := [.int .i64 r.id, .string r.name, .int .i64 r.til, s]
/-- Of the call's own: the list ahead, the rows of each one behind those of the one before it. -/
def FosO (lo hi : Nat) (w : World) (v : Value) (rs : List Fo) : Prop :=
  ∃ (css : List (List Value)) (f : Nat → Nat), css.length = rs.length ∧ Own lo 60 4 w v css ∧ Under (f 0) v ∧ lo ≤ f 0 ∧ (∀ i, i < rs.length → f i ≤ f (i + 1)) ∧ f rs.length ≤ hi ∧
    ∀ i (h1 : i < css.length) (h2 : i < rs.length), ∃ s, css[i] = foC rs[i] s ∧ IntsO (f i) (f (i + 1)) w s rs[i].reads ∧ rs[i].ok
section
variable {lo hi lo' hi' : Nat} {w w' : World} {v : Value} {r : Fo} {rs : List Fo}
theorem FoO.toV (h : FoO lo hi w v r) : FoV w v r := by
  obtain ⟨s, e, h, k⟩ := h
  exact ⟨s, e, h.row, k⟩
theorem FoO.below (h : FoO lo hi w v r) (hb : Below w.heap.size w w') : FoO lo hi w' v r := by
  obtain ⟨s, e, h, k⟩ := h
  exact ⟨s, e, h.below hb, k⟩
theorem FoO.only (h : FoO lo hi w v r) (hb : Only lo' hi' w w') (hh : hi' ≤ lo) : FoO lo hi w' v r := by
  obtain ⟨s, e, h, k⟩ := h
  exact ⟨s, e, h.only hb hh, k⟩
theorem FoO.wide (h : FoO lo hi w v r) (hl : lo' ≤ lo) (hh : hi ≤ hi') : FoO lo' hi' w v r := by
  obtain ⟨s, e, h, k⟩ := h
  exact ⟨s, e, h.wide hl hh, k⟩
theorem FosO.row (h : FosO lo hi w v rs) : RowR 4 rFo w v rs := by
  obtain ⟨css, f, hl, ho, _, _, _, _, he⟩ := h
  refine ho.row hl fun i h1 h2 => ?_
  obtain ⟨s, e, hs, hok⟩ := he i h1 h2
  exact ⟨s, e, hs.row, hok⟩
theorem FosO.below (h : FosO lo hi w v rs) (hb : Below w.heap.size w w') : FosO lo hi w' v rs := by
  obtain ⟨css, f, hl, ho, h1, h2, h3, h4, he⟩ := h
  refine ⟨css, f, hl, ho.below hb, h1, h2, h3, h4, fun i a b => ?_⟩
  obtain ⟨s, e, hs, hok⟩ := he i a b
  exact ⟨s, e, hs.below hb, hok⟩
theorem FosO.only (h : FosO lo hi w v rs) (hb : Only lo' hi' w w') (hh : hi' ≤ lo) : FosO lo hi w' v rs := by
  obtain ⟨css, f, hl, ho, h1, h2, h3, h4, he⟩ := h
  refine ⟨css, f, hl, ho.only hb hh, h1, h2, h3, h4, fun i a b => ?_⟩
  obtain ⟨s, e, hs, hok⟩ := he i a b
  exact ⟨s, e, hs.only hb (by have := mono_up h3 0 i (Nat.zero_le _) (by omega); omega), hok⟩
theorem FosO.only2 (h : FosO lo hi w v rs) (hb : Only lo' hi' w w') (hh : hi ≤ lo') : FosO lo hi w' v rs := by
  obtain ⟨css, f, hl, ho, h1, h2, h3, h4, he⟩ := h
  have hm := fun i (hi : i ≤ rs.length) => mono_up h3 i rs.length hi (Nat.le_refl _)
  refine ⟨css, f, hl, ho.only2 hb (h1.up (by have := hm 0 (Nat.zero_le _); omega)), h1, h2, h3, h4, fun i a b => ?_⟩
  obtain ⟨s, e, hs, hok⟩ := he i a b
  exact ⟨s, e, hs.only2 hb (by have := hm (i + 1) b; omega), hok⟩
theorem FosO.wide (h : FosO lo hi w v rs) (hl : lo' ≤ lo) (hh : hi ≤ hi') : FosO lo' hi' w v rs := by
  obtain ⟨css, f, a, ho, h1, h2, h3, h4, he⟩ := h
  exact ⟨css, f, a, ho.lower hl, h1, by omega, h3, by omega, he⟩
end

set_option maxHeartbeats 1000000 in
theorem toFo_any (v : Value) (r : Fo) (w : World) (h : FoV w v r) (hn : r.reads.length ≤ 1099511627776) :
    Calls Try.prog 46 #[v] w fun en w' => ∃ v', en = .returned v' ∧ FoO w.heap.size w'.heap.size w' v' r ∧ Below w.heap.size w w' := by
  obtain ⟨s, rfl, h1, hok⟩ := h
  obtain ⟨a0, a1, a2, a3⟩ := r
  have H1 := Lib.hid h1
  have HOK := Lib.hid hok
  clear h1 hok
  go_enter Try.func46, Try.ntmps46
  go_wp2_with (first | (go_at_call 74; refine (toIntS_any _ a3 _ (H1.out.below (below_al (below_al (below_al (Below.refl _ _) _) _) _)) hn).mono ?_; rintro en w1 ⟨v1, rfl, ho, hb'⟩; obtain ⟨sa, sn, sc, rfl⟩ := ho.slice; have hblk := (hb'.block (w.heap.size + 1 + 1) (by simp)).trans (heap_alloc_new' _ _ (by simp)); have pc0 := blk_cell hblk 0; have pf0 := blk_frozen hblk 0; simp at pc0; have pc1 := blk_cell hblk 1; have pf1 := blk_frozen hblk 1; simp at pc1; have pc2 := blk_cell hblk 2; have pf2 := blk_frozen hblk 2; simp at pc2; have pc3 := blk_cell hblk 3; have pf3 := blk_frozen hblk 3; simp at pc3; have hblq := (hb'.block (w.heap.size + 1) (by simp)).trans ((Below.heap_alloc _ _ _ (by simp)).trans (heap_alloc_new' _ _ (by simp))); have qc0 := blk_cell hblq 0; have qf0 := blk_frozen hblq 0; simp at qc0; have qc1 := blk_cell hblq 1; have qf1 := blk_frozen hblq 1; simp at qc1; have qc2 := blk_cell hblq 2; have qf2 := blk_frozen hblq 2; simp at qc2; have qc3 := blk_cell hblq 3; have qf3 := blk_frozen hblq 3; simp at qc3; have HO := Lib.hid ho; clear ho hblk hblq))
  refine bodyPost_ret (v := .agg #[.int .i64 a0, .string a1, .int .i64 a2, .slice sa sn sc]) (by simp [results, Try.results46, go_sem, qc0, qc1, qc2, qc3]) rfl ⟨_, rfl, ⟨_, rfl, ?_, HOK.out⟩, ?_⟩
  · have := HO.out
    exact (((((this.far (by simp) _).far (by simp) _).far (by simp) _).far (by simp) _).far (by simp) _).wide (by simp; omega) (by simp)
  · have hb := below_chain (below_al (below_al (below_al (Below.refl _ _) _) _) _) hb'
    exact (((((hb.setCell (by simp; omega) _).setCell (by simp) _).setCell (by simp) _).setCell (by simp) _).setCell (by simp) _)

theorem Try.info_fo : (Try.prog.info? 60).map (fun i => (i.zero, i.size, i.bytes)) = some (some (.agg #[.int .i64 0, .string ⟨#[]⟩, .int .i64 0, .slice none 0 0]), 4, 56) := by kernel_rfl

/-- How much they hold. -/
def sz1Fo (x : Fo) : Nat := x.name.size + x.reads.length
def szFo (xs : List Fo) : Nat := (xs.map sz1Fo).sum
theorem szFo_take_succ (xs : List Fo) (k : Nat) (h : k < xs.length) : szFo (xs.take (k + 1)) = szFo (xs.take k) + sz1Fo (xs.getD k foD) := by
  unfold szFo
  rw [List.take_add_one, List.getElem?_eq_getElem h, getFo_lt h, List.map_append, List.sum_append]
  simp only [Option.toList_some, List.map_cons, List.map_nil, List.sum_cons, List.sum_nil, Nat.add_zero]
theorem szFo_take_le (xs : List Fo) (k : Nat) : szFo (xs.take k) ≤ szFo xs := by
  have h : szFo xs = szFo (xs.take k) + szFo (xs.drop k) := by
    unfold szFo
    rw [← List.sum_append, ← List.map_append, List.take_append_drop]
  omega
theorem szFo_at (xs : List Fo) (i : Nat) (h : i < xs.length) : sz1Fo (xs.getD i foD) ≤ szFo xs := by
  have h1 := szFo_take_succ xs i h
  have h2 := szFo_take_le xs (i + 1)
  omega
theorem sz1Fo_len (x : Fo) : x.reads.length ≤ sz1Fo x := by unfold sz1Fo; omega

set_option maxHeartbeats 2000000 in
theorem toFoS_any (v : Value) (rs : List Fo) (w : World) (h : RowR 4 rFo w v rs) (hn : rs.length + szFo rs ≤ 1048576) :
    Calls Try.prog 15 #[v] w fun en w' => ∃ v', en = .returned v' ∧ FosO w.heap.size w'.heap.size w' v' rs ∧ Below w.heap.size w w' := by
  obtain ⟨i0, hi, hz0, hz1, hz2⟩ := info_parts Try.info_fo
  obtain ⟨a1, c1, rfl, hl1, hm1, r1⟩ := h.fos
  have R1 := Lib.hid r1
  clear h r1
  unfold maxLen at hm1
  go_enter Try.func15, Try.ntmps15
  go_wp2_with (first | (at_make; refine wpList_make_full _ rfl _ _ 25 rfl w.heap.size 60 i0 _ 4 Try.underlying25 hi hz0 hz1 .i64 .i64 _ _ rs.length rfl rfl rfl rfl (by rw [hz2]; omega) (by unfold maxLen; omega) (Nat.le_refl _) ?_; intro w1 hown1 hgrow1; have HOWN := Lib.hid hown1; have HGROW := Lib.hid hgrow1; clear hown1 hgrow1))
  go_loopw [4] (fun i wr => ∃ (k : Nat) (css : List (List Value)) (f : Nat → Nat), k ≤ rs.length ∧ i = .int .i64 k ∧ css.length = rs.length ∧ Own w.heap.size 60 4 wr (.slice (some ⟨w.heap.size, 0, none⟩) rs.length rs.length) css ∧
      Hid (f 0 = w.heap.size + 1 ∧ (∀ i, i < k → f i ≤ f (i + 1)) ∧ f k ≤ wr.heap.size ∧ ∀ i (h1 : i < css.length) (h2 : i < rs.length), i < k → ∃ s, css[i] = foC rs[i] s ∧ IntsO (f i) (f (i + 1)) wr s rs[i].reads ∧ rs[i].ok) ∧ Below w.heap.size w wr) (fun i _ => rs.length - (intOf i).toNat)
  case atStart =>
    refine ⟨0, List.replicate rs.length (#[.int .i64 0, .string ⟨#[]⟩, .int .i64 0, .slice none 0 0] : Array Value).toList, fun _ => w.heap.size + 1, Nat.zero_le _, rfl, by simp, ?_, Lib.hid ⟨rfl, fun i h => absurd h (Nat.not_lt_zero _), (HOWN.out.lt _ rfl).2, fun i _ _ h => absurd h (Nat.not_lt_zero _)⟩, below_of_grow HGROW.out (Nat.le_refl _) (fun k h => by cases h)⟩
    exact Own.made (z := #[.int .i64 0, .string ⟨#[]⟩, .int .i64 0, .slice none 0 0]) rfl (by omega) HOWN.out
  case round =>
    obtain ⟨k, css, f, hk, rfl, hcl, hO, I, hb⟩ := hrel
    have HO := Lib.hid hO
    have HCL := Lib.hid hcl
    by_cases hlt : k < rs.length
    · obtain ⟨b1, o1, hb1, rfl, e1⟩ := R1.out.resolve_left (fun e => by rw [e] at hlt; simp at hlt)
      obtain ⟨s, q0, q1, q2, q3, hr, hok⟩ := e1 k hlt
      obtain ⟨r, hx⟩ : ∃ s, rs.getD k foD = s := ⟨_, rfl⟩
      have hsz := szFo_at rs k hlt
      rw [hx] at q0 q1 q2 hr hok hsz
      have hsl := sz1Fo_len r
      rw [getFo_lt hlt] at hx
      have f0 := cell_kept q0 hb
      have f1 := cell_kept q1 hb
      have f2 := cell_kept q2 hb
      have f3 := cell_kept q3 hb
      have HX := Lib.hid hx
      have hV : FoV wr (.agg #[.int .i64 r.id, .string r.name, .int .i64 r.til, s]) r := ⟨s, rfl, hr.below hb, hok⟩
      have HV := Lib.hid hV
      have g0 : (0 : Int) ≤ (k : Int) := by omega
      have g1 : (k : Int) < (rs.length : Int) := by omega
      have hw := hb.size
      clear q0 q1 q2 q3 hr hok hx e1 hV hO hcl HOWN HGROW
      go_wp2_with fail
      refine (toFo_any _ r _ HV.out (by omega)).mono ?_
      rintro e w2 ⟨v2, rfl, ho, b2⟩
      obtain ⟨s2, rfl, hev, hok⟩ := ho
      obtain ⟨sa, sn, sc, rfl⟩ := hev.slice
      have hO2 := HO.out.below b2
      obtain ⟨y0, y1, y2, y3, hy⟩ : ∃ y0 y1 y2 y3, css[k]'(by rw [HCL.out]; exact hlt) = [y0, y1, y2, y3] := by
        have h4 := HO.out.2 _ (List.getElem_mem (by rw [HCL.out]; exact hlt : k < css.length))
        match css[k]'(by rw [HCL.out]; exact hlt), h4 with
        | [y0, y1, y2, y3], _ => exact ⟨_, _, _, _, rfl⟩
      have c0 := hO2.cell k 0 (by rw [HCL.out]; exact hlt) (by omega)
      have c1 := hO2.cell k 1 (by rw [HCL.out]; exact hlt) (by omega)
      have c2 := hO2.cell k 2 (by rw [HCL.out]; exact hlt) (by omega)
      have c3 := hO2.cell k 3 (by rw [HCL.out]; exact hlt) (by omega)
      rw [hy] at c0 c1 c2 c3
      have fr0 := hO2.frozen (k * 4)
      have fr1 := hO2.frozen (k * 4 + 1)
      have fr2 := hO2.frozen (k * 4 + 2)
      have fr3 := hO2.frozen (k * 4 + 3)
      simp at c0 c1 c2 c3
      have HO2 := Lib.hid hO2
      have HEV := Lib.hid hev
      have HOK := Lib.hid hok
      clear hO2 hev hok hy
      go_wp2_with fail
      go_roundw
      case rel =>
        have hkc : k < css.length := by rw [HCL.out]; exact hlt
        obtain ⟨p1, p2⟩ := HO2.out.put k hkc (foC r (.slice sa sn sc)) rfl
        have hon : Only w.heap.size (w.heap.size + 1) w2 (w2.setCells w.heap.size (k * 4) (foC r (.slice sa sn sc))) :=
          Only.of_grown (v := .slice (some ⟨w.heap.size, 0, none⟩) rs.length rs.length) p2 (fun g hg => by simp [Value.ownBlock] at hg; omega) (fun g hg => by simp [Value.ownBlock] at hg; omega)
        obtain ⟨I0, I1, I2, I3⟩ := I.out
        have hgt : w.heap.size + 1 ≤ wr.heap.size := by have := mono_up I1 0 k (Nat.zero_le _) (Nat.le_refl _); omega
        have key : ∀ i (h1 : i < (css.set k (foC r (.slice sa sn sc))).length) (h2 : i < rs.length), i < k + 1 → ∃ s, (css.set k (foC r (.slice sa sn sc)))[i] = foC rs[i] s ∧ IntsO (upd f (k + 1) w2.heap.size i) (upd f (k + 1) w2.heap.size (i + 1)) (w2.setCells w.heap.size (k * 4) (foC r (.slice sa sn sc))) s rs[i].reads ∧ rs[i].ok := by
          intro i h1 h2 h3
          rw [upd_ne f _ (by omega : i ≠ k + 1)]
          rcases Nat.lt_or_ge i k with h' | h'
          · obtain ⟨s', e1, e2, e3⟩ := I3 i (by rw [HCL.out]; exact h2) h2 h'
            rw [upd_ne f _ (by omega : i + 1 ≠ k + 1)]
            exact ⟨s', by rw [List.getElem_set_ne (by omega)]; exact e1, (e2.below b2).only hon (by rw [← I0]; exact mono_up I1 0 i (Nat.zero_le _) (by omega)), e3⟩
          · obtain rfl : i = k := by omega
            rw [upd_at]
            refine ⟨.slice sa sn sc, by rw [List.getElem_set_self, HX.out], ?_, by rw [HX.out]; exact HOK.out⟩
            rw [HX.out]
            exact (HEV.out.only hon hgt).wide I2 (Nat.le_refl _)
        refine ⟨k + 1, css.set k (foC r (.slice sa sn sc)), upd f (k + 1) w2.heap.size, by omega, by go_num, by rw [List.length_set]; exact HCL.out, p1, Lib.hid ⟨by rw [upd_ne f _ (by omega)]; exact I0, fun i hi => ?_, by rw [upd_at]; exact p2.size, key⟩, (hb.trans (b2.mono hb.size)).grown p2 (Nat.le_trans hb.size b2.size) (fun _ h => by cases h; exact Nat.le_refl _)⟩
        rw [upd_ne f _ (by omega : i ≠ k + 1)]
        rcases Nat.lt_or_ge i k with h' | h'
        · rw [upd_ne f _ (by omega : i + 1 ≠ k + 1)]
          exact I1 i h'
        · obtain rfl : i = k := by omega
          rw [upd_at]
          exact Nat.le_trans I2 b2.size
      case measure => simp [intOf]; omega
    · clear hO
      go_wp2_with fail
      go_ret
      obtain rfl : k = rs.length := by omega
      obtain ⟨I0, I1, I2, I3⟩ := I.out
      exact ⟨_, rfl, ⟨css, f, HCL.out, HO.out, (by rw [I0]; intro g hg; simp [Value.ownBlock] at hg; omega), by omega, I1, I2, fun i h1 h2 => I3 i h1 h2 h2⟩, hb⟩
end Go.Proofs.Ytcfghigmijibeaa
