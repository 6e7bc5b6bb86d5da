/- ToVe, EqVe, MarkVe, CellOnly, ChgL, in one text. -/
import Derived.Test.YtpngmheflpbnbaaTyVe
import Derived.Test.YtpngmheflpbnbaaCells
import Derived.Test.YtpngmheflpbnbaaProg
import Derived.Test.YtpngmheflpbnbaaUpto
import Derived.WalkSmall
import Derived.Test.YtpngmheflpbnbaaBytesNe
import Derived.Deep.RegionHeld3
import Derived.Test.YtpngmheflpbnbaaOwn
import Derived.Test.YtpngmheflpbnbaaChgS
import Derived.Test.YtpngmheflpbnbaaChgI
import Derived.Test.YtpngmheflpbnbaaInts
import Derived.Test.YtpngmheflpbnbaaFrame
namespace Go.Proofs.Ytpngmheflpbnbaa
set_option linter.unusedVariables false
open Go.RowKit

def VeO (lo hi : Nat) (w : World) (v : Value) (r : Ve) : Prop := ∃ s, v = .agg #[.int .i64 r.frm, s] ∧ RusO lo hi w s r.rules ∧ r.ok
def veC (r : Ve) (s : Value) : List Value := [.int .i64 r.frm, s]
def VesO (lo hi : Nat) (w : World) (v : Value) (rs : List Ve) : Prop :=
  ∃ (css : List (List Value)) (f : Nat → Nat), css.length = rs.length ∧ Own lo 67 2 w v css ∧ Under (f 0) v ∧ lo ≤ f 0 ∧ (∀ i, i < rs.length → f i ≤ f (i + 1)) ∧ f rs.length ≤ hi ∧
    ∀ i (h1 : i < css.length) (h2 : i < rs.length), ∃ s, css[i] = veC rs[i] s ∧ RusO (f i) (f (i + 1)) w s rs[i].rules ∧ rs[i].ok
section
variable {lo hi lo' hi' : Nat} {w w' : World} {v : Value} {r : Ve} {rs : List Ve}
theorem VeO.toV (h : VeO lo hi w v r) : VeV w v r := by
  obtain ⟨s, e, h, k⟩ := h
  exact ⟨s, e, h.row, k⟩
theorem VeO.below (h : VeO lo hi w v r) (hb : Below w.heap.size w w') : VeO lo hi w' v r := by
  obtain ⟨s, e, h, k⟩ := h
  exact ⟨s, e, h.below hb, k⟩
theorem VeO.only (h : VeO lo hi w v r) (hb : Only lo' hi' w w') (hh : hi' ≤ lo) : VeO lo hi w' v r := by
  obtain ⟨s, e, h, k⟩ := h
  exact ⟨s, e, h.only hb hh, k⟩
theorem VeO.wide (h : VeO lo hi w v r) (hl : lo' ≤ lo) (hh : hi ≤ hi') : VeO lo' hi' w v r := by
  obtain ⟨s, e, h, k⟩ := h
  exact ⟨s, e, h.wide hl hh, k⟩
theorem VesO.row (h : VesO lo hi w v rs) : RowR 2 rVe w v rs := by
  obtain ⟨css, f, hl, ho, _, _, _, _, he⟩ := h
  refine ho.row hl fun i h1 h2 => ?_
  obtain ⟨s, e, hs, hok⟩ := he i h1 h2
  exact ⟨s, e, hs.row, hok⟩
theorem VesO.below (h : VesO lo hi w v rs) (hb : Below w.heap.size w w') : VesO lo hi w' v rs := by
  obtain ⟨css, f, hl, ho, h1, h2, h3, h4, he⟩ := h
  refine ⟨css, f, hl, ho.below hb, h1, h2, h3, h4, fun i a b => ?_⟩
  obtain ⟨s, e, hs, hok⟩ := he i a b
  exact ⟨s, e, hs.below hb, hok⟩
theorem VesO.only (h : VesO lo hi w v rs) (hb : Only lo' hi' w w') (hh : hi' ≤ lo) : VesO lo hi w' v rs := by
  obtain ⟨css, f, hl, ho, h1, h2, h3, h4, he⟩ := h
  refine ⟨css, f, hl, ho.only hb hh, h1, h2, h3, h4, fun i a b => ?_⟩
  obtain ⟨s, e, hs, hok⟩ := he i a b
  exact ⟨s, e, hs.only hb (by have := mono_up h3 0 i (Nat.zero_le _) (by omega); omega), hok⟩
theorem VesO.only2 (h : VesO lo hi w v rs) (hb : Only lo' hi' w w') (hh : hi ≤ lo') : VesO lo hi w' v rs := by
  obtain ⟨css, f, hl, ho, h1, h2, h3, h4, he⟩ := h
  have hm := fun i (hi : i ≤ rs.length) => mono_up h3 i rs.length hi (Nat.le_refl _)
  refine ⟨css, f, hl, ho.only2 hb (h1.up (by have := hm 0 (Nat.zero_le _); omega)), h1, h2, h3, h4, fun i a b => ?_⟩
  obtain ⟨s, e, hs, hok⟩ := he i a b
  exact ⟨s, e, hs.only2 hb (by have := hm (i + 1) b; omega), hok⟩
theorem VesO.wide (h : VesO lo hi w v rs) (hl : lo' ≤ lo) (hh : hi ≤ hi') : VesO lo' hi' w v rs := by
  obtain ⟨css, f, a, ho, h1, h2, h3, h4, he⟩ := h
  exact ⟨css, f, a, ho.lower hl, h1, by omega, h3, by omega, he⟩
end

set_option maxHeartbeats 1000000 in
theorem toVe_any (v : Value) (r : Ve) (w : World) (h : VeV w v r) (hn : r.rules.length ≤ 1099511627776) :
    Calls Try.prog 40 #[v] w fun en w' => ∃ v', en = .returned v' ∧ VeO w.heap.size w'.heap.size w' v' r ∧ Below w.heap.size w w' := by
  obtain ⟨s, rfl, h1, hok⟩ := h
  obtain ⟨a0, a1⟩ := r
  have H1 := Lib.hid h1
  have HOK := Lib.hid hok
  clear h1 hok
  go_enter Try.func40, Try.ntmps40
  go_wp2_with (first | (go_at_call 72; refine (toRuS_any _ a1 _ (H1.out.below rRu_stable (below_al (below_al (below_al (Below.refl _ _) _) _) _)) hn).mono ?_; rintro en w1 ⟨v1, rfl, ho, hb'⟩; obtain ⟨sa, sn, sc, rfl⟩ := ho.slice; have hblk := (hb'.block (w.heap.size + 1 + 1) (by simp)).trans (heap_alloc_new' _ _ (by simp)); have pc0 := blk_cell hblk 0; have pf0 := blk_frozen hblk 0; simp at pc0; have pc1 := blk_cell hblk 1; have pf1 := blk_frozen hblk 1; simp at pc1; have hblq := (hb'.block (w.heap.size + 1) (by simp)).trans ((Below.heap_alloc _ _ _ (by simp)).trans (heap_alloc_new' _ _ (by simp))); have qc0 := blk_cell hblq 0; have qf0 := blk_frozen hblq 0; simp at qc0; have qc1 := blk_cell hblq 1; have qf1 := blk_frozen hblq 1; simp at qc1; have HO := Lib.hid ho; clear ho hblk hblq))
  refine bodyPost_ret (v := .agg #[.int .i64 a0, .slice sa sn sc]) (by simp [results, Try.results40, go_sem, qc0, qc1]) rfl ⟨_, rfl, ⟨_, rfl, ?_, HOK.out⟩, ?_⟩
  · have := HO.out
    exact (((this.far (by simp) _).far (by simp) _).far (by simp) _).wide (by simp; omega) (by simp)
  · have hb := below_chain (below_al (below_al (below_al (Below.refl _ _) _) _) _) hb'
    exact (((hb.setCell (by simp; omega) _).setCell (by simp) _).setCell (by simp) _)

theorem Try.info_ve : (Try.prog.info? 67).map (fun i => (i.zero, i.size, i.bytes)) = some (some (.agg #[.int .i64 0, .slice none 0 0]), 2, 32) := by kernel_rfl

def sz1Ve (x : Ve) : Nat := x.rules.length
def szVe (xs : List Ve) : Nat := (xs.map sz1Ve).sum
theorem szVe_take_succ (xs : List Ve) (k : Nat) (h : k < xs.length) : szVe (xs.take (k + 1)) = szVe (xs.take k) + sz1Ve (xs.getD k veD) := by
  unfold szVe
  rw [List.take_add_one, List.getElem?_eq_getElem h, getVe_lt h, List.map_append, List.sum_append]
  simp only [Option.toList_some, List.map_cons, List.map_nil, List.sum_cons, List.sum_nil, Nat.add_zero]
theorem szVe_take_le (xs : List Ve) (k : Nat) : szVe (xs.take k) ≤ szVe xs := by
  have h : szVe xs = szVe (xs.take k) + szVe (xs.drop k) := by
    unfold szVe
    rw [← List.sum_append, ← List.map_append, List.take_append_drop]
  omega
theorem szVe_at (xs : List Ve) (i : Nat) (h : i < xs.length) : sz1Ve (xs.getD i veD) ≤ szVe xs := by
  have h1 := szVe_take_succ xs i h
  have h2 := szVe_take_le xs (i + 1)
  omega
theorem sz1Ve_len (x : Ve) : x.rules.length ≤ sz1Ve x := by unfold sz1Ve; omega

set_option maxHeartbeats 2000000 in
theorem toVeS_any (v : Value) (rs : List Ve) (w : World) (h : RowR 2 rVe w v rs) (hn : rs.length + szVe rs ≤ 1048576) :
    Calls Try.prog 14 #[v] w fun en w' => ∃ v', en = .returned v' ∧ VesO w.heap.size w'.heap.size w' v' rs ∧ Below w.heap.size w w' := by
  obtain ⟨i0, hi, hz0, hz1, hz2⟩ := info_parts Try.info_ve
  obtain ⟨a1, c1, rfl, hl1, hm1, r1⟩ := h.ves
  have R1 := Lib.hid r1
  clear h r1
  unfold maxLen at hm1
  go_enter Try.func14, Try.ntmps14
  go_wp2_with (first | (at_make; refine wpList_make_full _ rfl _ _ 25 rfl w.heap.size 67 i0 _ 2 Try.underlying25 hi hz0 hz1 .i64 .i64 _ _ rs.length rfl rfl rfl rfl (by rw [hz2]; omega) (by unfold maxLen; omega) (Nat.le_refl _) ?_; intro w1 hown1 hgrow1; have HOWN := Lib.hid hown1; have HGROW := Lib.hid hgrow1; clear hown1 hgrow1))
  go_loopw [4] (fun i wr => ∃ (k : Nat) (css : List (List Value)) (f : Nat → Nat), k ≤ rs.length ∧ i = .int .i64 k ∧ css.length = rs.length ∧ Own w.heap.size 67 2 wr (.slice (some ⟨w.heap.size, 0, none⟩) rs.length rs.length) css ∧
      Hid (f 0 = w.heap.size + 1 ∧ (∀ i, i < k → f i ≤ f (i + 1)) ∧ f k ≤ wr.heap.size ∧ ∀ i (h1 : i < css.length) (h2 : i < rs.length), i < k → ∃ s, css[i] = veC rs[i] s ∧ RusO (f i) (f (i + 1)) wr s rs[i].rules ∧ rs[i].ok) ∧ Below w.heap.size w wr) (fun i _ => rs.length - (intOf i).toNat)
  case atStart =>
    refine ⟨0, List.replicate rs.length (#[.int .i64 0, .slice none 0 0] : Array Value).toList, fun _ => w.heap.size + 1, Nat.zero_le _, rfl, by simp, ?_, Lib.hid ⟨rfl, fun i h => absurd h (Nat.not_lt_zero _), (HOWN.out.lt _ rfl).2, fun i _ _ h => absurd h (Nat.not_lt_zero _)⟩, below_of_grow HGROW.out (Nat.le_refl _) (fun k h => by cases h)⟩
    exact Own.made (z := #[.int .i64 0, .slice none 0 0]) rfl (by omega) HOWN.out
  case round =>
    obtain ⟨k, css, f, hk, rfl, hcl, hO, I, hb⟩ := hrel
    have HO := Lib.hid hO
    have HCL := Lib.hid hcl
    by_cases hlt : k < rs.length
    · obtain ⟨b1, o1, hb1, rfl, e1⟩ := R1.out.resolve_left (fun e => by rw [e] at hlt; simp at hlt)
      obtain ⟨s, q0, q1, hr, hok⟩ := e1 k hlt
      obtain ⟨r, hx⟩ : ∃ s, rs.getD k veD = s := ⟨_, rfl⟩
      have hsz := szVe_at rs k hlt
      rw [hx] at q0 hr hok hsz
      have hsl := sz1Ve_len r
      rw [getVe_lt hlt] at hx
      have f0 := cell_kept q0 hb
      have f1 := cell_kept q1 hb
      have HX := Lib.hid hx
      have hV : VeV wr (.agg #[.int .i64 r.frm, s]) r := ⟨s, rfl, hr.below rRu_stable hb, hok⟩
      have HV := Lib.hid hV
      have g0 : (0 : Int) ≤ (k : Int) := by omega
      have g1 : (k : Int) < (rs.length : Int) := by omega
      have hw := hb.size
      clear q0 q1 hr hok hx e1 hV hO hcl HOWN HGROW
      go_wp2_with fail
      refine (toVe_any _ r _ HV.out (by omega)).mono ?_
      rintro e w2 ⟨v2, rfl, ho, b2⟩
      obtain ⟨s2, rfl, hev, hok⟩ := ho
      obtain ⟨sa, sn, sc, rfl⟩ := hev.slice
      have hO2 := HO.out.below b2
      obtain ⟨y0, y1, hy⟩ : ∃ y0 y1, css[k]'(by rw [HCL.out]; exact hlt) = [y0, y1] := by
        have h4 := HO.out.2 _ (List.getElem_mem (by rw [HCL.out]; exact hlt : k < css.length))
        match css[k]'(by rw [HCL.out]; exact hlt), h4 with
        | [y0, y1], _ => exact ⟨_, _, rfl⟩
      have c0 := hO2.cell k 0 (by rw [HCL.out]; exact hlt) (by omega)
      have c1 := hO2.cell k 1 (by rw [HCL.out]; exact hlt) (by omega)
      rw [hy] at c0 c1
      have fr0 := hO2.frozen (k * 2)
      have fr1 := hO2.frozen (k * 2 + 1)
      simp at c0 c1
      have HO2 := Lib.hid hO2
      have HEV := Lib.hid hev
      have HOK := Lib.hid hok
      clear hO2 hev hok hy
      go_wp2_with fail
      go_roundw
      case rel =>
        have hkc : k < css.length := by rw [HCL.out]; exact hlt
        obtain ⟨p1, p2⟩ := HO2.out.put k hkc (veC r (.slice sa sn sc)) rfl
        have hon : Only w.heap.size (w.heap.size + 1) w2 (w2.setCells w.heap.size (k * 2) (veC r (.slice sa sn sc))) :=
          Only.of_grown (v := .slice (some ⟨w.heap.size, 0, none⟩) rs.length rs.length) p2 (fun g hg => by simp [Value.ownBlock] at hg; omega) (fun g hg => by simp [Value.ownBlock] at hg; omega)
        obtain ⟨I0, I1, I2, I3⟩ := I.out
        have hgt : w.heap.size + 1 ≤ wr.heap.size := by have := mono_up I1 0 k (Nat.zero_le _) (Nat.le_refl _); omega
        have key : ∀ i (h1 : i < (css.set k (veC r (.slice sa sn sc))).length) (h2 : i < rs.length), i < k + 1 → ∃ s, (css.set k (veC r (.slice sa sn sc)))[i] = veC rs[i] s ∧ RusO (upd f (k + 1) w2.heap.size i) (upd f (k + 1) w2.heap.size (i + 1)) (w2.setCells w.heap.size (k * 2) (veC r (.slice sa sn sc))) s rs[i].rules ∧ rs[i].ok := by
          intro i h1 h2 h3
          rw [upd_ne f _ (by omega : i ≠ k + 1)]
          rcases Nat.lt_or_ge i k with h' | h'
          · obtain ⟨s', e1, e2, e3⟩ := I3 i (by rw [HCL.out]; exact h2) h2 h'
            rw [upd_ne f _ (by omega : i + 1 ≠ k + 1)]
            exact ⟨s', by rw [List.getElem_set_ne (by omega)]; exact e1, (e2.below b2).only hon (by rw [← I0]; exact mono_up I1 0 i (Nat.zero_le _) (by omega)), e3⟩
          · obtain rfl : i = k := by omega
            rw [upd_at]
            refine ⟨.slice sa sn sc, by rw [List.getElem_set_self, HX.out], ?_, by rw [HX.out]; exact HOK.out⟩
            rw [HX.out]
            exact (HEV.out.only hon hgt).wide I2 (Nat.le_refl _)
        refine ⟨k + 1, css.set k (veC r (.slice sa sn sc)), upd f (k + 1) w2.heap.size, by omega, by go_num, by rw [List.length_set]; exact HCL.out, p1, Lib.hid ⟨by rw [upd_ne f _ (by omega)]; exact I0, fun i hi => ?_, by rw [upd_at]; exact p2.size, key⟩, (hb.trans (b2.mono hb.size)).grown p2 (Nat.le_trans hb.size b2.size) (fun _ h => by cases h; exact Nat.le_refl _)⟩
        rw [upd_ne f _ (by omega : i ≠ k + 1)]
        rcases Nat.lt_or_ge i k with h' | h'
        · rw [upd_ne f _ (by omega : i + 1 ≠ k + 1)]
          exact I1 i h'
        · obtain rfl : i = k := by omega
          rw [upd_at]
          exact Nat.le_trans I2 b2.size
      case measure => simp [intOf]; omega
    · clear hO
      go_wp2_with fail
      go_ret
      obtain rfl : k = rs.length := by omega
      obtain ⟨I0, I1, I2, I3⟩ := I.out
      exact ⟨_, rfl, ⟨css, f, HCL.out, HO.out, (by rw [I0]; intro g hg; simp [Value.ownBlock] at hg; omega), by omega, I1, I2, fun i h1 h2 => I3 i h1 h2 h2⟩, hb⟩
end Go.Proofs.Ytpngmheflpbnbaa

namespace Go.Proofs.Ytpngmheflpbnbaa
set_option linter.unusedVariables false
open Go.RowKit

theorem szVe_one (v : Value) (x : Ve) (left : Int) (w : World) (h : VeV w v x) (h0 : 0 ≤ left) (h2 : left ≤ 1099511627776) :
    Calls Try.prog 38 #[v, .int .i64 left] w fun e w' => e = .returned (.int .i64 (if left < sz1Ve x then -1 else left - sz1Ve x)) ∧ Below w.heap.size w w' := by
  obtain ⟨s, rfl, h1, hok⟩ := h
  have hcap := h1.cap
  obtain ⟨x0, x1⟩ := x
  obtain ⟨o0⟩ := hok
  obtain ⟨z, hz⟩ : ∃ z, sz1Ve ⟨x0, x1⟩ = z := ⟨_, rfl⟩
  have hz2 : x1.length = z := hz
  rw [hz]
  have H1 := Lib.hid h1
  clear hz h1
  by_cases t1 : left < (x1.length : Int)
  · have hc : left < (z : Int) := by omega
    simp only [if_pos hc]
    clear hc
    go_enter Try.func38, Try.ntmps38
    go_wp2_with (first | (go_at_call 70; refine (szRuS_flat _ x1 _ _ (H1.out.below rRu_stable (below_al (Below.refl _ _) _)) (by omega) (by omega)).mono ?_; rw [if_pos (by omega)]; rintro e w' ⟨rfl, hb'⟩))
    go_ret
    exact ⟨rfl, below_chain (below_al (Below.refl _ _) _) hb'⟩
  · have hc : ¬ left < (z : Int) := by omega
    simp only [if_neg hc]
    clear hc
    go_enter Try.func38, Try.ntmps38
    go_wp2_with (first | (go_at_call 70; refine (szRuS_flat _ x1 _ _ (H1.out.below rRu_stable (below_al (Below.refl _ _) _)) (by omega) (by omega)).mono ?_; rw [if_neg (by omega)]; rintro e w' ⟨rfl, hb'⟩))
    go_ret
    exact ⟨ret_int (by omega), below_chain (below_al (Below.refl _ _) _) hb'⟩

set_option maxHeartbeats 1000000 in
theorem szVeS_any (v : Value) (xs : List Ve) (left : Int) (w : World) (h : RowR 2 rVe w v xs) (h0 : 0 ≤ left) (h2 : left ≤ 1099511627776) :
    Calls Try.prog 12 #[v, .int .i64 left] w fun e w' => ∃ n : Int, e = .returned (.int .i64 n) ∧ (n < 0 ∨ (xs.length : Int) + szVe xs ≤ left) ∧ (0 ≤ n ∨ n = -1) ∧ n ≤ left ∧ Below w.heap.size w w' := by
  have hcap := h.cap
  obtain ⟨a1, c1, rfl, hl1, hm1, r1⟩ := h.ves
  have R1 := Lib.hid r1
  clear h r1
  unfold maxLen at hm1
  by_cases hb : left < xs.length
  · go_enter Try.func12, Try.ntmps12
    go_wp2_with fail
    go_ret
    exact ⟨-1, rfl, Or.inl (by omega), Or.inr rfl, by omega, Below.refl _ _⟩
  · go_enter Try.func12, Try.ntmps12
    go_wp2_with fail
    go_loopw [1, 5] (fun l i wr => ∃ (k : Nat) (n : Int), k ≤ xs.length ∧ i = .int .i64 k ∧ l = .int .i64 n ∧ Hid (n = left - xs.length - szVe (xs.take k)) ∧ 0 ≤ n ∧ n ≤ left ∧ Below w.heap.size w wr) (fun _ i _ => xs.length - (intOf i).toNat)
    case atStart => exact ⟨0, left - xs.length, Nat.zero_le _, rfl, rfl, Lib.hid (by simp [szVe]), by omega, by omega, Below.refl _ _⟩
    case round =>
      obtain ⟨k, n, hk, rfl, rfl, HN, hn0, hnl, hb⟩ := hrel
      by_cases hlt : k < xs.length
      · obtain ⟨b1, o1, hb1, rfl, e1⟩ := R1.out.resolve_left (fun e => by rw [e] at hlt; simp at hlt)
        obtain ⟨s, q0, q1, hr, hok⟩ := e1 k hlt
        obtain ⟨r, hx⟩ : ∃ s, xs.getD k veD = s := ⟨_, rfl⟩
        rw [hx] at q0 hr hok
        have f0 := cell_kept q0 hb
        have f1 := cell_kept q1 hb
        have HX := Lib.hid hx
        have hV : VeV wr (.agg #[.int .i64 r.frm, s]) r := ⟨s, rfl, hr.below rRu_stable hb, hok⟩
        have HV := Lib.hid hV
        have g0 : (0 : Int) ≤ (k : Int) := by omega
        have g1 : (k : Int) < (xs.length : Int) := by omega
        have hw := hb.size
        clear q0 q1 hr hok hx e1 hV
        by_cases hfit : n < sz1Ve r
        · go_wp2_with fail
          refine (szVe_one _ r n _ HV.out hn0 (by omega)).mono ?_
          rw [if_pos (by omega)]
          rintro e w1 ⟨rfl, b2⟩
          go_wp2_with fail
          go_ret
          exact ⟨-1, rfl, Or.inl (by omega), Or.inr rfl, by omega, hb.trans (b2.mono hw)⟩
        · go_wp2_with fail
          refine (szVe_one _ r n _ HV.out hn0 (by omega)).mono ?_
          rw [if_neg (by omega)]
          rintro e w1 ⟨rfl, b2⟩
          go_wp2_with fail
          go_roundw
          case rel =>
            refine ⟨k + 1, n - sz1Ve r, by omega, by go_num, rfl, Lib.hid ?_, by omega, by omega, hb.trans (b2.mono hw)⟩
            have h1 := szVe_take_succ xs k hlt
            rw [HX.out] at h1
            have h2 := HN.out
            omega
          case measure => simp [intOf]; omega
      · obtain rfl : k = xs.length := by omega
        go_wp2_with fail
        go_ret
        refine ⟨n, rfl, Or.inr ?_, Or.inl hn0, hnl, hb⟩
        have := HN.out
        rw [List.take_length] at this
        omega

set_option maxHeartbeats 1000000 in
theorem eqVe_any (v1 v2 : Value) (a b : Ve) (w : World) (h1 : VeV w v1 a) (h2 : VeV w v2 b) :
    Calls Try.prog 42 #[v1, v2] w fun e w' => e = .returned (.bool (decide (a = b))) ∧ Below w.heap.size w w' := by
  obtain ⟨s1, rfl, h1, _⟩ := h1
  obtain ⟨s2, rfl, h2, _⟩ := h2
  obtain ⟨a0, a1⟩ := a
  obtain ⟨b0, b1⟩ := b
  have H1 := Lib.hid h1
  have H2 := Lib.hid h2
  clear h1 h2
  by_cases h0 : a0 = b0
  · subst h0
    obtain ⟨bb, hbb⟩ : ∃ bb, decide (a1 = b1) = bb := ⟨_, rfl⟩
    have hcall : ∀ W : World, Below w.heap.size w W → Calls Try.prog 76 #[s1, s2] W fun e w' => e = .returned (.bool bb) ∧ Below W.heap.size W w' := fun W hW => by
      have := eqRuS_any s1 s2 a1 b1 W (H1.out.below rRu_stable hW) (H2.out.below rRu_stable hW)
      rwa [hbb] at this
    have hgoal : decide ((⟨a0, a1⟩ : Ve) = ⟨a0, b1⟩) = bb := by rw [← hbb]; simp
    rw [hgoal]
    clear hgoal hbb
    cases bb
    all_goals
      go_enter Try.func42, Try.ntmps42
      go_wp2_with (first | (go_at_call 76; refine (hcall _ (below_al (below_al (Below.refl _ _) _) _)).mono ?_; rintro e w' ⟨rfl, hb'⟩))
      go_ret
      exact ⟨rfl, below_chain (below_al (below_al (Below.refl _ _) _) _) hb'⟩
  · have e1 : (a0 != b0) = true := by simp [h0]
    go_enter Try.func42, Try.ntmps42
    go_wp2_with fail
    go_ret
    exact ⟨ret_bool (by first | (simp; done) | simp [h0]), below_al (below_al (Below.refl _ _) _) _⟩

set_option maxHeartbeats 1000000 in
theorem eqVeS_any (v1 v2 : Value) (xs ys : List Ve) (w : World) (h1 : RowR 2 rVe w v1 xs) (h2 : RowR 2 rVe w v2 ys) :
    Calls Try.prog 16 #[v1, v2] w fun e w' => e = .returned (.bool (decide (xs = ys))) ∧ Below w.heap.size w w' := by
  have hx := h1.cap
  have hy := h2.cap
  obtain ⟨a1, c1, rfl, hl1, hm1, r1⟩ := h1.ves
  obtain ⟨a2, c2, rfl, hl2, hm2, r2⟩ := h2.ves
  clear h1 h2
  by_cases hlen : xs.length = ys.length
  · have hLen := Lib.hid hlen
    have hne : (((xs.length : Nat) : Int) != (xs.length : Int)) = false := by simp
    rw [← hlen]
    clear hlen
    have R1 := Lib.hid r1
    have R2 := Lib.hid r2
    clear r1 r2
    go_enter Try.func16, Try.ntmps16
    go_wp2
    go_loopw [5] (fun i wr => ∃ k : Nat, k ≤ xs.length ∧ i = .int .i64 k ∧ Hid (∀ j, j < k → xs.getD j veD = ys.getD j veD) ∧ Below w.heap.size w wr) (fun i _ => xs.length - (intOf i).toNat)
    case atStart => exact ⟨0, Nat.zero_le _, rfl, Lib.hid (fun j h => by omega), Below.refl _ _⟩
    case round =>
      obtain ⟨k, hk, rfl, HJ, hb⟩ := hrel
      by_cases hlt : k < xs.length
      · obtain ⟨b1, o1, hb1, rfl, e1⟩ := R1.out.resolve_left (fun e => by rw [e] at hlt; simp at hlt)
        obtain ⟨b2, o2, hb2, rfl, e2⟩ := R2.out.resolve_left (fun e => by have := hLen.out; rw [e] at this; simp at this; rw [this] at hlt; simp at hlt)
        obtain ⟨s1, q0, q1, hr1, hok1⟩ := e1 k hlt
        obtain ⟨s2, z0, z1, hr2, hok2⟩ := e2 k (by have := hLen.out; omega)
        obtain ⟨r1, hx⟩ : ∃ s, xs.getD k veD = s := ⟨_, rfl⟩
        obtain ⟨r2, hy⟩ : ∃ s, ys.getD k veD = s := ⟨_, rfl⟩
        rw [hx] at q0 hr1 hok1
        rw [hy] at z0 hr2 hok2
        have f10 := cell_kept q0 hb
        have f11 := cell_kept q1 hb
        have f20 := cell_kept z0 hb
        have f21 := cell_kept z1 hb
        have hV1 : ∀ W, Below wr.heap.size wr W → VeV W (.agg #[.int .i64 r1.frm, s1]) r1 := fun W hW => ⟨s1, rfl, (hr1.below rRu_stable hb).below rRu_stable hW, hok1⟩
        have hV2 : ∀ W, Below wr.heap.size wr W → VeV W (.agg #[.int .i64 r2.frm, s2]) r2 := fun W hW => ⟨s2, rfl, (hr2.below rRu_stable hb).below rRu_stable hW, hok2⟩
        have HV1 := Lib.hid hV1
        have HV2 := Lib.hid hV2
        have HX := Lib.hid hx
        have HY := Lib.hid hy
        have hsz := hb.size
        have g0 : (0 : Int) ≤ (k : Int) := by omega
        have g1 : (k : Int) < (xs.length : Int) := by omega
        clear q0 q1 z0 z1 hr1 hr2 hok1 hok2 e1 e2 hx hy hV1 hV2
        obtain ⟨bb, hbb⟩ : ∃ bb, decide (r1 = r2) = bb := ⟨_, rfl⟩
        have HB := Lib.hid hbb
        clear hbb
        cases bb
        all_goals
          go_wp2_with fail
          go_region_held3 (fun w' => w'.cell? ⟨b1, o1 + k * 2, none⟩ = some (.int .i64 r1.frm) ∧ w'.cell? ⟨b1, o1 + k * 2 + 1, none⟩ = some s1 ∧ w'.cell? ⟨b2, o2 + k * 2, none⟩ = some (.int .i64 r2.frm) ∧ w'.cell? ⟨b2, o2 + k * 2 + 1, none⟩ = some s2)
            (first | exact ⟨f10, f11, f20, f21⟩ | exact ⟨cell_keptd f10 b7, cell_keptd f11 b7, cell_keptd f20 b7, cell_keptd f21 b7⟩)
            (first | (go_at_call 42; refine (eqVe_any _ _ r1 r2 _ (HV1.out _ (Below.refl _ _).drew) (HV2.out _ (Below.refl _ _).drew)).mono ?_; rw [HB.out]; rintro e w7 ⟨rfl, b7⟩))
        · go_wp2_with fail
          go_ret
          refine ⟨ret_bool (Eq.symm (decide_eq_false fun e => ?_)), hb.drew.trans (b7.mono hsz)⟩
          have h1 := of_decide_eq_false HB.out
          subst e
          exact h1 (HX.out.symm.trans HY.out)
        · go_wp2_with fail
          go_roundw
          case rel =>
            refine ⟨k + 1, by omega, by go_num, Lib.hid (fun j h => ?_), hb.drew.trans (b7.mono hsz)⟩
            rcases Nat.lt_or_ge j k with h' | h'
            · exact HJ.out j h'
            · obtain rfl : j = k := by omega
              rw [HX.out, HY.out]
              exact of_decide_eq_true HB.out
          case measure => simp [intOf]; omega
      · go_wp2_with fail
        go_ret
        refine ⟨ret_bool (Eq.symm (decide_eq_true ?_)), hb⟩
        refine List.ext_getElem hLen.out fun i a b => ?_
        have := HJ.out i (by omega)
        rwa [getVe_lt a, getVe_lt b] at this
  · have hne : (((xs.length : Nat) : Int) != (ys.length : Int)) = true := by simp; omega
    rw [decide_eq_false (fun e => hlen (by rw [e]))]
    go_enter Try.func16, Try.ntmps16
    go_wp2
    go_ret
    exact ⟨rfl, Below.refl _ _⟩
end Go.Proofs.Ytpngmheflpbnbaa

namespace Go.Proofs.Ytpngmheflpbnbaa
set_option linter.unusedVariables false
open Go.RowKit

def msVe (xs : List Ve) : Nat := (xs.map (fun x => x.rules.length * 4)).sum
theorem msVe_take_succ (xs : List Ve) (k : Nat) (h : k < xs.length) : msVe (xs.take (k + 1)) = msVe (xs.take k) + xs[k].rules.length * 4 := by
  unfold msVe
  rw [List.take_add_one, List.getElem?_eq_getElem h, List.map_append, List.sum_append]
  simp only [Option.toList_some, List.map_cons, List.map_nil, List.sum_cons, List.sum_nil, Nat.add_zero]
theorem msVe_take_le (xs : List Ve) (k : Nat) : msVe (xs.take k) ≤ msVe xs := by
  have h : msVe xs = msVe (xs.take k) + msVe (xs.drop k) := by
    unfold msVe
    rw [← List.sum_append, ← List.map_append, List.take_append_drop]
  omega
theorem msVe_le (xs : List Ve) : msVe xs ≤ szVe xs * 4 := by
  induction xs with
  | nil => simp [msVe]
  | cons x xs ih =>
    have h := sz1Ve_len x
    simp only [msVe, szVe, List.map_cons, List.sum_cons] at ih ⊢
    omega

set_option maxHeartbeats 2000000 in
theorem markVeS_val (v : Value) (rs : List Ve) (lo hi k0 : Nat) (w : World) (hk0 : 1 ≤ k0) (hk1 : k0 + rs.length * 1 + msVe rs ≤ 1099511627776) (h : VesO lo hi w v rs) :
    Calls Try.prog 30 #[v, .int .i64 k0] w fun e w' => ∃ n : Nat, e = .returned (.int .i64 n) ∧ n = k0 + rs.length * 1 + msVe rs ∧ Only lo hi w w' := by
  obtain ⟨css, f, hl, ho, hu, hlo, hm, hhi, he⟩ := h
  rcases ho.form with ⟨rfl, h0⟩ | ⟨g, cap, hv, hg, hgl, hn, hmx⟩
  · have hx : rs = [] := by rw [h0] at hl; exact List.length_eq_zero_iff.1 hl.symm
    subst hx
    clear h0 ho he hl
    go_enter Try.func30, Try.ntmps30
    go_wp2
    refine wp_loop_rounds 1 ?_
    rw [rounds_succ]
    go_wp2
    go_ret
    exact ⟨k0, rfl, by simp [msVe], Only.refl _ _ _⟩
  · rw [hl] at hv hn
    subst hv
    unfold maxLen at hmx
    have hg0 : g < f 0 := hu g rfl
    have HM := Lib.hid hm
    have HL := Lib.hid hl
    have HO0 := Lib.hid ho
    have HE := Lib.hid he
    have HF := Lib.hid (And.intro hlo hhi)
    clear ho he hm hl hlo hhi hu
    go_enter Try.func30, Try.ntmps30
    go_wp2
    go_loopw [1, 5] (fun q i wr => ∃ (k n : Nat) (cs : List (List Value)), k ≤ rs.length ∧ i = .int .i64 k ∧ q = .int .i64 n ∧ Hid (n = k0 + k * 1 + msVe (rs.take k)) ∧ n ≤ 1099511627776 ∧
        Own lo 67 2 wr (.slice (some ⟨g, 0, none⟩) rs.length cap) cs ∧ Hid (cs.length = rs.length ∧ ∀ i (h1 : i < cs.length) (h2 : i < rs.length), k ≤ i → ∃ s, cs[i] = veC rs[i] s ∧ RusO (f i) (f (i + 1)) wr s rs[i].rules) ∧ Only lo hi w wr) (fun _ i _ => rs.length - (intOf i).toNat)
    case atStart => exact ⟨0, k0, css, Nat.zero_le _, rfl, rfl, Lib.hid (by simp [msVe]), by omega, HO0.out, Lib.hid ⟨HL.out, fun i h1 h2 _ => by obtain ⟨s, e1, e2, _⟩ := HE.out i h1 h2; exact ⟨s, e1, e2⟩⟩, Only.refl _ _ _⟩
    case round =>
      obtain ⟨k, n, cs, hk, rfl, rfl, HN, hnb, hO, I, hOn⟩ := hrel
      have HO := Lib.hid hO
      by_cases hlt : k < rs.length
      · obtain ⟨r, hx⟩ : ∃ r, rs[k] = r := ⟨_, rfl⟩
        obtain ⟨s, e1, e2⟩ := I.out.2 k (by rw [I.out.1]; exact hlt) hlt (Nat.le_refl _)
        obtain ⟨sa, sn, sc, rfl⟩ := e2.slice
        rw [hx] at e1 e2
        simp only [veC] at e1
        have hkc : k < cs.length := by rw [I.out.1]; exact hlt
        have HKC := Lib.hid hkc
        have HX := Lib.hid hx
        have E2 := Lib.hid e2
        have HI : Hid (Own lo 67 2 wr (.slice (some ⟨g, 0, none⟩) rs.length cap) cs ∧ ∃ h : k < cs.length, cs[k] = [.int .i64 r.frm, .slice sa sn sc]) := ⟨HO.out, hkc, e1⟩
        have HON : Hid (Only g (g + 1) wr wr) := Lib.hid (Only.refl _ _ _)
        have g0 : (0 : Int) ≤ (k : Int) := by omega
        have g1 : (k : Int) < (rs.length : Int) := by omega
        have hszk := msVe_take_succ rs k hlt
        have hszl := msVe_take_le rs (k + 1)
        rw [hx] at hszk
        have hnn : n + 1 + r.rules.length * 4 ≤ 1099511627776 := by have := HN.out; omega
        have HSZ := Lib.hid hszk
        have c0 := HI.out.1.cell k 0 HI.out.2.1 (by omega)
        have c1 := HI.out.1.cell k 1 HI.out.2.1 (by omega)
        rw [HI.out.2.2] at c0 c1
        simp at c0 c1
        have fr0 := HI.out.1.frozen (k * 2)
        have fr1 := HI.out.1.frozen (k * 2 + 1)
        clear hO e1 e2 hx hszk hszl hkc HO
        go_wp2_with fail
        obtain ⟨p1, p2⟩ := Own.puts [.int .i64 ((n : Int))] _ _ k 0 HI.out.2.1 (by simp) HI.out.1
        rw [HI.out.2.2] at p1
        simp only [setFrom, List.set_cons_zero, Nat.add_zero] at p1 p2
        replace HI : Hid (Own lo 67 2 _ (.slice (some ⟨g, 0, none⟩) rs.length cap) (cs.set k [.int .i64 ((n : Int)), .slice sa sn sc]) ∧ ∃ h : k < (cs.set k [.int .i64 ((n : Int)), .slice sa sn sc]).length, (cs.set k [.int .i64 ((n : Int)), .slice sa sn sc])[k] = [.int .i64 ((n : Int)), .slice sa sn sc]) := ⟨p1, by simpa using HKC.out, by rw [List.getElem_set_self]⟩
        replace HON := Lib.hid (HON.out.trans (Only.of_grown (lo := g) (hi := g + 1) (v := .slice (some ⟨g, 0, none⟩) rs.length cap) p2 (fun g' hg' => by simp [Value.ownBlock] at hg'; omega) (fun g' hg' => by simp [Value.ownBlock] at hg'; omega)))
        clear p1 p2
        have hon := HON.out
        have hmk : ∀ i, i ≤ rs.length → g + 1 ≤ f i := fun i hi => Nat.le_trans hg0 (mono_up HM.out 0 i (Nat.zero_le _) hi)
        have hev := E2.out.only hon (hmk k (by omega))
        (first | rw [show (n : Int) + 1 = ((n + 1 : Nat) : Int) by omega] | rw [show (n : Int) + 1 = ((n + 1 : Nat) : Int) by omega])
        refine (markRuS_any _ r.rules (f k) (f (k + 1)) (n + 1) _ (by omega) (by omega) hev).mono ?_
        rintro e w2 ⟨rfl, _, hon2⟩
        clear hev
        go_wp2_with fail
        go_roundw
        case rel =>
          have hfl : lo ≤ f k := Nat.le_trans HF.out.1 (mono_up HM.out 0 k (Nat.zero_le _) (by omega))
          have hfh : f (k + 1) ≤ hi := Nat.le_trans (mono_up HM.out (k + 1) rs.length (by omega) (Nat.le_refl _)) HF.out.2
          have hgh : g + 1 ≤ hi := Nat.le_trans (hmk rs.length (Nat.le_refl _)) HF.out.2
          refine ⟨k + 1, n + 1 + r.rules.length * 4, _, by omega, by go_num, by go_num, Lib.hid (by have h1 := HN.out; have h2 := HSZ.out; omega), hnn, HI.out.1.only2 hon2 (fun g' hg' => by simp [Value.ownBlock] at hg'; have := hmk k (by omega); omega),
            Lib.hid ⟨by simpa using I.out.1, fun i h1 h2 h3 => ?_⟩, (hOn.trans (hon.wide hg hgh)).trans (hon2.wide hfl hfh)⟩
          obtain ⟨s, q1, q2⟩ := I.out.2 i (by rw [I.out.1]; exact h2) h2 (by omega)
          exact ⟨s, by simpa [List.getElem_set_ne (show k ≠ i by omega)] using q1, (q2.only hon (hmk i (by omega))).only hon2 (mono_up HM.out (k + 1) i h3 (by omega))⟩
        case measure => simp [intOf]; omega
      · clear hO
        go_wp2_with fail
        go_ret
        exact ⟨n, rfl, by have h1 := HN.out; obtain rfl : k = rs.length := (by omega); rwa [List.take_length] at h1, hOn⟩
end Go.Proofs.Ytpngmheflpbnbaa

namespace Go.Proofs.Ytpngmheflpbnbaa
set_option linter.unusedVariables false
open Go.RowKit
theorem cell_only {lo hi b j : Nat} {w w' : World} {v : Value} (h : Only lo hi w w') (hc : w.cell? ⟨b, j, none⟩ = some v) (hb : b < lo ∨ hi ≤ b) : w'.cell? ⟨b, j, none⟩ = some v :=
  (World.cell?_of_block (h.block b (World.block_lt_of_cell? _ _ hc) hb)).trans hc
end Go.Proofs.Ytpngmheflpbnbaa

namespace Go.Proofs.Ytpngmheflpbnbaa
set_option linter.unusedVariables false
open Go.ChangeShapes Go.WideShapes Go.ChangeAt Go.RowKit

set_option maxRecDepth 20000 in
set_option maxHeartbeats 8000000 in
theorem walkChangedSeries (v0 : Value) (l : List Ve) (v1 : Value) (k : Int) (W : World) (h0 : RowR 2 rVe W v0 l) (h1 : v1 = .int .i64 k ∧ inI k) :
    Calls Try.prog 9 #[v0, v1] W fun e w' => e = .returned (.bool true) ∧ Below W.heap.size W w' := by
  have HA0 := Lib.hid (show ∀ W', Below W.heap.size W W' → RowR 2 rVe W' v0 l from fun W' hb => h0.below rVe_stable hb)
  clear h0
  obtain ⟨rfl, k1⟩ := h1
  obtain ⟨xs, b, hb⟩ : ∃ xs b, chgRes l k = (xs, b) := ⟨_, _, rfl⟩
  have HB := Lib.hid hb
  have hxl : xs.length ≤ 99 := chgRes_len hb
  have HXL := Lib.hid hxl
  clear hb hxl
  have eb_b : (b != b) = false := by simp
  go_enter Try.func9, Try.ntmps9
  go_wp2_with fail
  have HBW : Hid (Below W.heap.size W W) := Lib.hid (Below.refl _ _)
  go_wp2_with fail
  refine (szVeS_any _ l 1048576 _ (HA0.out _ HBW.out) (by omega) (by omega)).mono ?_
  rintro e w1 ⟨n0, rfl, hf0, hp0, hq0, b1⟩
  have sz1 := b1.size
  replace HBW := Lib.hid (HBW.out.trans (b1.mono HBW.out.size))
  clear b1 
  have HF0 := Lib.hid hf0
  have HP0 := Lib.hid hp0
  clear hf0 hp0
  by_cases hs0 : n0 < 0
  · go_wp2_with fail
    go_ret
    exact ⟨rfl, HBW.out⟩
  · have hl0 : l.length + szVe l ≤ 1048576 := by have := HF0.out; omega
    have hn00 : 0 ≤ n0 := by omega
    have hxt0 := msVe_le l
    go_wp2_with fail
    refine (toVeS_any _ l _ (HA0.out _ HBW.out) (by omega)).mono ?_
    rintro e w2 ⟨s0, rfl, hos0, b2⟩
    have HOs0 := Lib.hid hos0
    clear hos0
    have sz2 := b2.size
    replace HBW := Lib.hid (HBW.out.trans (b2.mono HBW.out.size))
    clear b2 
    go_wp2_with fail
    refine (specChangedSeries_any _ l k _ HOs0.out.row xs b HB.out).mono ?_
    rintro e w3 ⟨vsp, rfl, hsp, b3⟩
    have Hsp := Lib.hid hsp
    clear hsp
    have sz3 := b3.size
    replace HOs0 := Lib.hid (HOs0.out.below b3)
    replace HBW := Lib.hid (HBW.out.trans (b3.mono HBW.out.size))
    clear b3 
    clear HOs0
    go_wp2_with fail
    refine (toVeS_any _ l _ (HA0.out _ HBW.out) (by omega)).mono ?_
    rintro e w4 ⟨x0, rfl, hox0, b4⟩
    have HOx0 := Lib.hid hox0
    clear hox0
    have sz4 := b4.size
    replace Hsp := Lib.hid (Hsp.out.below b4)
    replace HBW := Lib.hid (HBW.out.trans (b4.mono HBW.out.size))
    clear b4 
    go_wp2_with fail
    refine (implChangedSeries_any _ l k _ HOx0.out.row xs b HB.out).mono ?_
    rintro e w5 ⟨vg, rfl, hg, b5⟩
    have Hg := Lib.hid hg
    clear hg
    have sz5 := b5.size
    replace Hsp := Lib.hid (Hsp.out.below b5)
    replace HOx0 := Lib.hid (HOx0.out.below b5)
    replace HBW := Lib.hid (HBW.out.trans (b5.mono HBW.out.size))
    clear b5 
    go_wp2_with fail
    refine (eqIntS_any _ _ xs xs _ Hg.out.row Hsp.out.row).mono ?_
    rw [decide_eq_true rfl]
    rintro e w6 ⟨rfl, b6⟩
    have sz6 := b6.size
    replace Hsp := Lib.hid (Hsp.out.below b6)
    replace HOx0 := Lib.hid (HOx0.out.below b6)
    replace Hg := Lib.hid (Hg.out.below b6)
    replace HBW := Lib.hid (HBW.out.trans (b6.mono HBW.out.size))
    clear b6 
    go_wp2_with fail
    refine (toVeS_any _ l _ (HA0.out _ HBW.out) (by omega)).mono ?_
    rintro e w7 ⟨vq0, rfl, hq0_, b7⟩
    have HQ0 := Lib.hid hq0_
    clear hq0_
    have sz7 := b7.size
    replace Hsp := Lib.hid (Hsp.out.below b7)
    replace HOx0 := Lib.hid (HOx0.out.below b7)
    replace Hg := Lib.hid (Hg.out.below b7)
    replace HBW := Lib.hid (HBW.out.trans (b7.mono HBW.out.size))
    clear b7 
    go_wp2_with fail
    refine (eqVeS_any _ _ l l _ HOx0.out.row HQ0.out.row).mono ?_
    rw [decide_eq_true rfl]
    rintro e w8 ⟨rfl, b8⟩
    have sz8 := b8.size
    replace Hsp := Lib.hid (Hsp.out.below b8)
    replace HOx0 := Lib.hid (HOx0.out.below b8)
    replace Hg := Lib.hid (Hg.out.below b8)
    replace HQ0 := Lib.hid (HQ0.out.below b8)
    replace HBW := Lib.hid (HBW.out.trans (b8.mono HBW.out.size))
    clear b8 
    clear HQ0
    have szW := HBW.out.size
    go_wp2_with fail
    refine (markVeS_val _ l _ _ (1) _ (by omega) (by omega) HOx0.out).mono ?_
    rintro e w9 ⟨kn0, rfl, hkn0, on9⟩
    have sz9 := on9.size
    replace Hsp := Lib.hid (Hsp.out.only2 on9 (by omega))
    replace Hg := Lib.hid (Hg.out.only on9 (by omega))
    replace HBW := Lib.hid (HBW.out.trans ((on9.below (by omega)).mono (by omega)))
    clear on9 
    have HKN0 := Lib.hid hkn0
    have hkb0 : 1 ≤ kn0 := by omega
    have hkc0 : kn0 ≤ 16777216 := by omega
    clear hkn0
    have kn0 : (0 : Int) ≤ ((kn0 : Nat) : Int) := by omega
    go_wp2_with fail
    refine (eqIntS_any _ _ xs xs _ Hg.out.row Hsp.out.row).mono ?_
    rw [decide_eq_true rfl]
    rintro e w10 ⟨rfl, b10⟩
    have sz10 := b10.size
    replace Hsp := Lib.hid (Hsp.out.below b10)
    replace Hg := Lib.hid (Hg.out.below b10)
    replace HBW := Lib.hid (HBW.out.trans (b10.mono HBW.out.size))
    clear b10 
    have hxl := HXL.out
    go_wp2_with fail
    refine (markIntS_any _ xs _ _ 1 _ (Nat.le_refl _) (by omega) Hg.out).mono ?_
    rintro e w11 ⟨rfl, hg2, on11⟩
    have sz11 := on11.size
    replace Hsp := Lib.hid (Hsp.out.only2 on11 (by omega))
    have HG2 := Lib.hid hg2
    clear hg2 Hg
    replace HBW := Lib.hid (HBW.out.trans ((on11.below (by omega)).mono (by omega)))
    clear on11 
    have en : (((1 + xs.length : Nat) : Int) != ((1 + xs.length : Nat) : Int)) = false := by simp
    go_wp2_with fail
    refine (heldIntS_any _ 1 xs.length _ (Nat.le_refl _) (by omega) HG2.out.row).mono ?_
    rintro e w12 ⟨rfl, b12⟩
    have sz12 := b12.size
    replace Hsp := Lib.hid (Hsp.out.below b12)
    replace HG2 := Lib.hid (HG2.out.below b12)
    replace HBW := Lib.hid (HBW.out.trans (b12.mono HBW.out.size))
    clear b12 
    go_wp2_with fail
    refine (toVeS_any _ l _ (HA0.out _ HBW.out) (by omega)).mono ?_
    rintro e w13 ⟨y0, rfl, hoy0, b13⟩
    have HOy0 := Lib.hid hoy0
    clear hoy0
    have sz13 := b13.size
    replace Hsp := Lib.hid (Hsp.out.below b13)
    replace HG2 := Lib.hid (HG2.out.below b13)
    replace HBW := Lib.hid (HBW.out.trans (b13.mono HBW.out.size))
    clear b13 
    go_wp2_with fail
    refine (implChangedSeries_any _ l k _ HOy0.out.row xs b HB.out).mono ?_
    rintro e w14 ⟨vh, rfl, hh, b14⟩
    have Hh := Lib.hid hh
    clear hh
    have sz14 := b14.size
    replace Hsp := Lib.hid (Hsp.out.below b14)
    replace HG2 := Lib.hid (HG2.out.below b14)
    replace HOy0 := Lib.hid (HOy0.out.below b14)
    replace HBW := Lib.hid (HBW.out.trans (b14.mono HBW.out.size))
    clear b14 
    go_wp2_with fail
    refine (eqIntS_any _ _ xs xs _ Hh.out.row Hsp.out.row).mono ?_
    rw [decide_eq_true rfl]
    rintro e w15 ⟨rfl, b15⟩
    have sz15 := b15.size
    replace Hsp := Lib.hid (Hsp.out.below b15)
    replace HG2 := Lib.hid (HG2.out.below b15)
    replace HOy0 := Lib.hid (HOy0.out.below b15)
    replace Hh := Lib.hid (Hh.out.below b15)
    replace HBW := Lib.hid (HBW.out.trans (b15.mono HBW.out.size))
    clear b15 
    go_wp2_with fail
    refine (heldIntS_any _ 1 xs.length _ (Nat.le_refl _) (by omega) HG2.out.row).mono ?_
    rintro e w16 ⟨rfl, b16⟩
    have sz16 := b16.size
    replace Hsp := Lib.hid (Hsp.out.below b16)
    replace HG2 := Lib.hid (HG2.out.below b16)
    replace HOy0 := Lib.hid (HOy0.out.below b16)
    replace Hh := Lib.hid (Hh.out.below b16)
    replace HBW := Lib.hid (HBW.out.trans (b16.mono HBW.out.size))
    clear b16 
    go_wp2_with fail
    go_ret
    exact ⟨rfl, HBW.out⟩

set_option maxRecDepth 100000 in
theorem fnExactChangedSeries_lifted (os : Os) (started : os.Started) (H : Type) (enc : TypeId × Value → H) :
    ReturnsInHanded {} Try.checked os 9 .any (Rows.fnExactChangedSeriesSpec.pre6 enc Try.prog Try.f9 Rows.fnExactChangedSeriesRow.domain false) (Rows.fnExactChangedSeriesSpec.post enc Try.prog Try.f9 false true false false) := by
  refine returnsInHanded_of_change (C := Try.checked) Try.own started (by kernel_rfl) Try.func9
    (ChangeSpec.witness6 (enc := enc) (C := Try.checked) false ⟨#[], #[.slice none 0 0, .int .i64 0], []⟩ 8 (by kernel_rfl) (by kernel_rfl) (by kernel_rfl) (by kernel_rfl)) ?_
  intro W base args ds gs before hval0 hW hcnd _
  have hval : ∀ (j : Nat) t v, Try.f9.params[j]? = some t → args[j]? = some v → Value.okWide Try.prog W .any base t v := hval0
  have hW' := hW
  obtain ⟨p, q, hA0, hV, rfl, hfz, hnd⟩ := hW
  have hA : DataW.TrodAll enc Try.prog W 0 (fun _ => true) true Try.f9.params.toList args.toList ds p := hA0
  rw [Try.params9] at hA hval
  obtain ⟨v0, vs0, d0, ds0, p0, q0, hargs, rfl, rfl, h0, r0⟩ := trodAll_cons hA
  obtain ⟨v1, vs1, d1, ds1, p1, q1, rfl, rfl, rfl, h1, r1⟩ := trodAll_cons r0
  obtain ⟨rfl, rfl, rfl⟩ := trodAll_nil r1
  obtain rfl : args = #[v0, v1] := by cases args; simp_all
  obtain ⟨rfl, rfl⟩ := trodVars_none hV
  obtain ⟨x0, w0⟩ := arg_ves (hval 0 22 v0 rfl rfl) h0
  have lt0 : ∀ x ∈ p0, x.block < W.heap.size := by obtain ⟨m, hm⟩ := h0; exact DataW.trod_lt m _ _ _ hm
  obtain ⟨x1, w1⟩ := arg_int (hval 1 3 v1 rfl rfl) h1
  have lt1 : ∀ x ∈ p1, x.block < W.heap.size := by obtain ⟨m, hm⟩ := h1; exact DataW.trod_lt m _ _ _ hm
  clear hA0 hval0
  refine (walkChangedSeries v0 x0 v1 x1 W w0 w1).mono fun e W' ⟨he, bel⟩ => ?_
  subst he
  exact ⟨_, rfl, _, _, _, [], _, [], hW', trodAll_mk1 (shut_bool Try.underlying4 _), (trodAll_cons_mk (Below.trod Try.laidOut (by kernel_rfl) (of_decide_eq_true (by kernel_rfl)) h0 bel lt0) (trodAll_cons_mk (Below.trod Try.laidOut (by kernel_rfl) (of_decide_eq_true (by kernel_rfl)) h1 bel lt1) trodAll_mk0)), rfl, bel.frame _, fun h => by cases h⟩

theorem fnExactChangedSeries_proved : Rows.FnExactChangedSeriesSaid :=
  OpenClaim.holds_of_wide 9 Try.f9 rfl rfl rfl rfl rfl rfl rfl ⟨rfl, rfl, rfl, rfl, rfl⟩ rfl rfl rfl rfl rfl (by kernel_rfl) Try.func9 (by kernel_rfl)
    (of_decide_eq_true (by kernel_rfl)) (by unfold Func.isWrapper; first | (rw [if_pos (by decide +kernel)]; kernel_rfl) | (rw [if_neg (by decide +kernel)]; exact ⟨rfl, rfl⟩))
    (fun os started H enc _ => fnExactChangedSeries_lifted os started H enc)
end Go.Proofs.Ytpngmheflpbnbaa
