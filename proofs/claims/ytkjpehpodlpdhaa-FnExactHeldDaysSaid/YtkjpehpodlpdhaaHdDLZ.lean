/- Recs, Box4, CellOnly, HdDL, in one text. -/
import Derived.Test.YtkjpehpodlpdhaaEqRec
import Derived.Test.YtkjpehpodlpdhaaRecM
import Derived.Deep.RegionHeld3
import Derived.Test.YtkjpehpodlpdhaaToRec
import Derived.Deep.DeepCutAuto
import Derived.Test.YtkjpehpodlpdhaaOwn
import Derived.Test.YtkjpehpodlpdhaaCells
import Derived.Test.YtkjpehpodlpdhaaHo7S
import Derived.Test.YtkjpehpodlpdhaaHo7I
import Derived.Test.YtkjpehpodlpdhaaEqHo
import Derived.Test.YtkjpehpodlpdhaaMarkHo
import Derived.Test.YtkjpehpodlpdhaaMarkRec
import Derived.Test.YtkjpehpodlpdhaaFrame
namespace Go.Proofs.Ytkjpehpodlpdhaa
set_option linter.unusedVariables false
open Go.RowKit

theorem RowR.recs {w : World} {v : Value} {rs : List Rec} (h : RowR 4 rRec w v rs) : ∃ a cap, v = .slice a rs.length cap ∧ rs.length ≤ cap ∧ cap ≤ maxLen ∧
    (rs = [] ∨ ∃ b off, b < w.heap.size ∧ a = some ⟨b, off, none⟩ ∧ ∀ i, i < rs.length → ∃ s, w.cell? ⟨b, off + i * 4, none⟩ = some (.int .i64 (rs.getD i recD).id) ∧ w.cell? ⟨b, off + i * 4 + 1, none⟩ = some (.int .i64 (rs.getD i recD).series) ∧
      w.cell? ⟨b, off + i * 4 + 2, none⟩ = some (.int .i64 (rs.getD i recD).made) ∧ w.cell? ⟨b, off + i * 4 + 3, none⟩ = some s ∧ RowR 2 rEv w s (rs.getD i recD).evs ∧ (rs.getD i recD).ok) := by
  obtain ⟨a, cap, rfl, h1, h2, h3⟩ := h
  refine ⟨a, cap, rfl, h1, h2, h3.imp id ?_⟩
  rintro ⟨b, off, hlt, rfl, hc⟩
  refine ⟨b, off, hlt, rfl, fun i hi => ?_⟩
  obtain ⟨cs, hl, hcs, s, rfl, hr, hok⟩ := hc i hi
  have f0 := hcs 0 (by omega)
  have f1 := hcs 1 (by omega)
  have f2 := hcs 2 (by omega)
  have f3 := hcs 3 (by omega)
  simp only [List.getElem_cons_zero, List.getElem_cons_succ, Nat.add_zero] at f0 f1 f2 f3
  rw [getDr_lt hi]
  exact ⟨s, f0, f1, f2, f3, hr, hok⟩

def szR (rs : List Rec) : Nat := (rs.map (fun r => r.evs.length)).sum
theorem szR_take_succ (rs : List Rec) (k : Nat) (h : k < rs.length) : szR (rs.take (k + 1)) = szR (rs.take k) + (rs.getD k recD).evs.length := by
  unfold szR
  rw [List.take_add_one, List.getElem?_eq_getElem h, getDr_lt h, List.map_append, List.sum_append]
  simp only [Option.toList_some, List.map_cons, List.map_nil, List.sum_cons, List.sum_nil, Nat.add_zero]
theorem szR_take_le (rs : List Rec) (k : Nat) : szR (rs.take k) ≤ szR rs := by
  have h : szR rs = szR (rs.take k) + szR (rs.drop k) := by
    unfold szR
    rw [← List.sum_append, ← List.map_append, List.take_append_drop]
  omega
theorem szR_at (rs : List Rec) (i : Nat) (h : i < rs.length) : (rs.getD i recD).evs.length ≤ szR rs := by
  have h1 := szR_take_succ rs i h
  have h2 := szR_take_le rs (i + 1)
  omega

set_option maxHeartbeats 1000000 in
/-- The size: what is left over, or -1. -/
theorem szRecordS_any (v : Value) (rs : List Rec) (left : Int) (w : World) (h : RowR 4 rRec w v rs) (h0 : 0 ≤ left) (h2 : left ≤ 1099511627776) :
    Calls Try.prog 35 #[v, .int .i64 left] w fun e w' => ∃ n : Int, e = .returned (.int .i64 n) ∧ (n < 0 ∨ (rs.length : Int) + szR rs ≤ left) ∧ (0 ≤ n ∨ n = -1) ∧ n ≤ left ∧ Below w.heap.size w w' := by
  have hcap := h.cap
  obtain ⟨a1, c1, rfl, hl1, hm1, r1⟩ := h.recs
  have R1 := Lib.hid r1
  clear h r1
  unfold maxLen at hm1
  by_cases hb : left < rs.length
  · go_enter Try.func35, Try.ntmps35
    go_wp2_with fail
    go_ret
    exact ⟨-1, rfl, Or.inl (by omega), Or.inr rfl, by omega, Below.refl _ _⟩
  · go_enter Try.func35, Try.ntmps35
    go_wp2_with fail
    go_loopw [1, 5] (fun l i wr => ∃ (k : Nat) (n : Int), k ≤ rs.length ∧ i = .int .i64 k ∧ l = .int .i64 n ∧ Hid (n = left - rs.length - szR (rs.take k)) ∧ 0 ≤ n ∧ n ≤ left ∧ Below w.heap.size w wr) (fun _ i _ => rs.length - (intOf i).toNat)
    case atStart => exact ⟨0, left - rs.length, Nat.zero_le _, rfl, rfl, Lib.hid (by simp [szR]), by omega, by omega, Below.refl _ _⟩
    case round =>
      obtain ⟨k, n, hk, rfl, rfl, HN, hn0, hnl, hb⟩ := hrel
      by_cases hlt : k < rs.length
      · obtain ⟨b1, o1, hb1, rfl, e1⟩ := R1.out.resolve_left (fun e => by rw [e] at hlt; simp at hlt)
        obtain ⟨s, q0, q1, q2, q3, hr, hok⟩ := e1 k hlt
        obtain ⟨r, hx⟩ : ∃ s, rs.getD k recD = s := ⟨_, rfl⟩
        rw [hx] at q0 q1 q2 hr hok
        have f0 := cell_kept q0 hb
        have f1 := cell_kept q1 hb
        have f2 := cell_kept q2 hb
        have f3 := cell_kept q3 hb
        have HX := Lib.hid hx
        have hV : RecV wr (.agg #[.int .i64 r.id, .int .i64 r.series, .int .i64 r.made, s]) r := ⟨s, rfl, hr.below rEv_stable hb, hok⟩
        have HV := Lib.hid hV
        have g0 : (0 : Int) ≤ (k : Int) := by omega
        have g1 : (k : Int) < (rs.length : Int) := by omega
        have hw := hb.size
        clear q0 q1 q2 q3 hr hok hx e1 hV
        by_cases hfit : n < r.evs.length
        · go_wp2_with fail
          refine (szRecord_any _ r n _ HV.out hn0 (by omega)).mono ?_
          rw [if_pos (by omega)]
          rintro e w1 ⟨rfl, b2⟩
          go_wp2_with fail
          go_ret
          exact ⟨-1, rfl, Or.inl (by omega), Or.inr rfl, by omega, hb.trans (b2.mono hw)⟩
        · go_wp2_with fail
          refine (szRecord_any _ r n _ HV.out hn0 (by omega)).mono ?_
          rw [if_neg (by omega)]
          rintro e w1 ⟨rfl, b2⟩
          go_wp2_with fail
          go_roundw
          case rel =>
            refine ⟨k + 1, n - r.evs.length, by omega, by go_num, rfl, Lib.hid ?_, by omega, by omega, hb.trans (b2.mono hw)⟩
            have h1 := szR_take_succ rs k hlt
            rw [HX.out] at h1
            have h2 := HN.out
            omega
          case measure => simp [intOf]; omega
      · obtain rfl : k = rs.length := by omega
        go_wp2_with fail
        go_ret
        refine ⟨n, rfl, Or.inr ?_, Or.inl hn0, hnl, hb⟩
        have := HN.out
        rw [List.take_length] at this
        omega

theorem Try.info_record : (Try.prog.info? 38).map (fun i => (i.zero, i.size, i.bytes)) = some (some (.agg #[.int .i64 0, .int .i64 0, .int .i64 0, .slice none 0 0]), 4, 48) := by kernel_rfl

def recC (r : Rec) (s : Value) : List Value := [.int .i64 r.id, .int .i64 r.series, .int .i64 r.made, s]
def RecsO (lo hi : Nat) (w : World) (v : Value) (rs : List Rec) : Prop :=
  ∃ (css : List (List Value)) (f : Nat → Nat), css.length = rs.length ∧ Own lo 38 4 w v css ∧ Under (f 0) v ∧ lo ≤ f 0 ∧ (∀ i, i < rs.length → f i ≤ f (i + 1)) ∧ f rs.length ≤ hi ∧
    ∀ i (h1 : i < css.length) (h2 : i < rs.length), ∃ s, css[i] = recC rs[i] s ∧ EvsO (f i) (f (i + 1)) w s rs[i].evs ∧ rs[i].ok
theorem RecsO.row {lo hi : Nat} {w : World} {v : Value} {rs : List Rec} (h : RecsO lo hi w v rs) : RowR 4 rRec w v rs := by
  obtain ⟨css, f, hl, ho, _, _, _, _, he⟩ := h
  refine ho.row hl fun i h1 h2 => ?_
  obtain ⟨s, e, hs, hok⟩ := he i h1 h2
  exact ⟨s, e, hs.row, hok⟩
theorem RecsO.below {lo hi : Nat} {w w' : World} {v : Value} {rs : List Rec} (h : RecsO lo hi w v rs) (hb : Below w.heap.size w w') : RecsO lo hi w' v rs := by
  obtain ⟨css, f, hl, ho, h1, h2, h3, h4, he⟩ := h
  refine ⟨css, f, hl, ho.below hb, h1, h2, h3, h4, fun i a b => ?_⟩
  obtain ⟨s, e, hs, hok⟩ := he i a b
  exact ⟨s, e, hs.below hb, hok⟩

theorem RecsO.only {lo hi lo' hi' : Nat} {w w' : World} {v : Value} {rs : List Rec} (h : RecsO lo hi w v rs) (hb : Only lo' hi' w w') (hh : hi' ≤ lo) : RecsO lo hi w' v rs := by
  obtain ⟨css, f, hl, ho, h1, h2, h3, h4, he⟩ := h
  refine ⟨css, f, hl, ho.only hb hh, h1, h2, h3, h4, fun i a b => ?_⟩
  obtain ⟨s, e, hs, hok⟩ := he i a b
  exact ⟨s, e, hs.only hb (by have := mono_up h3 0 i (Nat.zero_le _) (by omega); omega), hok⟩

set_option maxHeartbeats 2000000 in
theorem toRecordS_any (v : Value) (rs : List Rec) (w : World) (h : RowR 4 rRec w v rs) (hn : rs.length + szR rs ≤ 1048576) :
    Calls Try.prog 37 #[v] w fun en w' => ∃ v', en = .returned v' ∧ RecsO w.heap.size w'.heap.size w' v' rs ∧ Below w.heap.size w w' := by
  obtain ⟨i0, hi, hz0, hz1, hz2⟩ := info_parts Try.info_record
  obtain ⟨a1, c1, rfl, hl1, hm1, r1⟩ := h.recs
  have R1 := Lib.hid r1
  clear h r1
  unfold maxLen at hm1
  go_enter Try.func37, Try.ntmps37
  go_wp2_with (first | (at_make; refine wpList_make_full _ rfl _ _ 54 rfl w.heap.size 38 i0 _ 4 Try.underlying54 hi hz0 hz1 .i64 .i64 _ _ rs.length rfl rfl rfl rfl (by rw [hz2]; omega) (by unfold maxLen; omega) (Nat.le_refl _) ?_; intro w1 hown1 hgrow1; have HOWN := Lib.hid hown1; have HGROW := Lib.hid hgrow1; clear hown1 hgrow1))
  go_loopw [4] (fun i wr => ∃ (k : Nat) (css : List (List Value)) (f : Nat → Nat), k ≤ rs.length ∧ i = .int .i64 k ∧ css.length = rs.length ∧ Own w.heap.size 38 4 wr (.slice (some ⟨w.heap.size, 0, none⟩) rs.length rs.length) css ∧
      Hid (f 0 = w.heap.size + 1 ∧ (∀ i, i < k → f i ≤ f (i + 1)) ∧ f k ≤ wr.heap.size ∧ ∀ i (h1 : i < css.length) (h2 : i < rs.length), i < k → ∃ s, css[i] = recC rs[i] s ∧ EvsO (f i) (f (i + 1)) wr s rs[i].evs ∧ rs[i].ok) ∧ Below w.heap.size w wr) (fun i _ => rs.length - (intOf i).toNat)
  case atStart =>
    refine ⟨0, List.replicate rs.length (#[.int .i64 0, .int .i64 0, .int .i64 0, .slice none 0 0] : Array Value).toList, fun _ => w.heap.size + 1, Nat.zero_le _, rfl, by simp, ?_, Lib.hid ⟨rfl, fun i h => absurd h (Nat.not_lt_zero _), (HOWN.out.lt _ rfl).2, fun i _ _ h => absurd h (Nat.not_lt_zero _)⟩, below_of_grow HGROW.out (Nat.le_refl _) (fun k h => by cases h)⟩
    exact Own.made (z := #[.int .i64 0, .int .i64 0, .int .i64 0, .slice none 0 0]) rfl (by omega) HOWN.out
  case round =>
    obtain ⟨k, css, f, hk, rfl, hcl, hO, I, hb⟩ := hrel
    have HO := Lib.hid hO
    have HCL := Lib.hid hcl
    by_cases hlt : k < rs.length
    · obtain ⟨b1, o1, hb1, rfl, e1⟩ := R1.out.resolve_left (fun e => by rw [e] at hlt; simp at hlt)
      obtain ⟨s, q0, q1, q2, q3, hr, hok⟩ := e1 k hlt
      obtain ⟨r, hx⟩ : ∃ s, rs.getD k recD = s := ⟨_, rfl⟩
      have hsz := szR_at rs k hlt
      rw [hx] at q0 q1 q2 hr hok hsz
      rw [getDr_lt hlt] at hx
      have f0 := cell_kept q0 hb
      have f1 := cell_kept q1 hb
      have f2 := cell_kept q2 hb
      have f3 := cell_kept q3 hb
      have HX := Lib.hid hx
      have hV : RecV wr (.agg #[.int .i64 r.id, .int .i64 r.series, .int .i64 r.made, s]) r := ⟨s, rfl, hr.below rEv_stable hb, hok⟩
      have HV := Lib.hid hV
      have g0 : (0 : Int) ≤ (k : Int) := by omega
      have g1 : (k : Int) < (rs.length : Int) := by omega
      have hw := hb.size
      clear q0 q1 q2 q3 hr hok hx e1 hV hO hcl HOWN HGROW
      go_wp2_with fail
      refine (toRecord_any _ r _ HV.out (by omega)).mono ?_
      rintro e w2 ⟨v2, rfl, ho, b2⟩
      obtain ⟨s2, rfl, hev, hok⟩ := ho
      obtain ⟨sa, sn, sc, rfl⟩ := hev.1.slice
      have hO2 := HO.out.below b2
      obtain ⟨y0, y1, y2, y3, hy⟩ : ∃ y0 y1 y2 y3, css[k]'(by rw [HCL.out]; exact hlt) = [y0, y1, y2, y3] := by
        have h4 := HO.out.2 _ (List.getElem_mem (by rw [HCL.out]; exact hlt : k < css.length))
        match css[k]'(by rw [HCL.out]; exact hlt), h4 with
        | [y0, y1, y2, y3], _ => exact ⟨_, _, _, _, rfl⟩
      have c0 := hO2.cell k 0 (by rw [HCL.out]; exact hlt) (by omega)
      have c1 := hO2.cell k 1 (by rw [HCL.out]; exact hlt) (by omega)
      have c2 := hO2.cell k 2 (by rw [HCL.out]; exact hlt) (by omega)
      have c3 := hO2.cell k 3 (by rw [HCL.out]; exact hlt) (by omega)
      rw [hy] at c0 c1 c2 c3
      have fr0 := hO2.frozen (k * 4)
      have fr1 := hO2.frozen (k * 4 + 1)
      have fr2 := hO2.frozen (k * 4 + 2)
      have fr3 := hO2.frozen (k * 4 + 3)
      simp at c0 c1 c2 c3
      have HO2 := Lib.hid hO2
      have HEV := Lib.hid hev
      have HOK := Lib.hid hok
      clear hO2 hev hok hy
      go_wp2_with fail
      go_roundw
      case rel =>
        have hkc : k < css.length := by rw [HCL.out]; exact hlt
        obtain ⟨p1, p2⟩ := HO2.out.put k hkc (recC r (.slice sa sn sc)) rfl
        have hon : Only w.heap.size (w.heap.size + 1) w2 (w2.setCells w.heap.size (k * 4) (recC r (.slice sa sn sc))) :=
          Only.of_grown (v := .slice (some ⟨w.heap.size, 0, none⟩) rs.length rs.length) p2 (fun g hg => by simp [Value.ownBlock] at hg; omega) (fun g hg => by simp [Value.ownBlock] at hg; omega)
        obtain ⟨I0, I1, I2, I3⟩ := I.out
        have hgt : w.heap.size + 1 ≤ wr.heap.size := by have := mono_up I1 0 k (Nat.zero_le _) (Nat.le_refl _); omega
        have key : ∀ i (h1 : i < (css.set k (recC r (.slice sa sn sc))).length) (h2 : i < rs.length), i < k + 1 → ∃ s, (css.set k (recC r (.slice sa sn sc)))[i] = recC rs[i] s ∧ EvsO (upd f (k + 1) w2.heap.size i) (upd f (k + 1) w2.heap.size (i + 1)) (w2.setCells w.heap.size (k * 4) (recC r (.slice sa sn sc))) s rs[i].evs ∧ rs[i].ok := by
          intro i h1 h2 h3
          rw [upd_ne f _ (by omega : i ≠ k + 1)]
          rcases Nat.lt_or_ge i k with h' | h'
          · obtain ⟨s', e1, e2, e3⟩ := I3 i (by rw [HCL.out]; exact h2) h2 h'
            rw [upd_ne f _ (by omega : i + 1 ≠ k + 1)]
            exact ⟨s', by rw [List.getElem_set_ne (by omega)]; exact e1, (e2.below b2).only hon (by rw [← I0]; exact mono_up I1 0 i (Nat.zero_le _) (by omega)), e3⟩
          · obtain rfl : i = k := by omega
            rw [upd_at]
            refine ⟨.slice sa sn sc, by rw [List.getElem_set_self, HX.out], ?_, by rw [HX.out]; exact HOK.out⟩
            rw [HX.out]
            exact (HEV.out.only hon hgt).wide I2 (Nat.le_refl _)
        refine ⟨k + 1, css.set k (recC r (.slice sa sn sc)), upd f (k + 1) w2.heap.size, by omega, by go_num, by rw [List.length_set]; exact HCL.out, p1, Lib.hid ⟨by rw [upd_ne f _ (by omega)]; exact I0, fun i hi => ?_, by rw [upd_at]; exact p2.size, key⟩, (hb.trans (b2.mono hb.size)).grown p2 (Nat.le_trans hb.size b2.size) (fun _ h => by cases h; exact Nat.le_refl _)⟩
        rw [upd_ne f _ (by omega : i ≠ k + 1)]
        rcases Nat.lt_or_ge i k with h' | h'
        · rw [upd_ne f _ (by omega : i + 1 ≠ k + 1)]
          exact I1 i h'
        · obtain rfl : i = k := by omega
          rw [upd_at]
          exact Nat.le_trans I2 b2.size
      case measure => simp [intOf]; omega
    · clear hO
      go_wp2_with fail
      go_ret
      obtain rfl : k = rs.length := by omega
      obtain ⟨I0, I1, I2, I3⟩ := I.out
      exact ⟨_, rfl, ⟨css, f, HCL.out, HO.out, (by rw [I0]; intro g hg; simp [Value.ownBlock] at hg; omega), by omega, I1, I2, fun i h1 h2 => I3 i h1 h2 h2⟩, hb⟩

set_option maxHeartbeats 1000000 in
theorem eqRecordS_any (v1 v2 : Value) (xs ys : List Rec) (w : World) (h1 : RowR 4 rRec w v1 xs) (h2 : RowR 4 rRec w v2 ys) :
    Calls Try.prog 39 #[v1, v2] w fun e w' => e = .returned (.bool (decide (xs = ys))) ∧ Below w.heap.size w w' := by
  have hx := h1.cap
  have hy := h2.cap
  obtain ⟨a1, c1, rfl, hl1, hm1, r1⟩ := h1.recs
  obtain ⟨a2, c2, rfl, hl2, hm2, r2⟩ := h2.recs
  clear h1 h2
  by_cases hlen : xs.length = ys.length
  · have hLen := Lib.hid hlen
    have hne : (((xs.length : Nat) : Int) != (xs.length : Int)) = false := by simp
    rw [← hlen]
    clear hlen
    have R1 := Lib.hid r1
    have R2 := Lib.hid r2
    clear r1 r2
    go_enter Try.func39, Try.ntmps39
    go_wp2
    go_loopw [5] (fun i wr => ∃ k : Nat, k ≤ xs.length ∧ i = .int .i64 k ∧ Hid (∀ j, j < k → xs.getD j recD = ys.getD j recD) ∧ Below w.heap.size w wr) (fun i _ => xs.length - (intOf i).toNat)
    case atStart => exact ⟨0, Nat.zero_le _, rfl, Lib.hid (fun j h => by omega), Below.refl _ _⟩
    case round =>
      obtain ⟨k, hk, rfl, HJ, hb⟩ := hrel
      by_cases hlt : k < xs.length
      · obtain ⟨b1, o1, hb1, rfl, e1⟩ := R1.out.resolve_left (fun e => by rw [e] at hlt; simp at hlt)
        obtain ⟨b2, o2, hb2, rfl, e2⟩ := R2.out.resolve_left (fun e => by have := hLen.out; rw [e] at this; simp at this; rw [this] at hlt; simp at hlt)
        obtain ⟨s1, q0, q1, q2, q3, hr1, hok1⟩ := e1 k hlt
        obtain ⟨s2, z0, z1, z2, z3, hr2, hok2⟩ := e2 k (by have := hLen.out; omega)
        obtain ⟨r1, hx⟩ : ∃ s, xs.getD k recD = s := ⟨_, rfl⟩
        obtain ⟨r2, hy⟩ : ∃ s, ys.getD k recD = s := ⟨_, rfl⟩
        rw [hx] at q0 q1 q2 hr1 hok1
        rw [hy] at z0 z1 z2 hr2 hok2
        have f10 := cell_kept q0 hb
        have f11 := cell_kept q1 hb
        have f12 := cell_kept q2 hb
        have f13 := cell_kept q3 hb
        have f20 := cell_kept z0 hb
        have f21 := cell_kept z1 hb
        have f22 := cell_kept z2 hb
        have f23 := cell_kept z3 hb
        have hV1 : ∀ W, Below wr.heap.size wr W → RecV W (.agg #[.int .i64 r1.id, .int .i64 r1.series, .int .i64 r1.made, s1]) r1 := fun W hW => ⟨s1, rfl, (hr1.below rEv_stable hb).below rEv_stable hW, hok1⟩
        have hV2 : ∀ W, Below wr.heap.size wr W → RecV W (.agg #[.int .i64 r2.id, .int .i64 r2.series, .int .i64 r2.made, s2]) r2 := fun W hW => ⟨s2, rfl, (hr2.below rEv_stable hb).below rEv_stable hW, hok2⟩
        have HV1 := Lib.hid hV1
        have HV2 := Lib.hid hV2
        have HX := Lib.hid hx
        have HY := Lib.hid hy
        have hsz := hb.size
        have g0 : (0 : Int) ≤ (k : Int) := by omega
        have g1 : (k : Int) < (xs.length : Int) := by omega
        clear q0 q1 q2 q3 z0 z1 z2 z3 hr1 hr2 hok1 hok2 e1 e2 hx hy hV1 hV2
        obtain ⟨bb, hbb⟩ : ∃ bb, decide (r1 = r2) = bb := ⟨_, rfl⟩
        have HB := Lib.hid hbb
        clear hbb
        cases bb
        all_goals
          go_wp2_with fail
          go_region_held3 (fun w' => w'.cell? ⟨b1, o1 + k * 4, none⟩ = some (.int .i64 r1.id) ∧ w'.cell? ⟨b1, o1 + k * 4 + 1, none⟩ = some (.int .i64 r1.series) ∧ w'.cell? ⟨b1, o1 + k * 4 + 2, none⟩ = some (.int .i64 r1.made) ∧ w'.cell? ⟨b1, o1 + k * 4 + 3, none⟩ = some s1 ∧
              w'.cell? ⟨b2, o2 + k * 4, none⟩ = some (.int .i64 r2.id) ∧ w'.cell? ⟨b2, o2 + k * 4 + 1, none⟩ = some (.int .i64 r2.series) ∧ w'.cell? ⟨b2, o2 + k * 4 + 2, none⟩ = some (.int .i64 r2.made) ∧ w'.cell? ⟨b2, o2 + k * 4 + 3, none⟩ = some s2)
            (first | exact ⟨f10, f11, f12, f13, f20, f21, f22, f23⟩ | exact ⟨cell_keptd f10 b7, cell_keptd f11 b7, cell_keptd f12 b7, cell_keptd f13 b7, cell_keptd f20 b7, cell_keptd f21 b7, cell_keptd f22 b7, cell_keptd f23 b7⟩)
            (first | (go_at_call 25; refine (eqRecord_any _ _ r1 r2 _ (HV1.out _ (Below.refl _ _).drew) (HV2.out _ (Below.refl _ _).drew)).mono ?_; rw [HB.out]; rintro e w7 ⟨rfl, b7⟩))
        · go_wp2_with fail
          go_ret
          refine ⟨ret_bool (Eq.symm (decide_eq_false fun e => ?_)), hb.drew.trans (b7.mono hsz)⟩
          have h1 := of_decide_eq_false HB.out
          subst e
          exact h1 (HX.out.symm.trans HY.out)
        · go_wp2_with fail
          go_roundw
          case rel =>
            refine ⟨k + 1, by omega, by go_num, Lib.hid (fun j h => ?_), hb.drew.trans (b7.mono hsz)⟩
            rcases Nat.lt_or_ge j k with h' | h'
            · exact HJ.out j h'
            · obtain rfl : j = k := by omega
              rw [HX.out, HY.out]
              exact of_decide_eq_true HB.out
          case measure => simp [intOf]; omega
      · go_wp2_with fail
        go_ret
        refine ⟨ret_bool (Eq.symm (decide_eq_true ?_)), hb⟩
        refine List.ext_getElem hLen.out fun i a b => ?_
        have := HJ.out i (by omega)
        rwa [getDr_lt a, getDr_lt b] at this
  · have hne : (((xs.length : Nat) : Int) != (ys.length : Int)) = true := by simp; omega
    rw [decide_eq_false (fun e => hlen (by rw [e]))]
    go_enter Try.func39, Try.ntmps39
    go_wp2
    go_ret
    exact ⟨rfl, Below.refl _ _⟩
end Go.Proofs.Ytkjpehpodlpdhaa

namespace Go.Proofs.Ytkjpehpodlpdhaa
set_option linter.unusedVariables false
open Go.RowKit

def Box4 (w : World) (g : Nat) (r : Rec) (s : Value) : Prop := w.cell? ⟨g, 0, none⟩ = some (.int .i64 r.id) ∧ w.cell? ⟨g, 1, none⟩ = some (.int .i64 r.series) ∧ w.cell? ⟨g, 2, none⟩ = some (.int .i64 r.made) ∧ w.cell? ⟨g, 3, none⟩ = some s
theorem Box4.kept {a b : World} {g : Nat} {r : Rec} {s : Value} (h : Box4 a g r s) (hb : Below a.heap.size a b) : Box4 b g r s := ⟨cell_kept h.1 hb, cell_kept h.2.1 hb, cell_kept h.2.2.1 hb, cell_kept h.2.2.2 hb⟩
theorem Box4.only {a b : World} {g lo hi : Nat} {r : Rec} {s : Value} (h : Box4 a g r s) (ho : Only lo hi a b) (hg : g < lo ∨ hi ≤ g) : Box4 b g r s := by
  have hlt := World.block_lt_of_cell? _ _ h.1
  have hb := ho.block g hlt hg
  have key : ∀ j, b.cell? ⟨g, j, none⟩ = a.cell? ⟨g, j, none⟩ := fun j => World.cell?_of_block (w := a) hb
  exact ⟨(key 0).trans h.1, (key 1).trans h.2.1, (key 2).trans h.2.2.1, (key 3).trans h.2.2.2⟩
theorem Box4.new (w : World) (r : Rec) (s : Value) (t : TypeId) : Box4 (w.alloc (.cells #[.int .i64 r.id, .int .i64 r.series, .int .i64 r.made, s] t (0, 0))) w.heap.size r s := ⟨cell_new w _ _ 0 rfl, cell_new w _ _ 1 rfl, cell_new w _ _ 2 rfl, cell_new w _ _ 3 rfl⟩
theorem Box4.lt {a : World} {g : Nat} {r : Rec} {s : Value} (h : Box4 a g r s) : g < a.heap.size := World.block_lt_of_cell? _ _ h.1
def Ev2 (w : World) (g : Nat) (ek ed : Int) : Prop := w.cell? ⟨g, 0, none⟩ = some (.int .i64 ek) ∧ w.cell? ⟨g, 1, none⟩ = some (.int .i64 ed)
theorem Ev2.kept {a b : World} {g : Nat} {ek ed : Int} (h : Ev2 a g ek ed) (hb : Below a.heap.size a b) : Ev2 b g ek ed := ⟨cell_kept h.1 hb, cell_kept h.2 hb⟩
theorem Ev2.only {a b : World} {g lo hi : Nat} {ek ed : Int} (h : Ev2 a g ek ed) (ho : Only lo hi a b) (hg : g < lo ∨ hi ≤ g) : Ev2 b g ek ed := by
  have hb := ho.block g (World.block_lt_of_cell? _ _ h.1) hg
  have key : ∀ j, b.cell? ⟨g, j, none⟩ = a.cell? ⟨g, j, none⟩ := fun j => World.cell?_of_block (w := a) hb
  exact ⟨(key 0).trans h.1, (key 1).trans h.2⟩
theorem RecO.only2 {lo hi lo' hi' : Nat} {w w' : World} {v : Value} {r : Rec} (h : RecO lo hi w v r) (hb : Only lo' hi' w w') (hh : hi ≤ lo') : RecO lo hi w' v r := by
  obtain ⟨s, e, h, k⟩ := h
  exact ⟨s, e, ⟨h.1.only2 hb (h.2.2.up hh), h.2⟩, k⟩
theorem only_set (w : World) (g j : Nat) (u : Value) : Only g (g + 1) w (w.setCell ⟨g, j, none⟩ u) :=
  ⟨rfl, rfl, rfl, by simp, fun k _ hh => Below.heap_setCell w ⟨g, j, none⟩ u k (by simp; omega)⟩
theorem only_put (w : World) (G : Nat) (x y z u : Value) : Only G (G + 1) w ((((w.setCell ⟨G, 0, none⟩ x).setCell ⟨G, 1, none⟩ y).setCell ⟨G, 2, none⟩ z).setCell ⟨G, 3, none⟩ u) :=
  (((only_set _ _ _ _).trans (only_set _ _ _ _)).trans (only_set _ _ _ _)).trans (only_set _ _ _ _)
theorem set_other {w : World} {a b : Addr} (v : Value) (h : a ≠ b) : (w.setCell a v).cell? b = w.cell? b := by
  apply World.cell?_setCell_other
  exact h
theorem set_same {w : World} {a : Addr} {u : Value} (v : Value) (h : w.cell? a = some u) : (w.setCell a v).cell? a = some v := by
  apply World.cell?_setCell_same
  exact h
theorem box4_put {W : World} {G : Nat} {r : Rec} {s a b c d : Value} {t : TypeId} (h : W.heap[G]? = some (.cells #[a, b, c, d] t (0, 0))) :
    Box4 ((((W.setCell ⟨G, 0, none⟩ (.int .i64 r.id)).setCell ⟨G, 1, none⟩ (.int .i64 r.series)).setCell ⟨G, 2, none⟩ (.int .i64 r.made)).setCell ⟨G, 3, none⟩ s) G r s := by
  have c0 := box_cell h 0 rfl
  have c1 := box_cell h 1 rfl
  have c2 := box_cell h 2 rfl
  have c3 := box_cell h 3 rfl
  have n01 : (⟨G, 0, none⟩ : Addr) ≠ ⟨G, 1, none⟩ := by simp
  have n02 : (⟨G, 0, none⟩ : Addr) ≠ ⟨G, 2, none⟩ := by simp
  have n03 : (⟨G, 0, none⟩ : Addr) ≠ ⟨G, 3, none⟩ := by simp
  have n12 : (⟨G, 1, none⟩ : Addr) ≠ ⟨G, 2, none⟩ := by simp
  have n13 : (⟨G, 1, none⟩ : Addr) ≠ ⟨G, 3, none⟩ := by simp
  have n23 : (⟨G, 2, none⟩ : Addr) ≠ ⟨G, 3, none⟩ := by simp
  refine ⟨?_, ?_, ?_, ?_⟩
  · rw [set_other _ n03.symm, set_other _ n02.symm, set_other _ n01.symm]
    exact set_same _ c0
  · rw [set_other _ n13.symm, set_other _ n12.symm]
    exact set_same (u := b) _ (by rw [set_other _ n01]; exact c1)
  · rw [set_other _ n23.symm]
    exact set_same (u := c) _ (by rw [set_other _ n12, set_other _ n02]; exact c2)
  · exact set_same (u := d) _ (by rw [set_other _ n23, set_other _ n13, set_other _ n03]; exact c3)

def Got (B : Nat) (w V : World) (x : Rec) (s : Value) (ek ed : Int) (y : Rec) (sl : Value) (G lo hi : Nat) : Prop :=
  Box4 V B x s ∧ Ev2 V (B + 1) ek ed ∧ RecO lo hi V (.agg #[.int .i64 y.id, .int .i64 y.series, .int .i64 y.made, sl]) y ∧ Box4 V G y sl ∧ Below w.heap.size w V ∧ w.heap.size ≤ G ∧ w.heap.size ≤ lo ∧ hi ≤ V.heap.size ∧ (G < lo ∨ hi ≤ G) ∧ lo ≤ V.heap.size
theorem got_a {B : Nat} {w W : World} {x y : Rec} {s sl a b c d : Value} {ek ed : Int} {G lo hi : Nat} {t : TypeId} (hQ : W.heap[G]? = some (.cells #[a, b, c, d] t (0, 0))) (hA : Box4 W B x s) (hE : Ev2 W (B + 1) ek ed)
    (hR : RecO lo hi W (.agg #[.int .i64 y.id, .int .i64 y.series, .int .i64 y.made, sl]) y) (hB : Below w.heap.size w W) (hG : w.heap.size ≤ G) (hl : G < lo) (hh : hi ≤ W.heap.size) (hw : B + 2 ≤ w.heap.size) (hq : lo ≤ W.heap.size) :
    Got B w ((((W.setCell ⟨G, 0, none⟩ (.int .i64 y.id)).setCell ⟨G, 1, none⟩ (.int .i64 y.series)).setCell ⟨G, 2, none⟩ (.int .i64 y.made)).setCell ⟨G, 3, none⟩ sl) x s ek ed y sl G lo hi := by
  have o := only_put W G (.int .i64 y.id) (.int .i64 y.series) (.int .i64 y.made) sl
  have hB' : Below w.heap.size W ((((W.setCell ⟨G, 0, none⟩ (.int .i64 y.id)).setCell ⟨G, 1, none⟩ (.int .i64 y.series)).setCell ⟨G, 2, none⟩ (.int .i64 y.made)).setCell ⟨G, 3, none⟩ sl) := ⟨o.os, o.tape, o.output, o.size, fun k hk => o.block k (Nat.lt_of_lt_of_le hk hB.size) (.inl (by omega))⟩
  exact ⟨hA.only o (.inl (by omega)), hE.only o (.inl (by omega)), hR.only o hl, box4_put hQ, hB.trans hB', hG, by omega, Nat.le_trans hh o.size, .inl hl, Nat.le_trans hq o.size⟩
theorem got_b {B : Nat} {w W : World} {x y : Rec} {s sl : Value} {ek ed : Int} {lo hi : Nat} {t : TypeId} (hA : Box4 W B x s) (hE : Ev2 W (B + 1) ek ed)
    (hR : RecO lo hi W (.agg #[.int .i64 y.id, .int .i64 y.series, .int .i64 y.made, sl]) y) (hB : Below w.heap.size w W) (hl : w.heap.size ≤ lo) (hh : hi ≤ W.heap.size) (hq : lo ≤ W.heap.size) :
    Got B w (W.alloc (.cells #[.int .i64 y.id, .int .i64 y.series, .int .i64 y.made, sl] t (0, 0))) x s ek ed y sl W.heap.size lo hi := by
  have b := below_al (Below.refl W.heap.size W) (.cells #[.int .i64 y.id, .int .i64 y.series, .int .i64 y.made, sl] t (0, 0))
  exact ⟨hA.kept b, hE.kept b, hR.below b, Box4.new W y sl t, below_al hB _, hB.size, hl, by simp; omega, .inr hh, by simp; omega⟩
theorem cell_drew {W : World} {a : Addr} {u : Value} (h : W.cell? a = some u) : W.drew.cell? a = some u := h
end Go.Proofs.Ytkjpehpodlpdhaa

namespace Go.Proofs.Ytkjpehpodlpdhaa
set_option linter.unusedVariables false
open Go.RowKit
theorem cell_only {lo hi b j : Nat} {w w' : World} {v : Value} (h : Only lo hi w w') (hc : w.cell? ⟨b, j, none⟩ = some v) (hb : b < lo ∨ hi ≤ b) : w'.cell? ⟨b, j, none⟩ = some v :=
  (World.cell?_of_block (h.block b (World.block_lt_of_cell? _ _ hc) hb)).trans hc
end Go.Proofs.Ytkjpehpodlpdhaa

namespace Go.Proofs.Ytkjpehpodlpdhaa
set_option linter.unusedVariables false
open Go.ChangeShapes Go.WideShapes Go.ChangeAt Go.RowKit

set_option maxRecDepth 20000 in
set_option maxHeartbeats 8000000 in
theorem walkHeldDays (v0 : Value) (l : List Ho) (v1 : Value) (r : Rec) (W : World) (h0 : RowR 6 rHo W v0 l) (h1 : RecV W v1 r) :
    Calls Try.prog 12 #[v0, v1] W fun e w' => e = .returned (.bool true) ∧ Below W.heap.size W w' := by
  have HA0 := Lib.hid (show ∀ W', Below W.heap.size W W' → RowR 6 rHo W' v0 l from fun W' hb => h0.below rHo_stable hb)
  clear h0
  obtain ⟨sl1, rfl, hh1, hok1⟩ := h1
  have HA1 := Lib.hid (show ∀ W', Below W.heap.size W W' → RecV W' (.agg #[.int .i64 r.id, .int .i64 r.series, .int .i64 r.made, sl1]) r from fun W' hb => ⟨sl1, rfl, hh1.below rEv_stable hb, hok1⟩)
  clear hh1 hok1
  obtain ⟨n, b, hb⟩ : ∃ n b, hdRes l r = (n, b) := ⟨_, _, rfl⟩
  have HB := Lib.hid hb
  clear hb
  have eb_n : (n != n) = false := by simp
  have eb_b : (b != b) = false := by simp
  go_enter Try.func12, Try.ntmps12
  go_wp2_with fail
  generalize hW0 : W.alloc (.cells #[.int .i64 r.id, .int .i64 r.series, .int .i64 r.made, sl1] 31 (0, 0)) = W0
  have HBW : Hid (Below W.heap.size W W0) := Lib.hid (by rw [← hW0]; exact below_al (Below.refl W.heap.size W) _)
  have HC1 := Lib.hid (show W0.cell? ⟨W.heap.size, 0, none⟩ = some (.int .i64 r.id) ∧ W0.cell? ⟨W.heap.size, 1, none⟩ = some (.int .i64 r.series) ∧ W0.cell? ⟨W.heap.size, 2, none⟩ = some (.int .i64 r.made) ∧ W0.cell? ⟨W.heap.size, 3, none⟩ = some (sl1) by rw [← hW0]; exact ⟨cell_new W #[.int .i64 r.id, .int .i64 r.series, .int .i64 r.made, sl1] 31 0 rfl, cell_new W #[.int .i64 r.id, .int .i64 r.series, .int .i64 r.made, sl1] 31 1 rfl, cell_new W #[.int .i64 r.id, .int .i64 r.series, .int .i64 r.made, sl1] 31 2 rfl, cell_new W #[.int .i64 r.id, .int .i64 r.series, .int .i64 r.made, sl1] 31 3 rfl⟩)
  clear hW0
  obtain ⟨c1_0, c1_1, c1_2, c1_3⟩ := HC1.out
  go_wp2_with fail
  refine (szHoS_any _ l 1048576 _ (HA0.out _ HBW.out) (by omega) (by omega)).mono ?_
  rintro e w1 ⟨n0, rfl, hf0, hp0, hq0, b1⟩
  have sz1 := b1.size
  replace HC1 := Lib.hid (show w1.cell? ⟨W.heap.size, 0, none⟩ = some (.int .i64 r.id) ∧ w1.cell? ⟨W.heap.size, 1, none⟩ = some (.int .i64 r.series) ∧ w1.cell? ⟨W.heap.size, 2, none⟩ = some (.int .i64 r.made) ∧ w1.cell? ⟨W.heap.size, 3, none⟩ = some (sl1) by obtain ⟨z0, z1, z2, z3⟩ := HC1.out; exact ⟨cell_kept z0 b1, cell_kept z1 b1, cell_kept z2 b1, cell_kept z3 b1⟩)
  replace HBW := Lib.hid (HBW.out.trans (b1.mono HBW.out.size))
  clear b1 c1_0 c1_1 c1_2 c1_3
  have HF0 := Lib.hid hf0
  have HP0 := Lib.hid hp0
  clear hf0 hp0
  by_cases hs0 : n0 < 0
  · go_wp2_with fail
    go_ret
    exact ⟨rfl, HBW.out⟩
  · have hl0 : l.length + szHo l ≤ 1048576 := by have := HF0.out; omega
    have hn00 : 0 ≤ n0 := by omega
    have hxt0 := msHo_le l
    obtain ⟨c1_0, c1_1, c1_2, c1_3⟩ := HC1.out
    go_wp2_with fail
    refine (szRecord_any _ r n0 _ (HA1.out _ HBW.out) (by omega) (by omega)).mono ?_
    rintro e w2 ⟨rfl, b2⟩
    have sz2 := b2.size
    replace HC1 := Lib.hid (show w2.cell? ⟨W.heap.size, 0, none⟩ = some (.int .i64 r.id) ∧ w2.cell? ⟨W.heap.size, 1, none⟩ = some (.int .i64 r.series) ∧ w2.cell? ⟨W.heap.size, 2, none⟩ = some (.int .i64 r.made) ∧ w2.cell? ⟨W.heap.size, 3, none⟩ = some (sl1) by obtain ⟨z0, z1, z2, z3⟩ := HC1.out; exact ⟨cell_kept z0 b2, cell_kept z1 b2, cell_kept z2 b2, cell_kept z3 b2⟩)
    replace HBW := Lib.hid (HBW.out.trans (b2.mono HBW.out.size))
    clear b2 c1_0 c1_1 c1_2 c1_3
    by_cases hs1 : (n0 : Int) < r.evs.length
    · rw [if_pos hs1]
      go_wp2_with fail
      go_ret
      exact ⟨rfl, HBW.out⟩
    · rw [if_neg hs1]
      obtain ⟨n1, hn1⟩ : ∃ n : Int, n0 - (r.evs.length : Int) = n := ⟨_, rfl⟩
      have hl1 : r.evs.length ≤ 1048576 := by omega
      have hn10 : 0 ≤ n1 := by omega
      have hn11 : n1 ≤ n0 := by omega
      rw [hn1]
      clear hn1
      obtain ⟨c1_0, c1_1, c1_2, c1_3⟩ := HC1.out
      go_wp2_with fail
      go_region_held3 (fun w' => w'.cell? ⟨W.heap.size, 0, none⟩ = some (.int .i64 r.id) ∧ w'.cell? ⟨W.heap.size, 1, none⟩ = some (.int .i64 r.series) ∧ w'.cell? ⟨W.heap.size, 2, none⟩ = some (.int .i64 r.made) ∧ w'.cell? ⟨W.heap.size, 3, none⟩ = some (sl1)) (first | exact ⟨c1_0, c1_1, c1_2, c1_3⟩ | go_keep) (first | (go_at_call 17; refine (toHoS_any _ l _ (HA0.out _ HBW.out.drew) (by omega)).mono ?_; rintro e w3 ⟨s0, rfl, hos0, b3⟩; have HOs0 := Lib.hid hos0; clear hos0; replace b3 : Below w2.heap.size w2 w3 := (Below.refl _ _).drew.trans b3; have sz3 := b3.size; replace c1_0 := cell_kept c1_0 b3; replace c1_1 := cell_kept c1_1 b3; replace c1_2 := cell_kept c1_2 b3; replace c1_3 := cell_kept c1_3 b3; replace HC1 := Lib.hid (show w3.cell? ⟨W.heap.size, 0, none⟩ = some (.int .i64 r.id) ∧ w3.cell? ⟨W.heap.size, 1, none⟩ = some (.int .i64 r.series) ∧ w3.cell? ⟨W.heap.size, 2, none⟩ = some (.int .i64 r.made) ∧ w3.cell? ⟨W.heap.size, 3, none⟩ = some (sl1) by obtain ⟨z0, z1, z2, z3⟩ := HC1.out; exact ⟨cell_kept z0 b3, cell_kept z1 b3, cell_kept z2 b3, cell_kept z3 b3⟩); replace HBW := Lib.hid (HBW.out.trans (b3.mono HBW.out.size)); clear b3) | (go_at_call 22; refine (toRecord_some _ r _ (HA1.out _ HBW.out) (by omega)).mono ?_; rintro e w4 ⟨s1, rfl, hos1, b4, hss1⟩; have HOs1 := Lib.hid hos1; have HSs1 := Lib.hid hss1; clear hos1 hss1; have sz4 := b4.size; replace c1_0 := cell_kept c1_0 b4; replace c1_1 := cell_kept c1_1 b4; replace c1_2 := cell_kept c1_2 b4; replace c1_3 := cell_kept c1_3 b4; replace HOs0 := Lib.hid (HOs0.out.below b4); replace HC1 := Lib.hid (show w4.cell? ⟨W.heap.size, 0, none⟩ = some (.int .i64 r.id) ∧ w4.cell? ⟨W.heap.size, 1, none⟩ = some (.int .i64 r.series) ∧ w4.cell? ⟨W.heap.size, 2, none⟩ = some (.int .i64 r.made) ∧ w4.cell? ⟨W.heap.size, 3, none⟩ = some (sl1) by obtain ⟨z0, z1, z2, z3⟩ := HC1.out; exact ⟨cell_kept z0 b4, cell_kept z1 b4, cell_kept z2 b4, cell_kept z3 b4⟩); replace HBW := Lib.hid (HBW.out.trans (b4.mono HBW.out.size)); clear b4) | (go_at_call 52; refine (specHeldDays_any _ _ l r _ HOs0.out.row HOs1.out.toV n b HB.out).mono ?_; rintro e w5 ⟨rfl, b5⟩; have sz5 := b5.size; replace c1_0 := cell_kept c1_0 b5; replace c1_1 := cell_kept c1_1 b5; replace c1_2 := cell_kept c1_2 b5; replace c1_3 := cell_kept c1_3 b5; replace HOs0 := Lib.hid (HOs0.out.below b5); replace HOs1 := Lib.hid (HOs1.out.below b5); replace HC1 := Lib.hid (show w5.cell? ⟨W.heap.size, 0, none⟩ = some (.int .i64 r.id) ∧ w5.cell? ⟨W.heap.size, 1, none⟩ = some (.int .i64 r.series) ∧ w5.cell? ⟨W.heap.size, 2, none⟩ = some (.int .i64 r.made) ∧ w5.cell? ⟨W.heap.size, 3, none⟩ = some (sl1) by obtain ⟨z0, z1, z2, z3⟩ := HC1.out; exact ⟨cell_kept z0 b5, cell_kept z1 b5, cell_kept z2 b5, cell_kept z3 b5⟩); replace HBW := Lib.hid (HBW.out.trans (b5.mono HBW.out.size)); clear b5))
      clear c1_0 c1_1 c1_2 c1_3
      clear HOs0
      clear HOs1
      clear HSs1
      obtain ⟨c1_0, c1_1, c1_2, c1_3⟩ := HC1.out
      go_wp2_with fail
      refine (toHoS_any _ l _ (HA0.out _ HBW.out) (by omega)).mono ?_
      rintro e w6 ⟨x0, rfl, hox0, b6⟩
      have HOx0 := Lib.hid hox0
      clear hox0
      have sz6 := b6.size
      replace HC1 := Lib.hid (show w6.cell? ⟨W.heap.size, 0, none⟩ = some (.int .i64 r.id) ∧ w6.cell? ⟨W.heap.size, 1, none⟩ = some (.int .i64 r.series) ∧ w6.cell? ⟨W.heap.size, 2, none⟩ = some (.int .i64 r.made) ∧ w6.cell? ⟨W.heap.size, 3, none⟩ = some (sl1) by obtain ⟨z0, z1, z2, z3⟩ := HC1.out; exact ⟨cell_kept z0 b6, cell_kept z1 b6, cell_kept z2 b6, cell_kept z3 b6⟩)
      replace HBW := Lib.hid (HBW.out.trans (b6.mono HBW.out.size))
      clear b6 c1_0 c1_1 c1_2 c1_3
      obtain ⟨c1_0, c1_1, c1_2, c1_3⟩ := HC1.out
      go_wp2_with fail
      refine (toRecord_some _ r _ (HA1.out _ HBW.out) (by omega)).mono ?_
      rintro e w7 ⟨x1, rfl, hox1, b7, hsx1⟩
      have HOx1 := Lib.hid hox1
      have HSx1 := Lib.hid hsx1
      clear hox1 hsx1
      have sz7 := b7.size
      replace HOx0 := Lib.hid (HOx0.out.below b7)
      replace HC1 := Lib.hid (show w7.cell? ⟨W.heap.size, 0, none⟩ = some (.int .i64 r.id) ∧ w7.cell? ⟨W.heap.size, 1, none⟩ = some (.int .i64 r.series) ∧ w7.cell? ⟨W.heap.size, 2, none⟩ = some (.int .i64 r.made) ∧ w7.cell? ⟨W.heap.size, 3, none⟩ = some (sl1) by obtain ⟨z0, z1, z2, z3⟩ := HC1.out; exact ⟨cell_kept z0 b7, cell_kept z1 b7, cell_kept z2 b7, cell_kept z3 b7⟩)
      replace HBW := Lib.hid (HBW.out.trans (b7.mono HBW.out.size))
      clear b7 c1_0 c1_1 c1_2 c1_3
      obtain ⟨sx1, hvx1, hox1, hokx1⟩ := HOx1.out
      obtain ⟨sa1, sn1, sc1, rfl⟩ := hox1.1.slice
      subst hvx1
      clear hox1 hokx1
      obtain ⟨c1_0, c1_1, c1_2, c1_3⟩ := HC1.out
      have c1_0x := fun ob => below_al_cell c1_0 ob
      have c1_1x := fun ob => below_al_cell c1_1 ob
      have c1_2x := fun ob => below_al_cell c1_2 ob
      have c1_3x := fun ob => below_al_cell c1_3 ob
      go_wp2_with fail
      refine (implHeldDays_any _ _ l r _ (HOx0.out.below (below_al (Below.refl _ _) _)).row (HOx1.out.below (below_al (Below.refl _ _) _)).toV n b HB.out).mono ?_
      rintro e w8 ⟨rfl, b8⟩
      have HC2 := Lib.hid (show w8.cell? ⟨w7.heap.size, 0, none⟩ = some (.int .i64 r.id) ∧ w8.cell? ⟨w7.heap.size, 1, none⟩ = some (.int .i64 r.series) ∧ w8.cell? ⟨w7.heap.size, 2, none⟩ = some (.int .i64 r.made) ∧ w8.cell? ⟨w7.heap.size, 3, none⟩ = some (.slice sa1 sn1 sc1) from ⟨cell_kept (cell_new _ _ _ 0 rfl) b8, cell_kept (cell_new _ _ _ 1 rfl) b8, cell_kept (cell_new _ _ _ 2 rfl) b8, cell_kept (cell_new _ _ _ 3 rfl) b8⟩)
      replace b8 := below_chain (below_al (Below.refl w7.heap.size w7) _) b8
      have sz8 := b8.size
      replace HOx0 := Lib.hid (HOx0.out.below b8)
      replace HOx1 := Lib.hid (HOx1.out.below b8)
      replace HC1 := Lib.hid (show w8.cell? ⟨W.heap.size, 0, none⟩ = some (.int .i64 r.id) ∧ w8.cell? ⟨W.heap.size, 1, none⟩ = some (.int .i64 r.series) ∧ w8.cell? ⟨W.heap.size, 2, none⟩ = some (.int .i64 r.made) ∧ w8.cell? ⟨W.heap.size, 3, none⟩ = some (sl1) by obtain ⟨z0, z1, z2, z3⟩ := HC1.out; exact ⟨cell_kept z0 b8, cell_kept z1 b8, cell_kept z2 b8, cell_kept z3 b8⟩)
      replace HBW := Lib.hid (HBW.out.trans (b8.mono HBW.out.size))
      clear b8 c1_0 c1_1 c1_2 c1_3 c1_0x c1_1x c1_2x c1_3x
      obtain ⟨c1_0, c1_1, c1_2, c1_3⟩ := HC1.out
      obtain ⟨c2_0, c2_1, c2_2, c2_3⟩ := HC2.out
      go_wp2_with fail
      refine (toHoS_any _ l _ (HA0.out _ HBW.out) (by omega)).mono ?_
      rintro e w9 ⟨vq0, rfl, hq0_, b9⟩
      have HQ0 := Lib.hid hq0_
      clear hq0_
      have sz9 := b9.size
      replace HOx0 := Lib.hid (HOx0.out.below b9)
      replace HOx1 := Lib.hid (HOx1.out.below b9)
      replace HC1 := Lib.hid (show w9.cell? ⟨W.heap.size, 0, none⟩ = some (.int .i64 r.id) ∧ w9.cell? ⟨W.heap.size, 1, none⟩ = some (.int .i64 r.series) ∧ w9.cell? ⟨W.heap.size, 2, none⟩ = some (.int .i64 r.made) ∧ w9.cell? ⟨W.heap.size, 3, none⟩ = some (sl1) by obtain ⟨z0, z1, z2, z3⟩ := HC1.out; exact ⟨cell_kept z0 b9, cell_kept z1 b9, cell_kept z2 b9, cell_kept z3 b9⟩)
      replace HC2 := Lib.hid (show w9.cell? ⟨w7.heap.size, 0, none⟩ = some (.int .i64 r.id) ∧ w9.cell? ⟨w7.heap.size, 1, none⟩ = some (.int .i64 r.series) ∧ w9.cell? ⟨w7.heap.size, 2, none⟩ = some (.int .i64 r.made) ∧ w9.cell? ⟨w7.heap.size, 3, none⟩ = some (.slice sa1 sn1 sc1) by obtain ⟨z0, z1, z2, z3⟩ := HC2.out; exact ⟨cell_kept z0 b9, cell_kept z1 b9, cell_kept z2 b9, cell_kept z3 b9⟩)
      replace HBW := Lib.hid (HBW.out.trans (b9.mono HBW.out.size))
      clear b9 c1_0 c1_1 c1_2 c1_3 c2_0 c2_1 c2_2 c2_3
      obtain ⟨c1_0, c1_1, c1_2, c1_3⟩ := HC1.out
      obtain ⟨c2_0, c2_1, c2_2, c2_3⟩ := HC2.out
      go_wp2_with fail
      refine (eqHoS_any _ _ l l _ HOx0.out.row HQ0.out.row).mono ?_
      rw [decide_eq_true rfl]
      rintro e w10 ⟨rfl, b10⟩
      have sz10 := b10.size
      replace HOx0 := Lib.hid (HOx0.out.below b10)
      replace HOx1 := Lib.hid (HOx1.out.below b10)
      replace HQ0 := Lib.hid (HQ0.out.below b10)
      replace HC1 := Lib.hid (show w10.cell? ⟨W.heap.size, 0, none⟩ = some (.int .i64 r.id) ∧ w10.cell? ⟨W.heap.size, 1, none⟩ = some (.int .i64 r.series) ∧ w10.cell? ⟨W.heap.size, 2, none⟩ = some (.int .i64 r.made) ∧ w10.cell? ⟨W.heap.size, 3, none⟩ = some (sl1) by obtain ⟨z0, z1, z2, z3⟩ := HC1.out; exact ⟨cell_kept z0 b10, cell_kept z1 b10, cell_kept z2 b10, cell_kept z3 b10⟩)
      replace HC2 := Lib.hid (show w10.cell? ⟨w7.heap.size, 0, none⟩ = some (.int .i64 r.id) ∧ w10.cell? ⟨w7.heap.size, 1, none⟩ = some (.int .i64 r.series) ∧ w10.cell? ⟨w7.heap.size, 2, none⟩ = some (.int .i64 r.made) ∧ w10.cell? ⟨w7.heap.size, 3, none⟩ = some (.slice sa1 sn1 sc1) by obtain ⟨z0, z1, z2, z3⟩ := HC2.out; exact ⟨cell_kept z0 b10, cell_kept z1 b10, cell_kept z2 b10, cell_kept z3 b10⟩)
      replace HBW := Lib.hid (HBW.out.trans (b10.mono HBW.out.size))
      clear b10 c1_0 c1_1 c1_2 c1_3 c2_0 c2_1 c2_2 c2_3
      clear HQ0
      obtain ⟨c1_0, c1_1, c1_2, c1_3⟩ := HC1.out
      obtain ⟨c2_0, c2_1, c2_2, c2_3⟩ := HC2.out
      go_wp2_with fail
      go_region_held3 (fun w' => w'.cell? ⟨W.heap.size, 0, none⟩ = some (.int .i64 r.id) ∧ w'.cell? ⟨W.heap.size, 1, none⟩ = some (.int .i64 r.series) ∧ w'.cell? ⟨W.heap.size, 2, none⟩ = some (.int .i64 r.made) ∧ w'.cell? ⟨W.heap.size, 3, none⟩ = some (sl1) ∧ w'.cell? ⟨w7.heap.size, 0, none⟩ = some (.int .i64 r.id) ∧ w'.cell? ⟨w7.heap.size, 1, none⟩ = some (.int .i64 r.series) ∧ w'.cell? ⟨w7.heap.size, 2, none⟩ = some (.int .i64 r.made) ∧ w'.cell? ⟨w7.heap.size, 3, none⟩ = some (.slice sa1 sn1 sc1)) (first | exact ⟨c1_0, c1_1, c1_2, c1_3, c2_0, c2_1, c2_2, c2_3⟩ | go_keep) (first | (go_at_call 22; refine (toRecord_any _ r _ (HA1.out _ HBW.out.drew) (by omega)).mono ?_; rintro e w11 ⟨vq1, rfl, hq1_, b11⟩; have HQ1 := Lib.hid hq1_; clear hq1_; replace b11 : Below w10.heap.size w10 w11 := (Below.refl _ _).drew.trans b11; have sz11 := b11.size; replace c1_0 := cell_kept c1_0 b11; replace c1_1 := cell_kept c1_1 b11; replace c1_2 := cell_kept c1_2 b11; replace c1_3 := cell_kept c1_3 b11; replace c2_0 := cell_kept c2_0 b11; replace c2_1 := cell_kept c2_1 b11; replace c2_2 := cell_kept c2_2 b11; replace c2_3 := cell_kept c2_3 b11; replace HOx0 := Lib.hid (HOx0.out.below b11); replace HOx1 := Lib.hid (HOx1.out.below b11); (replace HC1 := Lib.hid (show w11.cell? ⟨W.heap.size, 0, none⟩ = some (.int .i64 r.id) ∧ w11.cell? ⟨W.heap.size, 1, none⟩ = some (.int .i64 r.series) ∧ w11.cell? ⟨W.heap.size, 2, none⟩ = some (.int .i64 r.made) ∧ w11.cell? ⟨W.heap.size, 3, none⟩ = some (sl1) by obtain ⟨z0, z1, z2, z3⟩ := HC1.out; exact ⟨cell_kept z0 b11, cell_kept z1 b11, cell_kept z2 b11, cell_kept z3 b11⟩)); (replace HC2 := Lib.hid (show w11.cell? ⟨w7.heap.size, 0, none⟩ = some (.int .i64 r.id) ∧ w11.cell? ⟨w7.heap.size, 1, none⟩ = some (.int .i64 r.series) ∧ w11.cell? ⟨w7.heap.size, 2, none⟩ = some (.int .i64 r.made) ∧ w11.cell? ⟨w7.heap.size, 3, none⟩ = some (.slice sa1 sn1 sc1) by obtain ⟨z0, z1, z2, z3⟩ := HC2.out; exact ⟨cell_kept z0 b11, cell_kept z1 b11, cell_kept z2 b11, cell_kept z3 b11⟩)); replace HBW := Lib.hid (HBW.out.trans (b11.mono HBW.out.size)); clear b11) | (go_at_call 25; refine (eqRecord_any _ _ r r _ HOx1.out.toV HQ1.out.toV).mono ?_; rw [decide_eq_true rfl]; rintro e w12 ⟨rfl, b12⟩; have sz12 := b12.size; replace c1_0 := cell_kept c1_0 b12; replace c1_1 := cell_kept c1_1 b12; replace c1_2 := cell_kept c1_2 b12; replace c1_3 := cell_kept c1_3 b12; replace c2_0 := cell_kept c2_0 b12; replace c2_1 := cell_kept c2_1 b12; replace c2_2 := cell_kept c2_2 b12; replace c2_3 := cell_kept c2_3 b12; replace HOx0 := Lib.hid (HOx0.out.below b12); replace HOx1 := Lib.hid (HOx1.out.below b12); (replace HC1 := Lib.hid (show w12.cell? ⟨W.heap.size, 0, none⟩ = some (.int .i64 r.id) ∧ w12.cell? ⟨W.heap.size, 1, none⟩ = some (.int .i64 r.series) ∧ w12.cell? ⟨W.heap.size, 2, none⟩ = some (.int .i64 r.made) ∧ w12.cell? ⟨W.heap.size, 3, none⟩ = some (sl1) by obtain ⟨z0, z1, z2, z3⟩ := HC1.out; exact ⟨cell_kept z0 b12, cell_kept z1 b12, cell_kept z2 b12, cell_kept z3 b12⟩)); (replace HC2 := Lib.hid (show w12.cell? ⟨w7.heap.size, 0, none⟩ = some (.int .i64 r.id) ∧ w12.cell? ⟨w7.heap.size, 1, none⟩ = some (.int .i64 r.series) ∧ w12.cell? ⟨w7.heap.size, 2, none⟩ = some (.int .i64 r.made) ∧ w12.cell? ⟨w7.heap.size, 3, none⟩ = some (.slice sa1 sn1 sc1) by obtain ⟨z0, z1, z2, z3⟩ := HC2.out; exact ⟨cell_kept z0 b12, cell_kept z1 b12, cell_kept z2 b12, cell_kept z3 b12⟩)); replace HBW := Lib.hid (HBW.out.trans (b12.mono HBW.out.size)); clear b12))
      clear c1_0 c1_1 c1_2 c1_3 c2_0 c2_1 c2_2 c2_3
      clear HQ1
      go_wp2_with fail
      go_ret
      exact ⟨rfl, HBW.out⟩

set_option maxRecDepth 100000 in
theorem fnExactHeldDays_lifted (os : Os) (started : os.Started) (H : Type) (enc : TypeId × Value → H) :
    ReturnsInHanded {} Try.checked os 12 .any (Rows.fnExactHeldDaysSpec.pre6 enc Try.prog Try.f12 Rows.fnExactHeldDaysRow.domain false) (Rows.fnExactHeldDaysSpec.post enc Try.prog Try.f12 false true false false) := by
  refine returnsInHanded_of_change (C := Try.checked) Try.own started (by kernel_rfl) Try.func12
    (ChangeSpec.witness6 (enc := enc) (C := Try.checked) false ⟨#[], #[.slice none 0 0, .agg #[.int .i64 0, .int .i64 0, .int .i64 0, .slice none 0 0]], []⟩ 8 (by kernel_rfl) (by kernel_rfl) (by kernel_rfl) (by kernel_rfl)) ?_
  intro W base args ds gs before hval0 hW hcnd _
  have hval : ∀ (j : Nat) t v, Try.f12.params[j]? = some t → args[j]? = some v → Value.okWide Try.prog W .any base t v := hval0
  have hW' := hW
  obtain ⟨p, q, hA0, hV, rfl, hfz, hnd⟩ := hW
  have hA : DataW.TrodAll enc Try.prog W 0 (fun _ => true) true Try.f12.params.toList args.toList ds p := hA0
  rw [Try.params12] at hA hval
  obtain ⟨v0, vs0, d0, ds0, p0, q0, hargs, rfl, rfl, h0, r0⟩ := trodAll_cons hA
  obtain ⟨v1, vs1, d1, ds1, p1, q1, rfl, rfl, rfl, h1, r1⟩ := trodAll_cons r0
  obtain ⟨rfl, rfl, rfl⟩ := trodAll_nil r1
  obtain rfl : args = #[v0, v1] := by cases args; simp_all
  obtain ⟨rfl, rfl⟩ := trodVars_none hV
  obtain ⟨x0, w0⟩ := arg_hos (hval 0 22 v0 rfl rfl) h0
  have lt0 : ∀ x ∈ p0, x.block < W.heap.size := by obtain ⟨m, hm⟩ := h0; exact DataW.trod_lt m _ _ _ hm
  obtain ⟨x1, w1⟩ := arg_rec (hval 1 31 v1 rfl rfl) h1
  have lt1 : ∀ x ∈ p1, x.block < W.heap.size := by obtain ⟨m, hm⟩ := h1; exact DataW.trod_lt m _ _ _ hm
  clear hA0 hval0
  refine (walkHeldDays v0 x0 v1 x1 W w0 w1).mono fun e W' ⟨he, bel⟩ => ?_
  subst he
  exact ⟨_, rfl, _, _, _, [], _, [], hW', trodAll_mk1 (shut_bool Try.underlying4 _), (trodAll_cons_mk (Below.trod Try.laidOut (by kernel_rfl) (of_decide_eq_true (by kernel_rfl)) h0 bel lt0) (trodAll_cons_mk (Below.trod Try.laidOut (by kernel_rfl) (of_decide_eq_true (by kernel_rfl)) h1 bel lt1) trodAll_mk0)), rfl, bel.frame _, fun h => by cases h⟩

theorem fnExactHeldDays_proved : Rows.FnExactHeldDaysSaid :=
  OpenClaim.holds_of_wide 12 Try.f12 rfl rfl rfl rfl rfl rfl rfl ⟨rfl, rfl, rfl, rfl, rfl⟩ rfl rfl rfl rfl rfl (by kernel_rfl) Try.func12 (by kernel_rfl)
    (of_decide_eq_true (by kernel_rfl)) (by unfold Func.isWrapper; first | (rw [if_pos (by decide +kernel)]; kernel_rfl) | (rw [if_neg (by decide +kernel)]; exact ⟨rfl, rfl⟩))
    (fun os started H enc _ => fnExactHeldDays_lifted os started H enc)
end Go.Proofs.Ytkjpehpodlpdhaa
