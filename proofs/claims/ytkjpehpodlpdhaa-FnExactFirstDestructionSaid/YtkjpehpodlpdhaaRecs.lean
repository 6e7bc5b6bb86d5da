/- Lists of records: how they are read, their sizes, copies and comparisons. -/
import Derived.Test.YtkjpehpodlpdhaaEqRec
import Derived.Test.YtkjpehpodlpdhaaRecM
import Derived.Deep.RegionHeld3
namespace Go.Proofs.Ytkjpehpodlpdhaa
set_option linter.unusedVariables false
open Go.RowKit

/-- Records that are read: where they lie. -/
theorem RowR.recs {w : World} {v : Value} {rs : List Rec} (h : RowR 4 rRec w v rs) : ∃ a cap, v = .slice a rs.length cap ∧ rs.length ≤ cap ∧ cap ≤ maxLen ∧
    (rs = [] ∨ ∃ b off, b < w.heap.size ∧ a = some ⟨b, off, none⟩ ∧ ∀ i, i < rs.length → ∃ s, w.cell? ⟨b, off + i * 4, none⟩ = some (.int .i64 (rs.getD i recD).id) ∧ w.cell? ⟨b, off + i * 4 + 1, none⟩ = some (.int .i64 (rs.getD i recD).series) ∧
      w.cell? ⟨b, off + i * 4 + 2, none⟩ = some (.int .i64 (rs.getD i recD).made) ∧ w.cell? ⟨b, off + i * 4 + 3, none⟩ = some s ∧ RowR 2 rEv w s (rs.getD i recD).evs ∧ (rs.getD i recD).ok) := by
  obtain ⟨a, cap, rfl, h1, h2, h3⟩ := h
  refine ⟨a, cap, rfl, h1, h2, h3.imp id ?_⟩
  rintro ⟨b, off, hlt, rfl, hc⟩
  refine ⟨b, off, hlt, rfl, fun i hi => ?_⟩
  obtain ⟨cs, hl, hcs, s, rfl, hr, hok⟩ := hc i hi
  have f0 := hcs 0 (by omega)
  have f1 := hcs 1 (by omega)
  have f2 := hcs 2 (by omega)
  have f3 := hcs 3 (by omega)
  simp only [List.getElem_cons_zero, List.getElem_cons_succ, Nat.add_zero] at f0 f1 f2 f3
  rw [getDr_lt hi]
  exact ⟨s, f0, f1, f2, f3, hr, hok⟩

/-- How much the first k records hold: each one, and its events. -/
def szR (rs : List Rec) : Nat := (rs.map (fun r => r.evs.length)).sum
theorem szR_take_succ (rs : List Rec) (k : Nat) (h : k < rs.length) : szR (rs.take (k + 1)) = szR (rs.take k) + (rs.getD k recD).evs.length := by
  unfold szR
  rw [List.take_add_one, List.getElem?_eq_getElem h, getDr_lt h, List.map_append, List.sum_append]
  simp only [Option.toList_some, List.map_cons, List.map_nil, List.sum_cons, List.sum_nil, Nat.add_zero]
theorem szR_take_le (rs : List Rec) (k : Nat) : szR (rs.take k) ≤ szR rs := by
  have h : szR rs = szR (rs.take k) + szR (rs.drop k) := by
    unfold szR
    rw [← List.sum_append, ← List.map_append, List.take_append_drop]
  omega
theorem szR_at (rs : List Rec) (i : Nat) (h : i < rs.length) : (rs.getD i recD).evs.length ≤ szR rs := by
  have h1 := szR_take_succ rs i h
  have h2 := szR_take_le rs (i + 1)
  omega

set_option maxHeartbeats 1000000 in
/-- The size: what is left over, or -1. -/
theorem szRecordS_any (v : Value) (rs : List Rec) (left : Int) (w : World) (h : RowR 4 rRec w v rs) (h0 : 0 ≤ left) (h2 : left ≤ 1099511627776) :
    Calls Try.prog 35 #[v, .int .i64 left] w fun e w' => ∃ n : Int, e = .returned (.int .i64 n) ∧ (n < 0 ∨ (rs.length : Int) + szR rs ≤ left) ∧ (0 ≤ n ∨ n = -1) ∧ n ≤ left ∧ Below w.heap.size w w' := by
  have hcap := h.cap
  obtain ⟨a1, c1, rfl, hl1, hm1, r1⟩ := h.recs
  have R1 := Lib.hid r1
  clear h r1
  unfold maxLen at hm1
  by_cases hb : left < rs.length
  · go_enter Try.func35, Try.ntmps35
    go_wp2_with fail
    go_ret
    exact ⟨-1, rfl, Or.inl (by omega), Or.inr rfl, by omega, Below.refl _ _⟩
  · go_enter Try.func35, Try.ntmps35
    go_wp2_with fail
    go_loopw [1, 5] (fun l i wr => ∃ (k : Nat) (n : Int), k ≤ rs.length ∧ i = .int .i64 k ∧ l = .int .i64 n ∧ Hid (n = left - rs.length - szR (rs.take k)) ∧ 0 ≤ n ∧ n ≤ left ∧ Below w.heap.size w wr) (fun _ i _ => rs.length - (intOf i).toNat)
    case atStart => exact ⟨0, left - rs.length, Nat.zero_le _, rfl, rfl, Lib.hid (by simp [szR]), by omega, by omega, Below.refl _ _⟩
    case round =>
      obtain ⟨k, n, hk, rfl, rfl, HN, hn0, hnl, hb⟩ := hrel
      by_cases hlt : k < rs.length
      · obtain ⟨b1, o1, hb1, rfl, e1⟩ := R1.out.resolve_left (fun e => by rw [e] at hlt; simp at hlt)
        obtain ⟨s, q0, q1, q2, q3, hr, hok⟩ := e1 k hlt
        obtain ⟨r, hx⟩ : ∃ s, rs.getD k recD = s := ⟨_, rfl⟩
        rw [hx] at q0 q1 q2 hr hok
        have f0 := cell_kept q0 hb
        have f1 := cell_kept q1 hb
        have f2 := cell_kept q2 hb
        have f3 := cell_kept q3 hb
        have HX := Lib.hid hx
        have hV : RecV wr (.agg #[.int .i64 r.id, .int .i64 r.series, .int .i64 r.made, s]) r := ⟨s, rfl, hr.below rEv_stable hb, hok⟩
        have HV := Lib.hid hV
        have g0 : (0 : Int) ≤ (k : Int) := by omega
        have g1 : (k : Int) < (rs.length : Int) := by omega
        have hw := hb.size
        clear q0 q1 q2 q3 hr hok hx e1 hV
        by_cases hfit : n < r.evs.length
        · go_wp2_with fail
          refine (szRecord_any _ r n _ HV.out hn0 (by omega)).mono ?_
          rw [if_pos (by omega)]
          rintro e w1 ⟨rfl, b2⟩
          go_wp2_with fail
          go_ret
          exact ⟨-1, rfl, Or.inl (by omega), Or.inr rfl, by omega, hb.trans (b2.mono hw)⟩
        · go_wp2_with fail
          refine (szRecord_any _ r n _ HV.out hn0 (by omega)).mono ?_
          rw [if_neg (by omega)]
          rintro e w1 ⟨rfl, b2⟩
          go_wp2_with fail
          go_roundw
          case rel =>
            refine ⟨k + 1, n - r.evs.length, by omega, by go_num, rfl, Lib.hid ?_, by omega, by omega, hb.trans (b2.mono hw)⟩
            have h1 := szR_take_succ rs k hlt
            rw [HX.out] at h1
            have h2 := HN.out
            omega
          case measure => simp [intOf]; omega
      · obtain rfl : k = rs.length := by omega
        go_wp2_with fail
        go_ret
        refine ⟨n, rfl, Or.inr ?_, Or.inl hn0, hnl, hb⟩
        have := HN.out
        rw [List.take_length] at this
        omega

theorem Try.info_record : (Try.prog.info? 38).map (fun i => (i.zero, i.size, i.bytes)) = some (some (.agg #[.int .i64 0, .int .i64 0, .int .i64 0, .slice none 0 0]), 4, 48) := by kernel_rfl

def recC (r : Rec) (s : Value) : List Value := [.int .i64 r.id, .int .i64 r.series, .int .i64 r.made, s]
/-- Records in memory of the call's own: the list ahead, the events of each record behind those of the one before it. -/
def RecsO (lo hi : Nat) (w : World) (v : Value) (rs : List Rec) : Prop :=
  ∃ (css : List (List Value)) (f : Nat → Nat), css.length = rs.length ∧ Own lo 38 4 w v css ∧ Under (f 0) v ∧ lo ≤ f 0 ∧ (∀ i, i < rs.length → f i ≤ f (i + 1)) ∧ f rs.length ≤ hi ∧
    ∀ i (h1 : i < css.length) (h2 : i < rs.length), ∃ s, css[i] = recC rs[i] s ∧ EvsO (f i) (f (i + 1)) w s rs[i].evs ∧ rs[i].ok
theorem RecsO.row {lo hi : Nat} {w : World} {v : Value} {rs : List Rec} (h : RecsO lo hi w v rs) : RowR 4 rRec w v rs := by
  obtain ⟨css, f, hl, ho, _, _, _, _, he⟩ := h
  refine ho.row hl fun i h1 h2 => ?_
  obtain ⟨s, e, hs, hok⟩ := he i h1 h2
  exact ⟨s, e, hs.row, hok⟩
theorem RecsO.below {lo hi : Nat} {w w' : World} {v : Value} {rs : List Rec} (h : RecsO lo hi w v rs) (hb : Below w.heap.size w w') : RecsO lo hi w' v rs := by
  obtain ⟨css, f, hl, ho, h1, h2, h3, h4, he⟩ := h
  refine ⟨css, f, hl, ho.below hb, h1, h2, h3, h4, fun i a b => ?_⟩
  obtain ⟨s, e, hs, hok⟩ := he i a b
  exact ⟨s, e, hs.below hb, hok⟩

theorem RecsO.only {lo hi lo' hi' : Nat} {w w' : World} {v : Value} {rs : List Rec} (h : RecsO lo hi w v rs) (hb : Only lo' hi' w w') (hh : hi' ≤ lo) : RecsO lo hi w' v rs := by
  obtain ⟨css, f, hl, ho, h1, h2, h3, h4, he⟩ := h
  refine ⟨css, f, hl, ho.only hb hh, h1, h2, h3, h4, fun i a b => ?_⟩
  obtain ⟨s, e, hs, hok⟩ := he i a b
  exact ⟨s, e, hs.only hb (by have := mono_up h3 0 i (Nat.zero_le _) (by omega); omega), hok⟩

set_option maxHeartbeats 2000000 in
theorem toRecordS_any (v : Value) (rs : List Rec) (w : World) (h : RowR 4 rRec w v rs) (hn : rs.length + szR rs ≤ 1048576) :
    Calls Try.prog 37 #[v] w fun en w' => ∃ v', en = .returned v' ∧ RecsO w.heap.size w'.heap.size w' v' rs ∧ Below w.heap.size w w' := by
  obtain ⟨i0, hi, hz0, hz1, hz2⟩ := info_parts Try.info_record
  obtain ⟨a1, c1, rfl, hl1, hm1, r1⟩ := h.recs
  have R1 := Lib.hid r1
  clear h r1
  unfold maxLen at hm1
  go_enter Try.func37, Try.ntmps37
  go_wp2_with (first | (at_make; refine wpList_make_full _ rfl _ _ 54 rfl w.heap.size 38 i0 _ 4 Try.underlying54 hi hz0 hz1 .i64 .i64 _ _ rs.length rfl rfl rfl rfl (by rw [hz2]; omega) (by unfold maxLen; omega) (Nat.le_refl _) ?_; intro w1 hown1 hgrow1; have HOWN := Lib.hid hown1; have HGROW := Lib.hid hgrow1; clear hown1 hgrow1))
  go_loopw [4] (fun i wr => ∃ (k : Nat) (css : List (List Value)) (f : Nat → Nat), k ≤ rs.length ∧ i = .int .i64 k ∧ css.length = rs.length ∧ Own w.heap.size 38 4 wr (.slice (some ⟨w.heap.size, 0, none⟩) rs.length rs.length) css ∧
      Hid (f 0 = w.heap.size + 1 ∧ (∀ i, i < k → f i ≤ f (i + 1)) ∧ f k ≤ wr.heap.size ∧ ∀ i (h1 : i < css.length) (h2 : i < rs.length), i < k → ∃ s, css[i] = recC rs[i] s ∧ EvsO (f i) (f (i + 1)) wr s rs[i].evs ∧ rs[i].ok) ∧ Below w.heap.size w wr) (fun i _ => rs.length - (intOf i).toNat)
  case atStart =>
    refine ⟨0, List.replicate rs.length (#[.int .i64 0, .int .i64 0, .int .i64 0, .slice none 0 0] : Array Value).toList, fun _ => w.heap.size + 1, Nat.zero_le _, rfl, by simp, ?_, Lib.hid ⟨rfl, fun i h => absurd h (Nat.not_lt_zero _), (HOWN.out.lt _ rfl).2, fun i _ _ h => absurd h (Nat.not_lt_zero _)⟩, below_of_grow HGROW.out (Nat.le_refl _) (fun k h => by cases h)⟩
    exact Own.made (z := #[.int .i64 0, .int .i64 0, .int .i64 0, .slice none 0 0]) rfl (by omega) HOWN.out
  case round =>
    obtain ⟨k, css, f, hk, rfl, hcl, hO, I, hb⟩ := hrel
    have HO := Lib.hid hO
    have HCL := Lib.hid hcl
    by_cases hlt : k < rs.length
    · obtain ⟨b1, o1, hb1, rfl, e1⟩ := R1.out.resolve_left (fun e => by rw [e] at hlt; simp at hlt)
      obtain ⟨s, q0, q1, q2, q3, hr, hok⟩ := e1 k hlt
      obtain ⟨r, hx⟩ : ∃ s, rs.getD k recD = s := ⟨_, rfl⟩
      have hsz := szR_at rs k hlt
      rw [hx] at q0 q1 q2 hr hok hsz
      rw [getDr_lt hlt] at hx
      have f0 := cell_kept q0 hb
      have f1 := cell_kept q1 hb
      have f2 := cell_kept q2 hb
      have f3 := cell_kept q3 hb
      have HX := Lib.hid hx
      have hV : RecV wr (.agg #[.int .i64 r.id, .int .i64 r.series, .int .i64 r.made, s]) r := ⟨s, rfl, hr.below rEv_stable hb, hok⟩
      have HV := Lib.hid hV
      have g0 : (0 : Int) ≤ (k : Int) := by omega
      have g1 : (k : Int) < (rs.length : Int) := by omega
      have hw := hb.size
      clear q0 q1 q2 q3 hr hok hx e1 hV hO hcl HOWN HGROW
      go_wp2_with fail
      refine (toRecord_any _ r _ HV.out (by omega)).mono ?_
      rintro e w2 ⟨v2, rfl, ho, b2⟩
      obtain ⟨s2, rfl, hev, hok⟩ := ho
      obtain ⟨sa, sn, sc, rfl⟩ := hev.1.slice
      have hO2 := HO.out.below b2
      obtain ⟨y0, y1, y2, y3, hy⟩ : ∃ y0 y1 y2 y3, css[k]'(by rw [HCL.out]; exact hlt) = [y0, y1, y2, y3] := by
        have h4 := HO.out.2 _ (List.getElem_mem (by rw [HCL.out]; exact hlt : k < css.length))
        match css[k]'(by rw [HCL.out]; exact hlt), h4 with
        | [y0, y1, y2, y3], _ => exact ⟨_, _, _, _, rfl⟩
      have c0 := hO2.cell k 0 (by rw [HCL.out]; exact hlt) (by omega)
      have c1 := hO2.cell k 1 (by rw [HCL.out]; exact hlt) (by omega)
      have c2 := hO2.cell k 2 (by rw [HCL.out]; exact hlt) (by omega)
      have c3 := hO2.cell k 3 (by rw [HCL.out]; exact hlt) (by omega)
      rw [hy] at c0 c1 c2 c3
      have fr0 := hO2.frozen (k * 4)
      have fr1 := hO2.frozen (k * 4 + 1)
      have fr2 := hO2.frozen (k * 4 + 2)
      have fr3 := hO2.frozen (k * 4 + 3)
      simp at c0 c1 c2 c3
      have HO2 := Lib.hid hO2
      have HEV := Lib.hid hev
      have HOK := Lib.hid hok
      clear hO2 hev hok hy
      go_wp2_with fail
      go_roundw
      case rel =>
        have hkc : k < css.length := by rw [HCL.out]; exact hlt
        obtain ⟨p1, p2⟩ := HO2.out.put k hkc (recC r (.slice sa sn sc)) rfl
        have hon : Only w.heap.size (w.heap.size + 1) w2 (w2.setCells w.heap.size (k * 4) (recC r (.slice sa sn sc))) :=
          Only.of_grown (v := .slice (some ⟨w.heap.size, 0, none⟩) rs.length rs.length) p2 (fun g hg => by simp [Value.ownBlock] at hg; omega) (fun g hg => by simp [Value.ownBlock] at hg; omega)
        obtain ⟨I0, I1, I2, I3⟩ := I.out
        have hgt : w.heap.size + 1 ≤ wr.heap.size := by have := mono_up I1 0 k (Nat.zero_le _) (Nat.le_refl _); omega
        have key : ∀ i (h1 : i < (css.set k (recC r (.slice sa sn sc))).length) (h2 : i < rs.length), i < k + 1 → ∃ s, (css.set k (recC r (.slice sa sn sc)))[i] = recC rs[i] s ∧ EvsO (upd f (k + 1) w2.heap.size i) (upd f (k + 1) w2.heap.size (i + 1)) (w2.setCells w.heap.size (k * 4) (recC r (.slice sa sn sc))) s rs[i].evs ∧ rs[i].ok := by
          intro i h1 h2 h3
          rw [upd_ne f _ (by omega : i ≠ k + 1)]
          rcases Nat.lt_or_ge i k with h' | h'
          · obtain ⟨s', e1, e2, e3⟩ := I3 i (by rw [HCL.out]; exact h2) h2 h'
            rw [upd_ne f _ (by omega : i + 1 ≠ k + 1)]
            exact ⟨s', by rw [List.getElem_set_ne (by omega)]; exact e1, (e2.below b2).only hon (by rw [← I0]; exact mono_up I1 0 i (Nat.zero_le _) (by omega)), e3⟩
          · obtain rfl : i = k := by omega
            rw [upd_at]
            refine ⟨.slice sa sn sc, by rw [List.getElem_set_self, HX.out], ?_, by rw [HX.out]; exact HOK.out⟩
            rw [HX.out]
            exact (HEV.out.only hon hgt).wide I2 (Nat.le_refl _)
        refine ⟨k + 1, css.set k (recC r (.slice sa sn sc)), upd f (k + 1) w2.heap.size, by omega, by go_num, by rw [List.length_set]; exact HCL.out, p1, Lib.hid ⟨by rw [upd_ne f _ (by omega)]; exact I0, fun i hi => ?_, by rw [upd_at]; exact p2.size, key⟩, (hb.trans (b2.mono hb.size)).grown p2 (Nat.le_trans hb.size b2.size) (fun _ h => by cases h; exact Nat.le_refl _)⟩
        rw [upd_ne f _ (by omega : i ≠ k + 1)]
        rcases Nat.lt_or_ge i k with h' | h'
        · rw [upd_ne f _ (by omega : i + 1 ≠ k + 1)]
          exact I1 i h'
        · obtain rfl : i = k := by omega
          rw [upd_at]
          exact Nat.le_trans I2 b2.size
      case measure => simp [intOf]; omega
    · clear hO
      go_wp2_with fail
      go_ret
      obtain rfl : k = rs.length := by omega
      obtain ⟨I0, I1, I2, I3⟩ := I.out
      exact ⟨_, rfl, ⟨css, f, HCL.out, HO.out, (by rw [I0]; intro g hg; simp [Value.ownBlock] at hg; omega), by omega, I1, I2, fun i h1 h2 => I3 i h1 h2 h2⟩, hb⟩

set_option maxHeartbeats 1000000 in
theorem eqRecordS_any (v1 v2 : Value) (xs ys : List Rec) (w : World) (h1 : RowR 4 rRec w v1 xs) (h2 : RowR 4 rRec w v2 ys) :
    Calls Try.prog 39 #[v1, v2] w fun e w' => e = .returned (.bool (decide (xs = ys))) ∧ Below w.heap.size w w' := by
  have hx := h1.cap
  have hy := h2.cap
  obtain ⟨a1, c1, rfl, hl1, hm1, r1⟩ := h1.recs
  obtain ⟨a2, c2, rfl, hl2, hm2, r2⟩ := h2.recs
  clear h1 h2
  by_cases hlen : xs.length = ys.length
  · have hLen := Lib.hid hlen
    have hne : (((xs.length : Nat) : Int) != (xs.length : Int)) = false := by simp
    rw [← hlen]
    clear hlen
    have R1 := Lib.hid r1
    have R2 := Lib.hid r2
    clear r1 r2
    go_enter Try.func39, Try.ntmps39
    go_wp2
    go_loopw [5] (fun i wr => ∃ k : Nat, k ≤ xs.length ∧ i = .int .i64 k ∧ Hid (∀ j, j < k → xs.getD j recD = ys.getD j recD) ∧ Below w.heap.size w wr) (fun i _ => xs.length - (intOf i).toNat)
    case atStart => exact ⟨0, Nat.zero_le _, rfl, Lib.hid (fun j h => by omega), Below.refl _ _⟩
    case round =>
      obtain ⟨k, hk, rfl, HJ, hb⟩ := hrel
      by_cases hlt : k < xs.length
      · obtain ⟨b1, o1, hb1, rfl, e1⟩ := R1.out.resolve_left (fun e => by rw [e] at hlt; simp at hlt)
        obtain ⟨b2, o2, hb2, rfl, e2⟩ := R2.out.resolve_left (fun e => by have := hLen.out; rw [e] at this; simp at this; rw [this] at hlt; simp at hlt)
        obtain ⟨s1, q0, q1, q2, q3, hr1, hok1⟩ := e1 k hlt
        obtain ⟨s2, z0, z1, z2, z3, hr2, hok2⟩ := e2 k (by have := hLen.out; omega)
        obtain ⟨r1, hx⟩ : ∃ s, xs.getD k recD = s := ⟨_, rfl⟩
        obtain ⟨r2, hy⟩ : ∃ s, ys.getD k recD = s := ⟨_, rfl⟩
        rw [hx] at q0 q1 q2 hr1 hok1
        rw [hy] at z0 z1 z2 hr2 hok2
        have f10 := cell_kept q0 hb
        have f11 := cell_kept q1 hb
        have f12 := cell_kept q2 hb
        have f13 := cell_kept q3 hb
        have f20 := cell_kept z0 hb
        have f21 := cell_kept z1 hb
        have f22 := cell_kept z2 hb
        have f23 := cell_kept z3 hb
        have hV1 : ∀ W, Below wr.heap.size wr W → RecV W (.agg #[.int .i64 r1.id, .int .i64 r1.series, .int .i64 r1.made, s1]) r1 := fun W hW => ⟨s1, rfl, (hr1.below rEv_stable hb).below rEv_stable hW, hok1⟩
        have hV2 : ∀ W, Below wr.heap.size wr W → RecV W (.agg #[.int .i64 r2.id, .int .i64 r2.series, .int .i64 r2.made, s2]) r2 := fun W hW => ⟨s2, rfl, (hr2.below rEv_stable hb).below rEv_stable hW, hok2⟩
        have HV1 := Lib.hid hV1
        have HV2 := Lib.hid hV2
        have HX := Lib.hid hx
        have HY := Lib.hid hy
        have hsz := hb.size
        have g0 : (0 : Int) ≤ (k : Int) := by omega
        have g1 : (k : Int) < (xs.length : Int) := by omega
        clear q0 q1 q2 q3 z0 z1 z2 z3 hr1 hr2 hok1 hok2 e1 e2 hx hy hV1 hV2
        obtain ⟨bb, hbb⟩ : ∃ bb, decide (r1 = r2) = bb := ⟨_, rfl⟩
        have HB := Lib.hid hbb
        clear hbb
        cases bb
        all_goals
          go_wp2_with fail
          go_region_held3 (fun w' => w'.cell? ⟨b1, o1 + k * 4, none⟩ = some (.int .i64 r1.id) ∧ w'.cell? ⟨b1, o1 + k * 4 + 1, none⟩ = some (.int .i64 r1.series) ∧ w'.cell? ⟨b1, o1 + k * 4 + 2, none⟩ = some (.int .i64 r1.made) ∧ w'.cell? ⟨b1, o1 + k * 4 + 3, none⟩ = some s1 ∧
              w'.cell? ⟨b2, o2 + k * 4, none⟩ = some (.int .i64 r2.id) ∧ w'.cell? ⟨b2, o2 + k * 4 + 1, none⟩ = some (.int .i64 r2.series) ∧ w'.cell? ⟨b2, o2 + k * 4 + 2, none⟩ = some (.int .i64 r2.made) ∧ w'.cell? ⟨b2, o2 + k * 4 + 3, none⟩ = some s2)
            (first | exact ⟨f10, f11, f12, f13, f20, f21, f22, f23⟩ | exact ⟨cell_keptd f10 b7, cell_keptd f11 b7, cell_keptd f12 b7, cell_keptd f13 b7, cell_keptd f20 b7, cell_keptd f21 b7, cell_keptd f22 b7, cell_keptd f23 b7⟩)
            (first | (go_at_call 25; refine (eqRecord_any _ _ r1 r2 _ (HV1.out _ (Below.refl _ _).drew) (HV2.out _ (Below.refl _ _).drew)).mono ?_; rw [HB.out]; rintro e w7 ⟨rfl, b7⟩))
        · go_wp2_with fail
          go_ret
          refine ⟨ret_bool (Eq.symm (decide_eq_false fun e => ?_)), hb.drew.trans (b7.mono hsz)⟩
          have h1 := of_decide_eq_false HB.out
          subst e
          exact h1 (HX.out.symm.trans HY.out)
        · go_wp2_with fail
          go_roundw
          case rel =>
            refine ⟨k + 1, by omega, by go_num, Lib.hid (fun j h => ?_), hb.drew.trans (b7.mono hsz)⟩
            rcases Nat.lt_or_ge j k with h' | h'
            · exact HJ.out j h'
            · obtain rfl : j = k := by omega
              rw [HX.out, HY.out]
              exact of_decide_eq_true HB.out
          case measure => simp [intOf]; omega
      · go_wp2_with fail
        go_ret
        refine ⟨ret_bool (Eq.symm (decide_eq_true ?_)), hb⟩
        refine List.ext_getElem hLen.out fun i a b => ?_
        have := HJ.out i (by omega)
        rwa [getDr_lt a, getDr_lt b] at this
  · have hne : (((xs.length : Nat) : Int) != (ys.length : Int)) = true := by simp; omega
    rw [decide_eq_false (fun e => hlen (by rw [e]))]
    go_enter Try.func39, Try.ntmps39
    go_wp2
    go_ret
    exact ⟨rfl, Below.refl _ _⟩
end Go.Proofs.Ytkjpehpodlpdhaa
