/- slices.Grow of a nil slice of integers, slices.Concat of two slices of integers. -/
import Derived.Test.YtcfghigmijibeaaIntsN
import Derived.Test.YtcfghigmijibeaaFoW
import Derived.Test.YtcfghigmijibeaaFo5P
import Derived.Lib.AppendZeros
namespace Go.Proofs.Ytcfghigmijibeaa
set_option linter.unusedVariables false
open Go.RowKit Go.Sort

theorem size_zc (z : Value) (n : Nat) : (Builtin.zeroCells #[z] n).size = n := by simp [Builtin.zeroCells]
set_option maxRecDepth 20000 in
set_option maxHeartbeats 4000000 in
theorem growN_any (n : Nat) (h0 : 0 < n) (h1 : n ≤ 1048576) (w : World) :
    Calls Try.prog 93 #[.slice none 0 0, .int .i64 n] w fun e w' => ∃ v', e = .returned v' ∧ w'.ownsRow w.heap.size 3 1 v' 0 [] ∧ Below w.heap.size w w' := by
  obtain ⟨i0, hi, hz0, hz1, hz2⟩ := info_parts Try.info_intN
  have g0 : (0 : Int) < (n : Int) := by omega
  have g1 : decide ((n : Int) < 0) = false := decide_eq_false (by omega)
  go_enter Try.func93, Try.ntmps93
  go_wp2_with (first | (at_builtin; refine Lib.wpList_append_run _ rfl _ _ 39 3 rfl (.slice none 0 0) (.int .i64 n) rfl rfl _ _ (Lib.run_append_nil_zeros _ 39 3 _ 3 i0 (.int .i64 0) .i64 .i64 Try.underlying39 Try.underlying3 hi hz0 n h0 (by omega) (by omega) (by rw [hz2]; omega)) ?_; generalize hcap : grownCap _ n 0 _ = cap; have hge : n ≤ cap := (by rw [← hcap]; exact grownCap_ge _ _ _ _); have hmx : cap ≤ maxLen := (by rw [← hcap]; exact grownCap_le_maxLen _ _ _ _ (by unfold maxLen; omega)); have HMX := hmx; unfold maxLen at hmx))
  go_ret
  refine ⟨_, rfl, ?_, ?_⟩
  · exact World.ownsRow_made (base := w.heap.size) (e := 3) (size := 1) w.drew _ cap (Nat.le_refl _) HMX (by simp [size_zc]; omega)
  · exact below_al (Below.refl w.heap.size w).drew _

theorem own0 {W : World} {b : Nat} {e : TypeId} {v : Value} (h : W.ownsRow b e 1 v ([] : List Int).length (([] : List Int).map vI)) : W.ownsRow b e 1 v 0 [] := h
def triS (i s : Value) (a b : Nat) : Prop := (i = .int .i64 0 ∧ s = .int .i64 0) ∨ (i = .int .i64 1 ∧ s = .int .i64 a) ∨ (i = .int .i64 2 ∧ s = .int .i64 (a + b))
def triL (i : Value) (xs p1 p2 : List Int) : Prop := (i = .int .i64 0 ∧ xs = []) ∨ (i = .int .i64 1 ∧ xs = p1) ∨ (i = .int .i64 2 ∧ xs = p1 ++ p2)
set_option maxRecDepth 20000 in
set_option maxHeartbeats 4000000 in
theorem concat_any (B : Nat) (v1 v2 : Value) (p1 p2 : List Int) (w : World) (hB1 : w.cell? ⟨B, 0, none⟩ = some v1) (hB2 : w.cell? ⟨B, 1, none⟩ = some v2) (h1 : RowOf vI w v1 p1) (h2 : RowOf vI w v2 p2) (n1 : 0 < p1.length) (n2 : 0 < p2.length) (m1 : p1.length ≤ 1000) (m2 : p2.length ≤ 1000) :
    Calls Try.prog 84 #[.slice (some ⟨B, 0, none⟩) 2 2] w fun e w' => ∃ v', e = .returned v' ∧ w'.ownsRow w.heap.size 3 1 v' (p1 ++ p2).length ((p1 ++ p2).map vI) ∧ Below w.heap.size w w' := by
  obtain ⟨i0, hi, hz0, hz1, hz2⟩ := info_parts Try.info_intN
  obtain ⟨a1, c1, rfl, hl1, hm1, r1⟩ := h1
  obtain ⟨a2, c2, rfl, hl2, hm2, r2⟩ := h2
  unfold maxLen at hm1 hm2
  obtain ⟨b1, o1, hb1, rfl, e1⟩ := r1.resolve_left (fun e => by rw [e] at n1; simp at n1)
  obtain ⟨b2, o2, hb2, rfl, e2⟩ := r2.resolve_left (fun e => by rw [e] at n2; simp at n2)
  have cells : ∀ (b o : Nat) (p : List Int), (∀ (i : Nat) (h : i < p.length), w.cell? ⟨b, o + i, none⟩ = some (vI p[i])) → ∀ W, Below w.heap.size w W → ∀ j u, (p.map vI)[j]? = some u → W.cell? ((⟨b, o, none⟩ : Addr).add j) = some u := fun b o p hp W hW j u hj => by
    rw [List.getElem?_map] at hj
    obtain ⟨z, hz, rfl⟩ := Option.map_eq_some_iff.1 hj
    obtain ⟨q1, q2⟩ := List.getElem?_eq_some_iff.1 hz
    rw [Addr.add_lit, ← q2]
    exact cell_kept (hp j q1) hW
  have C1 := Lib.hid (cells b1 o1 p1 e1)
  have C2 := Lib.hid (cells b2 o2 p2 e2)
  have one : ∀ (p : List Int), ∀ u ∈ p.map vI, u.oneCell' = true := fun p u hu => by obtain ⟨z, _, rfl⟩ := List.mem_map.1 hu; rfl
  have O1 := Lib.hid (one p1)
  have O2 := Lib.hid (one p2)
  clear cells e1 e2 r1 r2 one
  go_enter Try.func84, Try.ntmps84
  go_wp2_with fail
  go_loopw [3, 11] (fun s i wr => Hid (triS i s p1.length p2.length) ∧ w = wr) (fun _ i _ => 2 - (Go.RowKit.intOf i).toNat)
  case atStart => exact ⟨Lib.hid (.inl ⟨rfl, rfl⟩), by trivial⟩
  case round =>
    obtain ⟨HT, hww⟩ := hrel
    subst hww
    rcases HT.out with ⟨rfl, rfl⟩ | ⟨rfl, rfl⟩ | ⟨rfl, rfl⟩
    · have g1 : decide ((p1.length : Int) < 0) = false := decide_eq_false (by omega)
      go_wp2_with fail
      go_roundw
      case rel => exact ⟨Lib.hid (.inr (.inl ⟨rfl, rfl⟩)), by trivial⟩
      case measure => simp [Go.RowKit.intOf]
    · have g1 : decide ((p1.length : Int) + (p2.length : Int) < 0) = false := decide_eq_false (by omega)
      go_wp2_with fail
      go_roundw
      case rel => exact ⟨Lib.hid (.inr (.inr ⟨rfl, rfl⟩)), by trivial⟩
      case measure => simp [Go.RowKit.intOf]
    · go_wp2_with (first | (go_at_call 93; rw [show ((p1.length : Int) + (p2.length : Int)) = ((p1.length + p2.length : Nat) : Int) by omega]; refine (growN_any (p1.length + p2.length) (by omega) (by omega) _).mono ?_; rintro e w3 ⟨v3, rfl, ho3, b3⟩; have HO3 := Lib.hid ho3; clear ho3))
      go_loopw [6, 27] (fun o i wr => ∃ xs : List Int, Hid (triL i xs p1 p2) ∧ Hid (wr.ownsRow w.heap.size 3 1 o xs.length (xs.map vI)) ∧ Below w.heap.size w wr) (fun _ i _ => 2 - (Go.RowKit.intOf i).toNat)
      case atStart => exact ⟨[], Lib.hid (.inl ⟨rfl, rfl⟩), HO3, b3⟩
      case round =>
        obtain ⟨xs, HT, HO, hb⟩ := hrel
        have hs := hb.size
        have k1 := cell_kept hB1 hb
        have k2 := cell_kept hB2 hb
        rcases HT.out with ⟨rfl, rfl⟩ | ⟨rfl, rfl⟩ | ⟨rfl, rfl⟩
        · have HO0 := Lib.hid (own0 HO.out)
          go_wp2_with (first | (at_builtin; refine wpList_append_own _ rfl _ _ 39 rfl w.heap.size 3 i0 (.int .i64 0) 1 8 Try.underlying39 hi hz0 hz1 hz2 rfl (by decide) _ _ _ rfl HO0.out ⟨b1, o1, none⟩ p1.length c1 (p1.map vI) rfl (by simp) (C1.out _ hb) O1.out (by unfold maxLen; omega) (by omega) (by omega) ?_; intro v' w4 hown' hgrow _))
          have HOWN := Lib.hid hown'
          have HB := Lib.hid (hb.grown hgrow hs (fun k hk => (HO.out.lt k hk).1))
          clear hown' hgrow
          go_wp2_with fail
          go_roundw
          case rel => exact ⟨_, Lib.hid (.inr (.inl ⟨rfl, rfl⟩)), Lib.hid (by simpa using HOWN.out), HB.out⟩
          case measure => simp [Go.RowKit.intOf]
        · go_wp2_with (first | (at_builtin; refine wpList_append_own _ rfl _ _ 39 rfl w.heap.size 3 i0 (.int .i64 0) 1 8 Try.underlying39 hi hz0 hz1 hz2 rfl (by decide) _ _ _ rfl HO.out ⟨b2, o2, none⟩ p2.length c2 (p2.map vI) rfl (by simp) (C2.out _ hb) O2.out (by unfold maxLen; omega) (by omega) (by omega) ?_; intro v' w4 hown' hgrow _))
          have HOWN := Lib.hid hown'
          have HB := Lib.hid (hb.grown hgrow hs (fun k hk => (HO.out.lt k hk).1))
          clear hown' hgrow
          go_wp2_with fail
          go_roundw
          case rel => exact ⟨_, Lib.hid (.inr (.inr ⟨rfl, rfl⟩)), Lib.hid (by simpa using HOWN.out), HB.out⟩
          case measure => simp [Go.RowKit.intOf]
        · go_wp2_with fail
          go_ret
          exact ⟨_, rfl, HO.out, hb⟩
end Go.Proofs.Ytcfghigmijibeaa
