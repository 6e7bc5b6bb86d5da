/- Tables of integers, rows of rows of the call's own: compared, marked, and the marks found again. -/
import Derived.Test.YtpbjddiopfkgbaaInts
import Derived.Lib.QuietBelow
import Derived.BigQuiet
namespace Go.Proofs.Ytpbjddiopfkgbaa
set_option linter.unusedVariables false
open Go.RowKit Go.Sort

/-- The value v reads as the rows xss. -/
def TabR (w : World) (v : Value) (xss : List (List Int)) : Prop := ∃ a cap, v = .slice a xss.length cap ∧ xss.length ≤ cap ∧ cap ≤ maxLen ∧
  (xss = [] ∨ ∃ b off, b < w.heap.size ∧ a = some ⟨b, off, none⟩ ∧ ∀ i (h : i < xss.length), ∃ sv, w.cell? ⟨b, off + i, none⟩ = some sv ∧ RowOf vI w sv xss[i])
theorem TabR.below {w w' : World} {v : Value} {xss : List (List Int)} (h : TabR w v xss) (hb : Below w.heap.size w w') : TabR w' v xss := by
  obtain ⟨a, cap, rfl, h1, h2, h3⟩ := h
  refine ⟨a, cap, rfl, h1, h2, h3.imp id ?_⟩
  rintro ⟨b, off, hlt, rfl, hc⟩
  refine ⟨b, off, Nat.lt_of_lt_of_le hlt hb.size, rfl, fun i hi => ?_⟩
  obtain ⟨sv, h4, h5⟩ := hc i hi
  exact ⟨sv, (hb.cell (p := ⟨b, off + i, none⟩) hlt).trans h4, h5.below hb⟩
theorem TabR.cap {w : World} {v : Value} {xss : List (List Int)} (h : TabR w v xss) : xss.length ≤ 9223372036854775807 := by
  obtain ⟨a, cap, rfl, h1, h2, h3⟩ := h; unfold maxLen at h2; omega

/-- Two slices in different blocks. -/
def Apart (a b : Value) : Prop := ∀ g, a.ownBlock = some g → b.ownBlock ≠ some g
theorem Apart.symm {a b : Value} (h : Apart a b) : Apart b a := fun g h1 h2 => h g h2 h1
def TabO (lo hi : Nat) (w : World) (v : Value) (xss : List (List Int)) : Prop := ∃ svs : List Value, svs.length = xss.length ∧ w.ownsRow lo 31 1 v xss.length svs ∧ Under hi v ∧
  (∀ i (h1 : i < svs.length) (h2 : i < xss.length), IntsO lo hi w svs[i] xss[i] ∧ Apart v svs[i]) ∧ ∀ i j (h1 : i < svs.length) (h2 : j < svs.length), i ≠ j → Apart svs[i] svs[j]

theorem ownsRow_apart {w w' : World} {lo hi base e size n : Nat} {v : Value} {xs : List Value} (h : w.ownsRow base e size v n xs) (ho : Only lo hi w w') (hn : ∀ g, v.ownBlock = some g → g < lo ∨ hi ≤ g) : w'.ownsRow base e size v n xs :=
  ⟨h.1, h.2.imp id fun ⟨g, cap, cur, e, hg, hbk, r⟩ => ⟨g, cap, cur, e, hg, (ho.block g (Array.getElem?_eq_some_iff.1 hbk).1 (hn g (by rw [e]; rfl))).trans hbk, r⟩⟩
theorem ownsRow_base {w : World} {base base' e size n : Nat} {v : Value} {xs : List Value} (h : w.ownsRow base e size v n xs) (hn : ∀ g, v.ownBlock = some g → base' ≤ g) : w.ownsRow base' e size v n xs :=
  ⟨h.1, h.2.imp id fun ⟨g, cap, cur, e, hg, hbk, r⟩ => ⟨g, cap, cur, e, hn g (by rw [e]; rfl), hbk, r⟩⟩
/-- A row lies in its own block alone. -/
theorem IntsO.tight {lo hi : Nat} {w : World} {v : Value} {xs : List Int} (h : IntsO lo hi w v xs) : ∃ l u, IntsO l u w v xs ∧ (∀ g, l ≤ g → g < u → v.ownBlock = some g) ∧ (l < u → lo ≤ l ∧ u ≤ hi) := by
  rcases hv : v.ownBlock with _ | g
  · exact ⟨0, 0, ⟨ownsRow_base h.1 (fun g e => by rw [hv] at e; cases e), fun g e => by rw [hv] at e; cases e⟩, fun g _ h2 => by omega, fun h => by omega⟩
  · exact ⟨g, g + 1, ⟨ownsRow_base h.1 (fun k e => by rw [hv] at e; cases e; exact Nat.le_refl _), fun k e => by rw [hv] at e; cases e; omega⟩, fun k h1 h2 => by rw [show k = g by omega], fun _ => ⟨(h.1.lt g hv).1, by have := h.2 g hv; omega⟩⟩

section
variable {lo hi lo' hi' : Nat} {w w' : World} {v : Value} {xss : List (List Int)}
theorem TabO.row (h : TabO lo hi w v xss) : TabR w v xss := by
  obtain ⟨svs, hl, ho, hu, hr, _⟩ := h
  obtain ⟨a, cap, rfl, h1, h2, h3⟩ := RowOf.of_owns (enc := id) (by rw [List.map_id]; rw [← hl] at ho; exact ho)
  rw [hl] at h1 ⊢
  refine ⟨a, cap, rfl, h1, h2, ?_⟩
  rcases h3 with rfl | ⟨b, off, hb, rfl, hc⟩
  · exact .inl (List.length_eq_zero_iff.1 hl.symm)
  · exact .inr ⟨b, off, hb, rfl, fun i hi => ⟨svs[i], hc i (by omega), (hr i (by omega) hi).1.row⟩⟩
theorem TabO.below (h : TabO lo hi w v xss) (hb : Below w.heap.size w w') : TabO lo hi w' v xss := by
  obtain ⟨svs, hl, ho, hu, hr, hd⟩ := h
  exact ⟨svs, hl, ownsRow_below ho hb, hu, fun i h1 h2 => ⟨(hr i h1 h2).1.below hb, (hr i h1 h2).2⟩, hd⟩
theorem TabO.only (h : TabO lo hi w v xss) (hb : Only lo' hi' w w') (hh : hi' ≤ lo) : TabO lo hi w' v xss := by
  obtain ⟨svs, hl, ho, hu, hr, hd⟩ := h
  exact ⟨svs, hl, ownsRow_apart ho hb (fun g e => .inr (by have := (ho.lt g e).1; omega)), hu, fun i h1 h2 => ⟨(hr i h1 h2).1.only hb hh, (hr i h1 h2).2⟩, hd⟩
theorem TabO.only2 (h : TabO lo hi w v xss) (hb : Only lo' hi' w w') (hh : hi ≤ lo') : TabO lo hi w' v xss := by
  obtain ⟨svs, hl, ho, hu, hr, hd⟩ := h
  exact ⟨svs, hl, ownsRow_apart ho hb (fun g e => .inl (by have := hu g e; omega)), hu, fun i h1 h2 => ⟨(hr i h1 h2).1.only2 hb hh, (hr i h1 h2).2⟩, hd⟩
theorem TabO.wide (h : TabO lo hi w v xss) (hl : lo' ≤ lo) (hh : hi ≤ hi') : TabO lo' hi' w v xss := by
  obtain ⟨svs, hl', ho, hu, hr, hd⟩ := h
  exact ⟨svs, hl', ownsRow_base ho (fun g e => Nat.le_trans hl (ho.lt g e).1), hu.up hh, fun i h1 h2 => ⟨(hr i h1 h2).1.wide hl hh, (hr i h1 h2).2⟩, hd⟩
theorem TabO.nil (lo hi : Nat) (w : World) : TabO lo hi w (.slice none 0 0) [] := ⟨[], rfl, World.ownsRow_nil _ _ _ _, Under.nil _ _ _, fun i h => by simp at h, fun i j h => by simp at h⟩
end

set_option maxHeartbeats 1000000 in
theorem eqIntSS_any (v1 v2 : Value) (xss : List (List Int)) (w : World) (h1 : TabR w v1 xss) (h2 : TabR w v2 xss) :
    Calls Try.prog 42 #[v1, v2] w fun e w' => e = .returned (.bool true) ∧ Below w.heap.size w w' := by
  have hx := h1.cap
  obtain ⟨a1, c1, rfl, hl1, hm1, r1⟩ := h1
  obtain ⟨a2, c2, rfl, hl2, hm2, r2⟩ := h2
  have hne : (((xss.length : Nat) : Int) != (xss.length : Int)) = false := by simp
  have R1 := Lib.hid r1
  have R2 := Lib.hid r2
  clear r1 r2
  go_enter Try.func42, Try.ntmps42
  go_wp2
  go_loopw [5] (fun i wr => ∃ k : Nat, k ≤ xss.length ∧ i = .int .i64 k ∧ Below w.heap.size w wr) (fun i _ => xss.length - (intOf i).toNat)
  case atStart => exact ⟨0, Nat.zero_le _, rfl, Below.refl _ _⟩
  case round =>
    obtain ⟨k, hk, rfl, hb⟩ := hrel
    by_cases hlt : k < xss.length
    · obtain ⟨b1, o1, hb1, rfl, e1⟩ := R1.out.resolve_left (fun e => by rw [e] at hlt; simp at hlt)
      obtain ⟨b2, o2, hb2, rfl, e2⟩ := R2.out.resolve_left (fun e => by rw [e] at hlt; simp at hlt)
      obtain ⟨s1, p1, q1⟩ := e1 k hlt
      obtain ⟨s2, p2, q2⟩ := e2 k hlt
      have f1 := (hb.cell (p := ⟨b1, o1 + k, none⟩) hb1).trans p1
      have f2 := (hb.cell (p := ⟨b2, o2 + k, none⟩) hb2).trans p2
      have m1 := cell_regrown f1
      have m2 := cell_regrown f2
      have Q1 := Lib.hid (q1.below hb)
      have Q2 := Lib.hid (q2.below hb)
      have g0 : (0 : Int) ≤ (k : Int) := by omega
      have g1 : (k : Int) < (xss.length : Int) := by omega
      have hw := hb.size
      have hc : ∀ d os, Calls Try.prog 36 #[s1, s2] (grow (redrawn wr d) os) fun e w'' => e = .returned (.bool true) ∧ ∃ p : Regrown, w'' = grow (redrawn wr p.d) p.os := fun d os => Calls.regrown_of (by have := eqIntS_any s1 s2 xss[k] xss[k] (grow (redrawn wr d) os) (Q1.out.below (below_regrown wr d os)) (Q2.out.below (below_regrown wr d os)); rwa [decide_eq_true rfl] at this)
      clear e1 e2 p1 p2 q1 q2
      go_wp2_with fail
      refine wp_region_quiet_below (by kernel_rfl) (by kernel_rfl) ?_
      repeat (go_big_quiet_step (first | exact hc _ _))
      refine wpQuiet_nil ?_
      intro _ hw'
      obtain ⟨⟨dq, osq⟩, hw''⟩ := hw'
      subst hw''
      have bq := below_regrown wr dq osq
      generalize grow (redrawn wr dq) osq = w2 at bq ⊢
      go_wp2
      go_roundw
      case rel => exact ⟨k + 1, by omega, by go_num, hb.trans (bq.mono hw)⟩
      case measure => simp [intOf]; omega
    · go_wp2
      go_ret
      exact ⟨rfl, hb⟩

/-- How many numbers stand ahead of a row. -/
def off (xss : List (List Int)) (j : Nat) : Nat := ((xss.take j).map List.length).sum
theorem off_succ {xss : List (List Int)} {j : Nat} (h : j < xss.length) : off xss (j + 1) = off xss j + xss[j].length := by
  unfold off
  rw [List.take_succ_eq_append_getElem h, List.map_append, List.sum_append]
  simp
theorem off_le (xss : List (List Int)) : ∀ d j, j + d ≤ xss.length → off xss j ≤ off xss (j + d)
  | 0, j, _ => Nat.le_refl _
  | d + 1, j, h => by
    have := off_le xss d j (by omega)
    rw [← Nat.add_assoc, off_succ (by omega)]
    omega
theorem off_all {xss : List (List Int)} {j : Nat} (h : j ≤ xss.length) : off xss j ≤ off xss xss.length := by
  have := off_le xss (xss.length - j) j (by omega)
  rwa [show j + (xss.length - j) = xss.length by omega] at this
def mTab (xss : List (List Int)) (k0 : Nat) : List (List Int) := (List.range xss.length).map fun j => mInts (k0 + off xss j) (xss.getD j []).length
theorem mTab_len (xss : List (List Int)) (k0 : Nat) : (mTab xss k0).length = xss.length := by simp [mTab]
theorem mTab_at {xss : List (List Int)} {k0 j : Nat} (h : j < xss.length) (h' : j < (mTab xss k0).length) : (mTab xss k0)[j] = mInts (k0 + off xss j) xss[j].length := by
  simp [mTab, List.getD, List.getElem?_eq_getElem h]

set_option maxHeartbeats 1000000 in
theorem markIntSS_any (v : Value) (xss : List (List Int)) (lo hi k0 : Nat) (w : World) (hk0 : 1 ≤ k0) (hk1 : k0 + off xss xss.length ≤ 1099511627776) (h : TabO lo hi w v xss) :
    Calls Try.prog 43 #[v, .int .i64 k0] w fun e w' => e = .returned (.int .i64 (k0 + off xss xss.length : Nat)) ∧ TabO lo hi w' v (mTab xss k0) ∧ Only lo hi w w' := by
  have hcap := h.row.cap
  obtain ⟨svs, hl, ho, hu, hr, hd⟩ := h
  have HU := Lib.hid hu
  have HD := Lib.hid hd
  have HA := Lib.hid (fun i h1 h2 => (hr i h1 h2).2)
  have HL := Lib.hid hl
  have hr1 : ∀ j (h1 : j < svs.length) (h2 : j < xss.length), IntsO lo hi w svs[j] (if j < 0 then mInts (k0 + off xss j) xss[j].length else xss[j]) := fun j h1 h2 => by rw [if_neg (by omega)]; exact (hr j h1 h2).1
  have HR := Lib.hid hr1
  obtain ⟨a, cap, hv, hcl, hcm, _⟩ := RowOf.of_owns (enc := id) (by rw [List.map_id]; rw [← hl] at ho; exact ho : w.ownsRow lo 31 1 v svs.length (svs.map id))
  rw [hl] at hv hcl
  unfold maxLen at hcm
  have HO := Lib.hid ho
  clear hr hr1 hd hu hl ho
  subst hv
  go_enter Try.func43, Try.ntmps43
  go_wp2_with fail
  go_loopw [1, 5] (fun q i wr => ∃ k : Nat, k ≤ xss.length ∧ i = .int .i64 k ∧ q = .int .i64 ((k0 + off xss k : Nat) : Int) ∧ Hid (∀ j (h1 : j < svs.length) (h2 : j < xss.length), IntsO lo hi wr svs[j] (if j < k then mInts (k0 + off xss j) xss[j].length else xss[j])) ∧
      Hid (wr.ownsRow lo 31 1 (.slice a xss.length cap) xss.length svs) ∧ Hid (Only lo hi w wr)) (fun _ i _ => xss.length - (intOf i).toNat)
  case atStart => exact ⟨0, Nat.zero_le _, rfl, by simp [off], HR, HO, Lib.hid (Only.refl _ _ _)⟩
  case round =>
    clear HR HO
    obtain ⟨k, hk, rfl, rfl, HR, HO, HW⟩ := hrel
    by_cases hlt : k < xss.length
    · have hs : k < svs.length := by rw [HL.out]; exact hlt
      obtain ⟨sv, hsv⟩ : ∃ s, svs[k] = s := ⟨_, rfl⟩
      have hrk := HR.out k hs hlt
      rw [if_neg (by omega), hsv] at hrk
      obtain ⟨l, u, ht, htb, hlu⟩ := hrk.tight
      have hoff := off_succ hlt
      have hoa := off_all (show k + 1 ≤ xss.length by omega)
      have q0 : ∃ b o, a = some ⟨b, o, none⟩ ∧ wr.cell? ⟨b, o + k, none⟩ = some sv := by
        obtain ⟨a', cap', e, _, _, h3⟩ := RowOf.of_owns (enc := id) (by rw [List.map_id, HL.out]; exact HO.out : wr.ownsRow lo 31 1 (.slice a xss.length cap) svs.length (svs.map id))
        simp only [Value.slice.injEq] at e
        obtain ⟨rfl, _, _⟩ := e
        rcases h3 with h3 | ⟨b, o, _, e, hc⟩
        · rw [h3] at hs; simp at hs
        · exact ⟨b, o, e, by rw [hc k hs, ← hsv]; rfl⟩
      obtain ⟨b, o, rfl, q0⟩ := q0
      have HT := Lib.hid ht
      have HTB := Lib.hid htb
      have HLU := Lib.hid hlu
      have HSV := Lib.hid hsv
      have g0 : (0 : Int) ≤ (k : Int) := by omega
      have g1 : (k : Int) < (xss.length : Int) := by omega
      have HOF := Lib.hid hoff
      clear hrk ht htb hlu hsv hoff
      go_wp2_with (first | (go_at_call 38; refine (markIntS_any sv xss[k] l u (k0 + off xss k) _ (by omega) (by have := HOF.out; omega) HT.out).mono ?_; rintro e w2 ⟨rfl, hm2, on2⟩; have HM := Lib.hid hm2; have HON := Lib.hid on2; clear hm2 on2))
      go_roundw
      case rel =>
        refine ⟨k + 1, by omega, by go_num, by rw [HOF.out]; exact congrArg (Value.int .i64) (by omega), Lib.hid (fun j h1 h2 => ?_), Lib.hid ?_, Lib.hid ?_⟩
        · by_cases hj : j = k
          · subst hj
            rw [if_pos (by omega)]
            have hrk := HR.out j hs hlt
            rw [if_neg (by omega)] at hrk
            have := HM.out
            rw [← HSV.out] at this
            refine ⟨ownsRow_base this.1 (fun g e => (hrk.1.lt g e).1), fun g e => hrk.2 g e⟩
          · have := HR.out j h1 h2
            rw [show (if j < k + 1 then mInts (k0 + off xss j) xss[j].length else xss[j]) = (if j < k then mInts (k0 + off xss j) xss[j].length else xss[j]) by
              by_cases c : j < k
              · rw [if_pos c, if_pos (by omega)]
              · rw [if_neg c, if_neg (by omega)]]
            refine ⟨ownsRow_apart this.1 HON.out (fun g e => ?_), this.2⟩
            have hap := HD.out j k h1 hs hj g e
            rw [HSV.out] at hap
            rcases Nat.lt_or_ge g l with c | c
            · exact .inl c
            · rcases Nat.lt_or_ge g u with c2 | c2
              · exact absurd (HTB.out g c c2) hap
              · exact .inr c2
        · refine ownsRow_apart HO.out HON.out (fun g e => ?_)
          have hap := HA.out k hs hlt g e
          rw [HSV.out] at hap
          rcases Nat.lt_or_ge g l with c | c
          · exact .inl c
          · rcases Nat.lt_or_ge g u with c2 | c2
            · exact absurd (HTB.out g c c2) hap
            · exact .inr c2
        · refine HW.out.trans ?_
          rcases Nat.lt_or_ge l u with c | c
          · exact HON.out.wide (HLU.out c).1 (HLU.out c).2
          · exact ⟨HON.out.os, HON.out.tape, HON.out.output, HON.out.size, fun g hg _ => HON.out.block g hg (by omega)⟩
      case measure => simp [intOf]; omega
    · obtain rfl : k = xss.length := by omega
      go_wp2_with fail
      go_ret
      refine ⟨rfl, ⟨svs, by rw [mTab_len]; exact HL.out, by rw [mTab_len]; exact HO.out, HU.out, fun i h1 h2 => ?_, HD.out⟩, HW.out⟩
      have hi' : i < xss.length := by rw [mTab_len] at h2; exact h2
      have := HR.out i h1 hi'
      rw [if_pos hi'] at this
      rw [mTab_at hi']
      exact ⟨this, HA.out i h1 hi'⟩

set_option maxHeartbeats 1000000 in
theorem heldIntSS_any (v : Value) (xss : List (List Int)) (k0 : Nat) (w : World) (hk0 : 1 ≤ k0) (hk1 : k0 + off xss xss.length ≤ 1099511627776) (h : TabR w v (mTab xss k0)) :
    Calls Try.prog 44 #[v, .int .i64 k0] w fun e w' => e = .returned (.int .i64 (k0 + off xss xss.length : Nat)) ∧ Below w.heap.size w w' := by
  have hcap := h.cap
  obtain ⟨a, cap, rfl, hcl, hcm, r1⟩ := h
  rw [mTab_len] at hcl hcap ⊢
  unfold maxLen at hcm
  have R1 := Lib.hid r1
  clear r1
  go_enter Try.func44, Try.ntmps44
  go_wp2_with fail
  go_loopw [1, 5] (fun q i wr => ∃ k : Nat, k ≤ xss.length ∧ i = .int .i64 k ∧ q = .int .i64 ((k0 + off xss k : Nat) : Int) ∧ Below w.heap.size w wr) (fun _ i _ => xss.length - (intOf i).toNat)
  case atStart => exact ⟨0, Nat.zero_le _, rfl, by simp [off], Below.refl _ _⟩
  case round =>
    obtain ⟨k, hk, rfl, rfl, hb⟩ := hrel
    by_cases hlt : k < xss.length
    · obtain ⟨b, o, hbl, rfl, e1⟩ := R1.out.resolve_left (fun e => by have := mTab_len xss k0; rw [e] at this; simp at this; omega)
      obtain ⟨sv, p1, q1⟩ := e1 k (by rw [mTab_len]; exact hlt)
      rw [mTab_at hlt] at q1
      have f1 := (hb.cell (p := ⟨b, o + k, none⟩) hbl).trans p1
      have Q1 := Lib.hid (q1.below hb)
      have hoff := off_succ hlt
      have hoa := off_all (show k + 1 ≤ xss.length by omega)
      have HOF := Lib.hid hoff
      have g0 : (0 : Int) ≤ (k : Int) := by omega
      have g1 : (k : Int) < (xss.length : Int) := by omega
      have gq : decide ((((k0 + off xss k + xss[k].length : Nat)) : Int) < 0) = false := decide_eq_false (by omega)
      have gq2 : (0 : Int) ≤ (((k0 + off xss k + xss[k].length : Nat)) : Int) := by omega
      have hw := hb.size
      clear e1 p1 q1 hoff
      go_wp2_with (first | (go_at_call 39; refine (heldIntS_any sv (k0 + off xss k) xss[k].length _ (by omega) (by have := HOF.out; omega) Q1.out).mono ?_; rintro e w2 ⟨rfl, b2⟩))
      go_roundw
      case rel => exact ⟨k + 1, by omega, by go_num, by rw [HOF.out]; exact congrArg (Value.int .i64) (by omega), hb.trans (b2.mono hw)⟩
      case measure => simp [intOf]; omega
    · obtain rfl : k = xss.length := by omega
      go_wp2_with fail
      go_ret
      exact ⟨rfl, hb⟩
/-- A table of which the rows' own values are known. -/
def TabS (lo hi : Nat) (w : World) (v : Value) (svs : List Value) (xss : List (List Int)) : Prop := svs.length = xss.length ∧ w.ownsRow lo 31 1 v xss.length svs ∧ Under hi v ∧
  (∀ i (h1 : i < svs.length) (h2 : i < xss.length), IntsO lo hi w svs[i] xss[i] ∧ Apart v svs[i]) ∧ ∀ i j (h1 : i < svs.length) (h2 : j < svs.length), i ≠ j → Apart svs[i] svs[j]
theorem TabS.tab {lo hi : Nat} {w : World} {v : Value} {svs : List Value} {xss : List (List Int)} (h : TabS lo hi w v svs xss) : TabO lo hi w v xss := ⟨svs, h⟩
theorem TabS.below {lo hi : Nat} {w w' : World} {v : Value} {svs : List Value} {xss : List (List Int)} (h : TabS lo hi w v svs xss) (hb : Below w.heap.size w w') : TabS lo hi w' v svs xss :=
  ⟨h.1, ownsRow_below h.2.1 hb, h.2.2.1, fun i h1 h2 => ⟨(h.2.2.2.1 i h1 h2).1.below hb, (h.2.2.2.1 i h1 h2).2⟩, h.2.2.2.2⟩
theorem TabS.wide {lo hi hi' : Nat} {w : World} {v : Value} {svs : List Value} {xss : List (List Int)} (h : TabS lo hi w v svs xss) (hh : hi ≤ hi') : TabS lo hi' w v svs xss :=
  ⟨h.1, h.2.1, h.2.2.1.up hh, fun i h1 h2 => ⟨(h.2.2.2.1 i h1 h2).1.wide (Nat.le_refl _) hh, (h.2.2.2.1 i h1 h2).2⟩, h.2.2.2.2⟩
/-- A table without rows, just made. -/
theorem TabS.made (w : World) {lo : Nat} (h : lo ≤ w.heap.size) : TabS lo (w.heap.size + 1) (w.alloc (.cells #[] 31 (0, 0))) (.slice (some ⟨w.heap.size, 0, none⟩) 0 0) [] [] :=
  ⟨rfl, World.ownsRow_made w #[] 0 h (Nat.zero_le _) rfl, fun g e => by simp [Value.ownBlock] at e; omega, fun i h => by simp at h, fun i j h => by simp at h⟩
/-- A row of new numbers is appended: their block at w's end, then the block of the one slice that is appended. -/
theorem TabS.push {lo : Nat} {w w3 : World} {v v' : Value} {svs : List Value} {xss : List (List Int)} {row : List Int} {A B : Obj} (h : TabS lo w.heap.size w v svs xss) (hlo : lo ≤ w.heap.size) (hrow : row.length ≤ maxLen)
    (hA : A = .cells (row.map vI).toArray 3 (0, 0)) (hown : w3.ownsRow lo 31 1 v' (xss.length + 1) (svs ++ [.slice (some ⟨w.heap.size, 0, none⟩) row.length row.length]))
    (hg : ((w.alloc A).alloc B).grownBy w3 v.ownBlock) (hat : v'.ownBlock = v.ownBlock ∨ v'.ownBlock = some ((w.alloc A).alloc B).heap.size) :
    TabS lo w3.heap.size w3 v' (svs ++ [.slice (some ⟨w.heap.size, 0, none⟩) row.length row.length]) (xss ++ [row]) := by
  obtain ⟨hl, ho, hu, hr, hd⟩ := h
  subst hA
  have hsz : ((w.alloc (.cells (row.map vI).toArray 3 (0, 0))).alloc B).heap.size = w.heap.size + 2 := by simp
  have hs3 : w.heap.size + 2 ≤ w3.heap.size := by have := hg.size; omega
  have hold : ∀ i (h1 : i < svs.length) (h2 : i < xss.length), IntsO lo w3.heap.size w3 svs[i] xss[i] ∧ Apart v' svs[i] := fun i h1 h2 => by
    obtain ⟨⟨a1, a2⟩, a3⟩ := hr i h1 h2
    refine ⟨⟨((a1.alloc _).alloc B).kept hg ?_, a2.up (by omega)⟩, fun g e1 e2 => ?_⟩
    · rcases hv : svs[i].ownBlock with _ | g
      · exact .inl rfl
      · exact .inr fun e => a3 g e.symm hv
    · rcases hat with q | q
      · exact a3 g (q ▸ e1) e2
      · rw [q, hsz] at e1
        have := Option.some.inj e1
        have := a2 g e2
        omega
  have hnew : IntsO lo w3.heap.size w3 (.slice (some ⟨w.heap.size, 0, none⟩) row.length row.length) row := by
    have h1 : (w.alloc (.cells (row.map vI).toArray 3 (0, 0))).ownsRow lo 3 1 (.slice (some ⟨w.heap.size, 0, none⟩) row.length row.length) row.length (row.map vI) := by
      have := World.ownsRow_lit (base := lo) (e := 3) (size := 1) w (row.map vI).toArray row.length hlo hrow (by simp)
      simpa using this
    refine ⟨(h1.alloc B).kept hg (.inr fun e => ?_), fun g e => by simp [Value.ownBlock] at e; omega⟩
    have := hu w.heap.size (by rw [← e]; rfl)
    omega
  have hsv : ∀ i (h1 : i < svs.length), Apart svs[i] (.slice (some ⟨w.heap.size, 0, none⟩) row.length row.length) := fun i h1 g e1 e2 => by
    have := (hr i h1 (by omega)).1.2 g e1
    simp [Value.ownBlock] at e2
    omega
  refine ⟨by simp [hl], by rw [List.length_append]; exact hown, fun g e => (hown.lt g e).2, fun i h1 h2 => ?_, fun i j h1 h2 hne => ?_⟩
  · by_cases hi : i < svs.length
    · rw [List.getElem_append_left hi, List.getElem_append_left (by omega)]
      exact hold i hi (by omega)
    · have hi2 : i = svs.length := by simp at h1; omega
      subst hi2
      rw [List.getElem_append_right (Nat.le_refl _), List.getElem_append_right (by omega)]
      simp only [hl, Nat.sub_self, List.getElem_cons_zero]
      refine ⟨hnew, fun g e1 e2 => ?_⟩
      simp [Value.ownBlock] at e2
      subst e2
      rcases hat with q | q
      · have := hu w.heap.size (by rw [← q]; exact e1)
        omega
      · rw [q, hsz] at e1
        have := Option.some.inj e1
        omega
  · by_cases hi : i < svs.length
    · by_cases hj : j < svs.length
      · rw [List.getElem_append_left hi, List.getElem_append_left hj]
        exact hd i j hi hj hne
      · rw [List.getElem_append_left hi, List.getElem_append_right (by omega)]
        simp only [show j - svs.length = 0 by simp at h2; omega, List.getElem_cons_zero]
        exact hsv i hi
    · by_cases hj : j < svs.length
      · rw [List.getElem_append_right (by omega), List.getElem_append_left hj]
        simp only [show i - svs.length = 0 by simp at h1; omega, List.getElem_cons_zero]
        exact (hsv j hj).symm
      · simp at h1 h2; omega
theorem own_sliceT {lo e size n : Nat} {w : World} {v : Value} {xs : List Value} (h : w.ownsRow lo e size v n xs) : ∃ a m c, v = .slice a m c := by
  rcases h.2 with ⟨rfl, _⟩ | ⟨g, cap, cur, rfl, _⟩
  · exact ⟨_, _, _, rfl⟩
  · exact ⟨_, _, _, rfl⟩
theorem below_app2 {B e size : Nat} {w wr w1 : World} {v : Value} {n : Nat} {xs : List Value} {t1 t2 : Obj} (hb : Below B w wr) (hB : B ≤ w.heap.size) (hO : wr.ownsRow B e size v n xs) (hg : ((wr.alloc t1).alloc t2).grownBy w1 v.ownBlock) : Below B w w1 :=
  ((hb.alloc (Nat.le_trans hB hb.size) t1).alloc (by have := hb.size; simp; omega) t2).grown hg (by have := hb.size; simp; omega) (fun k hk => (hO.lt k hk).1)
end Go.Proofs.Ytpbjddiopfkgbaa
