/- Lists of holds that a call makes; the model's l1Own and l9Own. -/
import Derived.Test.YtkjpehpodlpdhaaTyHo
import Derived.Test.YtkjpehpodlpdhaaToHo
import Derived.Test.YtkjpehpodlpdhaaIntsK
import Derived.Test.YtkjpehpodlpdhaaPuts
import Derived.Maps.AppendAt
import Derived.WalkSmall
namespace Go.Proofs.Ytkjpehpodlpdhaa
set_option linter.unusedVariables false
open Go.RowKit

/-- Nothing appended: the source is nil. -/
theorem run_append_nilR {P : Program} (w : World) (base : Nat) (t ty e : TypeId) (i : TypeInfo) (size : Nat) (ht : P.underlying t = some (.slice e)) (hi : P.info? e = some i)
    (v : Value) (n : Nat) (xs : List Value) (hown : w.ownsRow base e size v n xs) (c : Nat) : (Builtin.append_ #[t, t] ty #[v, .slice none 0 c]).run P w = .ok v w := by
  rcases hown.2 with ⟨rfl, rfl⟩ | ⟨g, cap, cur, rfl, _, _, hnc, _⟩
  · simp [Builtin.append_, run_underlying ht, sizeOf, typeInfo, hi, Builtin.lenOf, Builtin.firstCells]
  · simp [Builtin.append_, run_underlying ht, sizeOf, typeInfo, hi, Builtin.lenOf, Builtin.firstCells, hnc, storeCells]
theorem wp_append_nilR {P : Program} {w : World} {o : Oper} {a : Act} {K : Act → World → Prop} {Q : Exit → Act → World → Prop} (s x : Operand) (t : TypeId)
    (ho : o.op = .call { callee := .builtin .append, args := #[s, x], argTypes := #[t, t] }) (base : Nat) (e : TypeId) (i : TypeInfo) (size : Nat) (ht : P.underlying t = some (.slice e)) (hi : P.info? e = some i)
    (v : Value) (n : Nat) (xs : List Value) (hs : a.eval s = v) (hown : w.ownsRow base e size v n xs) (c : Nat) (hx : a.eval x = .slice none 0 c) (h : K (a.put o.dst v) w) : o.wp P a w K Q := by
  unfold Oper.wp execOp
  simp only [ho, resolve, invoke, builtin, Sem.run_bind, Sem.run_pure, Result.andThen_ok, List.map_toArray, List.map_cons, List.map_nil, hs, hx, run_append_nilR w base t o.type e i size ht hi v n xs hown c]
  exact h
theorem wpList_append_nilR {P : Program} {w : World} {ops : Array Oper} {rest : List Oper} {o : Oper} {a : Act} {Q : Exit → Act → World → Prop} (hgd : o.guard = none) (s x : Operand) (t : TypeId)
    (ho : o.op = .call { callee := .builtin .append, args := #[s, x], argTypes := #[t, t] })
    (base : Nat) (e : TypeId) (i : TypeInfo) (size : Nat) (ht : P.underlying t = some (.slice e)) (hi : P.info? e = some i)
    (v : Value) (n : Nat) (xs : List Value) (hs : a.eval s = v) (hown : w.ownsRow base e size v n xs) (c : Nat) (hx : a.eval x = .slice none 0 c)
    (h : wpList P ops Q rest (a.put o.dst v) w) : wpList P ops Q (o :: rest) a w := by
  refine wpList_plain hgd fun K hK => ?_
  exact wp_append_nilR s x t ho base e i size ht hi v n xs hs hown c hx (hK _ _ h)

set_option maxHeartbeats 1000000 in
theorem l1Own_any (v : Value) (xs : List Int) (w : World) (h : RowOf vI w v xs) (hn : xs.length ≤ 1048576) :
    Calls Try.prog 149 #[v] w fun e w' => ∃ a' c', e = .returned (.slice a' xs.length c') ∧ IntsO w.heap.size w'.heap.size w' (.slice a' xs.length c') xs ∧ Below w.heap.size w w' := by
  obtain ⟨i0, hi, hz0, hz1, hz2⟩ := info_parts Try.info_intN
  obtain ⟨a, c, rfl, hl1, hm1, h3⟩ := h
  unfold maxLen at hm1
  rcases a with _ | ⟨b, off, spot⟩
  · have hx : xs = [] := by
      rcases h3 with h | ⟨b, off, _, e, _⟩
      · exact h
      · cases e
    subst hx
    clear h3
    go_enter Try.func149, Try.ntmps149
    go_wp2_with (first | (at_builtin; refine wpList_append_nilR rfl _ _ 33 rfl w.heap.size 3 i0 1 Try.underlying33 hi (.slice (some ⟨w.heap.size, 0, none⟩) 0 0) 0 [] rfl (World.ownsRow_made w #[] 0 (Nat.le_refl _) (Nat.zero_le _) rfl) c rfl ?_))
    go_ret
    exact ⟨_, _, rfl, ints_rowK (World.ownsRow_made w #[] 0 (Nat.le_refl _) (Nat.zero_le _) rfl) rfl, below_al (Below.refl _ _) _⟩
  · have HC : Hid (∀ o : Obj, ∀ j u, (xs.map vI)[j]? = some u → (w.alloc o).cell? ((⟨b, off, spot⟩ : Addr).add j) = some u) := by
      refine Lib.hid (fun o j u hj => ?_)
      rcases h3 with rfl | ⟨b', off', hb, e, hc⟩
      · simp at hj
      · cases e
        rw [Addr.add_lit]
        rw [List.getElem?_map] at hj
        rcases Nat.lt_or_ge j xs.length with hlt | hge
        · rw [List.getElem?_eq_getElem hlt] at hj
          cases hj
          exact below_al_cell (hc j hlt) o
        · rw [List.getElem?_eq_none hge] at hj
          cases hj
    have HONE : Hid (∀ u ∈ xs.map vI, u.oneCell' = true) := Lib.hid (fun u hu => by obtain ⟨x, _, rfl⟩ := List.mem_map.1 hu; rfl)
    have HLEN : Hid ((xs.map vI).length = xs.length * 1) := Lib.hid (by simp)
    clear h3
    go_enter Try.func149, Try.ntmps149
    go_wp2_with (first | (at_builtin; refine wpList_append_own _ rfl _ _ 33 rfl w.heap.size 3 i0 (.int .i64 0) 1 8 Try.underlying33 hi hz0 hz1 hz2 rfl (by decide) (.slice (some ⟨w.heap.size, 0, none⟩) 0 0) 0 [] rfl (World.ownsRow_made w #[] 0 (Nat.le_refl _) (Nat.zero_le _) rfl) ⟨b, off, spot⟩ xs.length c (xs.map vI) rfl HLEN.out (HC.out _) HONE.out (by unfold maxLen; omega) (by omega) (by simp) ?_; intro v' w1 hown' hgrow hnil))
    have HB : Hid (Below w.heap.size w w1) := Lib.hid ((below_al (Below.refl _ w) _).grown hgrow (by simp) (fun k hk => Nat.le_of_eq (by simpa [Value.ownBlock] using hk)))
    rw [Nat.zero_add, List.nil_append] at hown'
    have HI := Lib.hid (ints_rowK hown' rfl)
    obtain ⟨a', n', c', rfl⟩ := HI.out.slice
    have hn' : n' = xs.length := by obtain ⟨a2, c2, e2, _⟩ := HI.out.row; cases e2; rfl
    subst hn'
    clear hown' hgrow hnil
    go_wp2_with fail
    go_ret
    exact ⟨_, _, rfl, HI.out, HB.out⟩

/-- Such a list while it is made. -/
structure HosD (lo : Nat) (w : World) (v : Value) (es : List (Ho × Value)) : Prop where
  row : Own lo 100 6 w v (es.map (fun p => hoC p.1 p.2))
  each : ∀ p ∈ es, IntsO lo w.heap.size w p.2 p.1.ser ∧ p.1.ok ∧ ∀ g, p.2.ownBlock = some g → v.ownBlock ≠ some g
theorem HosD.below {lo : Nat} {w w' : World} {v : Value} {es : List (Ho × Value)} (h : HosD lo w v es) (hb : Below w.heap.size w w') : HosD lo w' v es :=
  ⟨h.row.below hb, fun p hp => ⟨((h.each p hp).1.below hb).wide (Nat.le_refl _) hb.size, (h.each p hp).2⟩⟩
theorem HosD.rowA {lo k : Nat} {w : World} {v : Value} {es : List (Ho × Value)} (h : HosD lo w v es) (hl : es.length = k) (o : Obj) : (w.alloc o).ownsRow lo 100 6 v k ((es.map (fun p => hoC p.1 p.2)).flatten) := by
  have := (h.row.alloc o).1
  rw [List.length_map, hl] at this
  exact this
theorem HosD.slice {lo : Nat} {w : World} {v : Value} {es : List (Ho × Value)} (h : HosD lo w v es) : ∃ a c, v = .slice a es.length c := by
  rcases h.row.form with ⟨rfl, h0⟩ | ⟨g, cap, e, _⟩
  · have := congrArg List.length h0
    exact ⟨none, 0, by simp at this; simp [this]⟩
  · exact ⟨_, _, by rw [List.length_map] at e; exact e⟩
theorem IntsO.offr {lo hi : Nat} {w w' : World} {v u : Value} {t : List Int} (h : IntsO lo hi w v t) (hg : w.grownBy w' u.ownBlock) (hn : ∀ k, v.ownBlock = some k → u.ownBlock ≠ some k) : IntsO lo hi w' v t := by
  refine ⟨h.1.kept hg ?_, h.2⟩
  rcases hv : v.ownBlock with _ | k
  · exact .inl rfl
  · exact .inr fun e => hn k hv e.symm
theorem HosD.app {lo : Nat} {w w' : World} {v v' : Value} {es : List (Ho × Value)} {r : Ho} {s : Value} (h : HosD lo w v es) (he : IntsO lo w.heap.size w s r.ser) (hok : r.ok) (ha : ∀ g, s.ownBlock = some g → v.ownBlock ≠ some g)
    (hown : w'.ownsRow lo 100 6 v' (es.length + 1) ((es.map (fun p => hoC p.1 p.2)).flatten ++ hoC r s)) (hg : w.grownBy w' v.ownBlock) (hat : v'.ownBlock = v.ownBlock ∨ v'.ownBlock = some w.heap.size) : HosD lo w' v' (es ++ [(r, s)]) := by
  have key : ∀ (q : Ho) (u : Value), IntsO lo w.heap.size w u q.ser → (∀ g, u.ownBlock = some g → v.ownBlock ≠ some g) → IntsO lo w'.heap.size w' u q.ser ∧ ∀ g, u.ownBlock = some g → v'.ownBlock ≠ some g := by
    intro q u h1 h2
    refine ⟨(h1.offr hg h2).wide (Nat.le_refl _) hg.size, fun g e1 e2 => ?_⟩
    rcases hat with e | e
    · exact h2 g e1 (by rw [← e]; exact e2)
    · rw [e] at e2; cases e2
      have := h1.2 _ e1
      omega
  refine ⟨⟨by simpa using hown, fun cs hcs => by obtain ⟨p, _, rfl⟩ := List.mem_map.1 hcs; rfl⟩, fun p hp => ?_⟩
  rcases List.mem_append.1 hp with hp | hp
  · obtain ⟨a, b⟩ := key p.1 p.2 (h.each p hp).1 (h.each p hp).2.2
    exact ⟨a, (h.each p hp).2.1, b⟩
  · rw [List.mem_singleton.1 hp]
    obtain ⟨a, b⟩ := key r s he ha
    exact ⟨a, hok, b⟩
theorem HosD.start {L : Nat} {w : World} (hL : w.heap.size = L) : HosD L (w.alloc (.cells #[] 100 (0, 0))) (.slice (some ⟨L, 0, none⟩) 0 0) [] := by
  subst hL
  exact ⟨⟨World.ownsRow_made w #[] 0 (Nat.le_refl _) (Nat.zero_le _) rfl, fun p hp => by cases hp⟩, fun p hp => by cases hp⟩
theorem cells6_new (w : World) (a b c d e f : Value) (t : TypeId) {k : Nat} (hk : k = w.heap.size) : ∀ j u, [a, b, c, d, e, f][j]? = some u → (w.alloc (.cells #[a, b, c, d, e, f] t (0, 0))).cell? ((⟨k, 0, none⟩ : Addr).add j) = some u := by
  subst hk
  intro j u hj
  rw [Addr.add_lit]
  simp only [Nat.zero_add]
  match j, hj with
  | 0, h => cases h; exact cell_new w _ _ 0 rfl
  | 1, h => cases h; exact cell_new w _ _ 1 rfl
  | 2, h => cases h; exact cell_new w _ _ 2 rfl
  | 3, h => cases h; exact cell_new w _ _ 3 rfl
  | 4, h => cases h; exact cell_new w _ _ 4 rfl
  | 5, h => cases h; exact cell_new w _ _ 5 rfl

set_option maxRecDepth 20000 in
set_option maxHeartbeats 4000000 in
theorem l9Own_any (v : Value) (t : List Ho) (w : World) (h : RowR 6 rHo w v t) (hn : t.length ≤ 1048576) (hs : ∀ i (h : i < t.length), t[i].ser.length ≤ 1048576) :
    Calls Try.prog 93 #[v] w fun e w' => ∃ a c es, e = .returned (.slice a t.length c) ∧ HosD w.heap.size w' (.slice a t.length c) es ∧ es.map Prod.fst = t ∧ Below w.heap.size w w' := by
  obtain ⟨i0, hi, hz0, hz1, hz2⟩ := info_parts Try.info_ho
  obtain ⟨a1, c1, rfl, hl1, hm1, r1⟩ := h.hos
  have R1 := Lib.hid r1
  have HS := Lib.hid hs
  clear h r1 hs
  unfold maxLen at hm1
  go_enter Try.func93, Try.ntmps93
  go_wp2_with fail
  have HO0 : Hid (HosD w.heap.size (w.alloc (.cells #[] 100 (0, 0))) (.slice (some ⟨w.heap.size, 0, none⟩) 0 0) []) := Lib.hid (HosD.start rfl)
  go_loopw [3, 4] (fun o i wr => ∃ (k : Nat) (a : Option Addr) (c : Nat) (es : List (Ho × Value)), k ≤ t.length ∧ i = .int .i64 k ∧ o = .slice a k c ∧ es.length = k ∧ Hid (es.map Prod.fst = t.take k) ∧ Hid (HosD w.heap.size wr (.slice a k c) es) ∧ Below w.heap.size w wr) (fun _ i _ => t.length - (intOf i).toNat)
  case atStart => exact ⟨0, _, _, [], Nat.zero_le _, rfl, rfl, rfl, Lib.hid (by simp), HO0, below_al (Below.refl _ _) _⟩
  case round =>
    clear HO0
    obtain ⟨k, a, c, es, hk, rfl, rfl, hel, HES, HO, hb⟩ := hrel
    have HEL := Lib.hid hel
    clear hel
    by_cases hlt : k < t.length
    · obtain ⟨bL, oL, hbL, rfl, e1⟩ := R1.out.resolve_left (fun e => by rw [e] at hlt; simp at hlt)
      obtain ⟨s, q0, q1, q2, q3, q4, q5, hr, hok⟩ := e1 k hlt
      obtain ⟨⟨x0, x1, x2, x3, x4, x5⟩, hx⟩ : ∃ y, t.getD k hoD = y := ⟨_, rfl⟩
      have hsl := HS.out k hlt
      rw [← getHo_lt hlt, hx] at hsl
      rw [hx] at q0 q1 q2 q4 q5 hr hok
      simp only at q0 q1 q2 q4 q5 hr hsl
      obtain ⟨sa, sc, rfl, _⟩ := id hr
      have hrr := hr.below hb
      have HRR := Lib.hid (show ∀ W, Below wr.heap.size wr W → RowOf vI W (.slice sa x3.length sc) x3 from fun W hW => hrr.below hW)
      have HOK := Lib.hid hok
      have f0 := cell_kept q0 hb
      have f1 := cell_kept q1 hb
      have f2 := cell_kept q2 hb
      have f3 := cell_kept q3 hb
      have f4 := cell_kept q4 hb
      have f5 := cell_kept q5 hb
      have HX := Lib.hid hx
      have g0 : (0 : Int) ≤ (k : Int) := by omega
      have g1 : (k : Int) < (t.length : Int) := by omega
      have hsz := hb.size
      have HBX : Hid (∀ W, Below (wr.alloc (.cells #[.int .i64 x0, .int .i64 x1, .int .i64 x2, .slice sa x3.length sc, .int .i64 x4, .int .i64 x5] 100 (0, 0))).heap.size (wr.alloc (.cells #[.int .i64 x0, .int .i64 x1, .int .i64 x2, .slice sa x3.length sc, .int .i64 x4, .int .i64 x5] 100 (0, 0))) W →
          W.cell? ⟨wr.heap.size, 0, none⟩ = some (.int .i64 x0) ∧ W.cell? ⟨wr.heap.size, 1, none⟩ = some (.int .i64 x1) ∧ W.cell? ⟨wr.heap.size, 2, none⟩ = some (.int .i64 x2) ∧ W.cell? ⟨wr.heap.size, 3, none⟩ = some (.slice sa x3.length sc) ∧ W.cell? ⟨wr.heap.size, 4, none⟩ = some (.int .i64 x4) ∧ W.cell? ⟨wr.heap.size, 5, none⟩ = some (.int .i64 x5) ∧ W.frozen? ⟨wr.heap.size, 3, none⟩ = false) :=
        Lib.hid (fun W hW => ⟨cell_kept (cell_new wr _ _ 0 rfl) hW, cell_kept (cell_new wr _ _ 1 rfl) hW, cell_kept (cell_new wr _ _ 2 rfl) hW, cell_kept (cell_new wr _ _ 3 rfl) hW, cell_kept (cell_new wr _ _ 4 rfl) hW, cell_kept (cell_new wr _ _ 5 rfl) hW, frozen_kept (by simp) (by simp) hW⟩)
      have bX := below_al (Below.refl wr.heap.size wr) (.cells #[.int .i64 x0, .int .i64 x1, .int .i64 x2, .slice sa x3.length sc, .int .i64 x4, .int .i64 x5] 100 (0, 0))
      clear q0 q1 q2 q3 q4 q5 hr hok hx e1 hrr
      go_wp2_with (first | (go_at_call 149; refine (l1Own_any _ x3 _ (HRR.out _ bX) hsl).mono ?_; rintro e w5 ⟨na, nc, rfl, hi5, b5⟩; obtain ⟨z0, z1, z2, z3, z4, z5, zf⟩ := HBX.out _ b5; have HI5 := Lib.hid hi5; have b5r := below_chain bX b5; have bS := b5r.setCell (p := ⟨wr.heap.size, 3, none⟩) (Nat.le_refl _) (.slice na x3.length nc); have HOS := Lib.hid (HO.out.below bS); have hs5 := b5.size; simp only [World.size_alloc] at hs5; clear hi5 bX) | (at_builtin; refine wpList_append_own_at _ rfl _ _ 25 rfl w.heap.size 100 i0 (.agg #[.int .i64 0, .int .i64 0, .int .i64 0, .slice none 0 0, .int .i64 0, .int .i64 0]) 6 64 Try.underlying25 hi hz0 hz1 hz2 rfl (by decide) (.slice a k c) k ((es.map (fun p => hoC p.1 p.2)).flatten) rfl (HOS.out.rowA HEL.out _) ⟨w5.heap.size, 0, none⟩ 1 1 [.int .i64 x0, .int .i64 x1, .int .i64 x2, .slice na x3.length nc, .int .i64 x4, .int .i64 x5] rfl rfl (cells6_new _ _ _ _ _ _ _ _ (by simp)) (by simp [Value.oneCell']) (by unfold maxLen; omega) (by omega) (by first | (simp; done) | (simp; omega)) ?_; intro v' w7 hown' hgrow _ hat))
      have HAP : ∀ gg, Value.ownBlock (.slice na x3.length nc) = some gg → Value.ownBlock (.slice a k c) ≠ some gg := fun gg e1 e2 => by
        have h1 := HO.out.row.under gg e2
        have h2 := (HI5.out.1.lt gg e1).1
        simp at h2
        omega
      have HX4 := Lib.hid ((HOS.out.below (below_al (Below.refl _ _) (.cells #[.int .i64 x0, .int .i64 x1, .int .i64 x2, .slice na x3.length nc, .int .i64 x4, .int .i64 x5] 100 (0, 0)))).app (r := ⟨x0, x1, x2, x3, x4, x5⟩) (s := .slice na x3.length nc) (((HI5.out.far (a := ⟨wr.heap.size, 3, none⟩) (by simp) _).alloc _).wide (by simp; omega) (by simp)) HOK.out HAP (by rw [HEL.out]; exact hown') hgrow hat)
      have hb7 : Below w.heap.size w w7 := below_app (hb.trans (bS.mono hsz)) (Nat.le_refl _) HOS.out.row.1 hgrow
      obtain ⟨na2, nc2, rfl⟩ := HX4.out.slice
      rw [show (es ++ [((⟨x0, x1, x2, x3, x4, x5⟩ : Ho), (.slice na x3.length nc : Value))]).length = k + 1 by simp [HEL.out]] at *
      clear hown' hgrow hat HAP
      go_wp2_with fail
      go_roundw
      case rel => exact ⟨k + 1, na2, nc2, es ++ [(⟨x0, x1, x2, x3, x4, x5⟩, .slice na x3.length nc)], by omega, by go_num, rfl, by simp [HEL.out], Lib.hid (by rw [List.map_append, HES.out, List.take_succ_eq_append_getElem hlt, ← getHo_lt hlt, HX.out]; rfl), HX4, hb7⟩
      case measure => simp [intOf]; omega
    · go_wp2_with fail
      go_ret
      obtain rfl : k = t.length := by omega
      exact ⟨_, _, es, rfl, HO.out, by rw [HES.out, List.take_length], hb⟩
end Go.Proofs.Ytkjpehpodlpdhaa
