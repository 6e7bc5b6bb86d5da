/- The model's l1Own: a copy of numbers. -/
import Derived.Test.YtedckfbjhhabgaaIntsN
import Derived.Test.YtedckfbjhhabgaaPuts
import Derived.WalkSmall
namespace Go.Proofs.Ytedckfbjhhabgaa
set_option linter.unusedVariables false
open Go.RowKit

/-- Nothing appended: the source is nil. -/
theorem run_append_nilR {P : Program} (w : World) (base : Nat) (t ty e : TypeId) (i : TypeInfo) (size : Nat) (ht : P.underlying t = some (.slice e)) (hi : P.info? e = some i)
    (v : Value) (n : Nat) (xs : List Value) (hown : w.ownsRow base e size v n xs) (c : Nat) : (Builtin.append_ #[t, t] ty #[v, .slice none 0 c]).run P w = .ok v w := by
  rcases hown.2 with ⟨rfl, rfl⟩ | ⟨g, cap, cur, rfl, _, _, hnc, _⟩
  · simp [Builtin.append_, run_underlying ht, sizeOf, typeInfo, hi, Builtin.lenOf, Builtin.firstCells]
  · simp [Builtin.append_, run_underlying ht, sizeOf, typeInfo, hi, Builtin.lenOf, Builtin.firstCells, hnc, storeCells]
theorem wp_append_nilR {P : Program} {w : World} {o : Oper} {a : Act} {K : Act → World → Prop} {Q : Exit → Act → World → Prop} (s x : Operand) (t : TypeId)
    (ho : o.op = .call { callee := .builtin .append, args := #[s, x], argTypes := #[t, t] }) (base : Nat) (e : TypeId) (i : TypeInfo) (size : Nat) (ht : P.underlying t = some (.slice e)) (hi : P.info? e = some i)
    (v : Value) (n : Nat) (xs : List Value) (hs : a.eval s = v) (hown : w.ownsRow base e size v n xs) (c : Nat) (hx : a.eval x = .slice none 0 c) (h : K (a.put o.dst v) w) : o.wp P a w K Q := by
  unfold Oper.wp execOp
  simp only [ho, resolve, invoke, builtin, Sem.run_bind, Sem.run_pure, Result.andThen_ok, List.map_toArray, List.map_cons, List.map_nil, hs, hx, run_append_nilR w base t o.type e i size ht hi v n xs hown c]
  exact h
theorem wpList_append_nilR {P : Program} {w : World} {ops : Array Oper} {rest : List Oper} {o : Oper} {a : Act} {Q : Exit → Act → World → Prop} (hgd : o.guard = none) (s x : Operand) (t : TypeId)
    (ho : o.op = .call { callee := .builtin .append, args := #[s, x], argTypes := #[t, t] })
    (base : Nat) (e : TypeId) (i : TypeInfo) (size : Nat) (ht : P.underlying t = some (.slice e)) (hi : P.info? e = some i)
    (v : Value) (n : Nat) (xs : List Value) (hs : a.eval s = v) (hown : w.ownsRow base e size v n xs) (c : Nat) (hx : a.eval x = .slice none 0 c)
    (h : wpList P ops Q rest (a.put o.dst v) w) : wpList P ops Q (o :: rest) a w := by
  refine wpList_plain hgd fun K hK => ?_
  exact wp_append_nilR s x t ho base e i size ht hi v n xs hs hown c hx (hK _ _ h)

set_option maxHeartbeats 1000000 in
theorem l1Own_any (v : Value) (xs : List Int) (w : World) (h : RowOf vI w v xs) (hn : xs.length ≤ 1048576) :
    Calls Try.prog 95 #[v] w fun e w' => ∃ a' c', e = .returned (.slice a' xs.length c') ∧ IntsO w.heap.size w'.heap.size w' (.slice a' xs.length c') xs ∧ Below w.heap.size w w' := by
  obtain ⟨i0, hi, hz0, hz1, hz2⟩ := info_parts Try.info_intN
  obtain ⟨a, c, rfl, hl1, hm1, h3⟩ := h
  unfold maxLen at hm1
  rcases a with _ | ⟨b, off, spot⟩
  · have hx : xs = [] := by
      rcases h3 with h | ⟨b, off, _, e, _⟩
      · exact h
      · cases e
    subst hx
    clear h3
    go_enter Try.func95, Try.ntmps95
    go_wp2_with (first | (at_builtin; refine wpList_append_nilR rfl _ _ 30 rfl w.heap.size 3 i0 1 Try.underlying30 hi (.slice (some ⟨w.heap.size, 0, none⟩) 0 0) 0 [] rfl (World.ownsRow_made w #[] 0 (Nat.le_refl _) (Nat.zero_le _) rfl) c rfl ?_))
    go_ret
    exact ⟨_, _, rfl, ints_rowN (World.ownsRow_made w #[] 0 (Nat.le_refl _) (Nat.zero_le _) rfl) rfl, below_al (Below.refl _ _) _⟩
  · have HC : Hid (∀ o : Obj, ∀ j u, (xs.map vI)[j]? = some u → (w.alloc o).cell? ((⟨b, off, spot⟩ : Addr).add j) = some u) := by
      refine Lib.hid (fun o j u hj => ?_)
      rcases h3 with rfl | ⟨b', off', hb, e, hc⟩
      · simp at hj
      · cases e
        rw [Addr.add_lit]
        rw [List.getElem?_map] at hj
        rcases Nat.lt_or_ge j xs.length with hlt | hge
        · rw [List.getElem?_eq_getElem hlt] at hj
          cases hj
          exact below_al_cell (hc j hlt) o
        · rw [List.getElem?_eq_none hge] at hj
          cases hj
    have HONE : Hid (∀ u ∈ xs.map vI, u.oneCell' = true) := Lib.hid (fun u hu => by obtain ⟨x, _, rfl⟩ := List.mem_map.1 hu; rfl)
    have HLEN : Hid ((xs.map vI).length = xs.length * 1) := Lib.hid (by simp)
    clear h3
    go_enter Try.func95, Try.ntmps95
    go_wp2_with (first | (at_builtin; refine wpList_append_own _ rfl _ _ 30 rfl w.heap.size 3 i0 (.int .i64 0) 1 8 Try.underlying30 hi hz0 hz1 hz2 rfl (by decide) (.slice (some ⟨w.heap.size, 0, none⟩) 0 0) 0 [] rfl (World.ownsRow_made w #[] 0 (Nat.le_refl _) (Nat.zero_le _) rfl) ⟨b, off, spot⟩ xs.length c (xs.map vI) rfl HLEN.out (HC.out _) HONE.out (by unfold maxLen; omega) (by omega) (by simp) ?_; intro v' w1 hown' hgrow hnil))
    have HB : Hid (Below w.heap.size w w1) := Lib.hid ((below_al (Below.refl _ w) _).grown hgrow (by simp) (fun k hk => Nat.le_of_eq (by simpa [Value.ownBlock] using hk)))
    rw [Nat.zero_add, List.nil_append] at hown'
    have HI := Lib.hid (ints_rowN hown' rfl)
    obtain ⟨a', n', c', rfl⟩ := HI.out.slice
    have hn' : n' = xs.length := by obtain ⟨a2, c2, e2, _⟩ := HI.out.row; cases e2; rfl
    subst hn'
    clear hown' hgrow hnil
    go_wp2_with fail
    go_ret
    exact ⟨_, _, rfl, HI.out, HB.out⟩
end Go.Proofs.Ytedckfbjhhabgaa
