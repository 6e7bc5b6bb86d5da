/- A map from integers to slices of integers, each a row of the call's own: its keys, what lies at a key. -/
import Derived.Test.YtcfghigmijibeaaFoW
import Derived.Test.YtcfghigmijibeaaQRow
import Derived.Test.YtcfghigmijibeaaIntsN
import Derived.Test.YtcfghigmijibeaaIter
import Derived.Test.YtcfghigmijibeaaFo4I
import Derived.Shelf.SlIterI.Nil
import Derived.Maps.Own
import Derived.Lib.SlKeysI
namespace Go.Proofs.Ytcfghigmijibeaa
set_option linter.unusedVariables false
open Go.RowKit Go.Sort Go.Maps Go.Shelf

theorem mem_insertW {H : Type} (x p : Lit × DataW H) : ∀ l : List (Lit × DataW H), p ∈ DataW.insert x l ↔ p = x ∨ p ∈ l
  | [] => by simp [DataW.insert]
  | y :: r => by
    unfold DataW.insert
    split
    · simp
    · rw [List.mem_cons, mem_insertW x p r, List.mem_cons]
      constructor
      · rintro (h | h | h)
        · exact .inr (.inl h)
        · exact .inl h
        · exact .inr (.inr h)
      · rintro (h | h | h)
        · exact .inr (.inl h)
        · exact .inl h
        · exact .inr (.inr h)
/-- A map with int keys: which keys it has. -/
structure IntKeyedW {H : Type} (D : DataW H) (inn : Int → Bool) : Prop where
  tidy : Tidy D
  keys : ∀ es, D = .map es → ∀ p ∈ es, ∃ s : Int, p.1 = .int .i64 s
  has_ : ∀ s : Int, has D (.int .i64 s) = inn s
theorem IntKeyedW.empty {H : Type} : IntKeyedW (.map [] : DataW H) (fun _ => false) := ⟨tidy_empty, (fun es e p hp => by cases e; cases hp), fun s => by simp [has_eq]⟩
theorem IntKeyedW.put {H : Type} {D : DataW H} {inn : Int → Bool} (h : IntKeyedW D inn) (r : Int) (v : DataW H) : IntKeyedW (D.put (.int .i64 r) v) (fun s => inn s || decide (r = s)) := by
  have hk : WideAt.IsKeyLit (.int .i64 r) := trivial
  obtain ⟨es0, hes⟩ := h.tidy.isMap
  refine ⟨h.tidy.put hk _, fun es e p hp => ?_, fun s => ?_⟩
  · subst hes
    simp only [DataW.put, DataW.map.injEq] at e
    subst e
    rcases (mem_insertW _ _ _).1 hp with rfl | hp
    · exact ⟨_, rfl⟩
    · exact h.keys es0 rfl p (List.mem_filter.1 hp).1
  · by_cases e : r = s
    · subst e
      rw [has_put_same h.tidy.isMap hk]; simp
    · rw [has_put_other (by simp; exact fun q => e q.symm), h.has_]; simp [e]
theorem IntKeyedW.mem {H : Type} {D : DataW H} {inn : Int → Bool} (h : IntKeyedW D inn) (s : Int) : s ∈ intKeys D ↔ inn s = true := by
  have h1 := h.has_ s
  obtain ⟨es, rfl⟩ := h.tidy.isMap
  rw [has_eq] at h1
  rw [← h1, List.any_eq_true]
  simp only [intKeys, List.mem_map]
  constructor
  · rintro ⟨p, hp, e⟩
    obtain ⟨z, hz⟩ := h.keys es rfl p hp
    refine ⟨p, hp, ?_⟩
    rw [hz] at e ⊢
    have e' : z = s := e
    subst e'
    simp [Lit.sameKey]
  · rintro ⟨p, hp, e⟩
    obtain ⟨z, hz⟩ := h.keys es rfl p hp
    refine ⟨p, hp, ?_⟩
    rw [hz] at e ⊢
    simp [Lit.sameKey] at e
    exact e
theorem IntKeyedW.nodup {H : Type} {D : DataW H} {inn : Int → Bool} (h : IntKeyedW D inn) : (intKeys D).Nodup := by
  obtain ⟨es, rfl, hp⟩ := h.tidy
  have hk := h.keys es rfl
  clear h
  simp only [intKeys]
  unfold List.Nodup
  rw [List.pairwise_map]
  refine hp.imp_of_mem fun {a b} ha hb hne e => hne ?_
  obtain ⟨x, hx⟩ := hk a ha
  obtain ⟨y, hy⟩ := hk b hb
  rw [hx, hy] at e ⊢
  have e' : x = y := e
  rw [e']
/-- Its keys in order: rising, and just those that it has. -/
theorem IntKeyedW.sorted {H : Type} {D : DataW H} {inn : Int → Bool} (h : IntKeyedW D inn) {ss : List Int} (hs : ss.Perm (intKeys D)) :
    (ss.mergeSort (fun x y => decide (x ≤ y))).Pairwise (· < ·) ∧ ∀ s, s ∈ ss.mergeSort (fun x y => decide (x ≤ y)) ↔ inn s = true := by
  have hp := List.mergeSort_perm ss (fun x y => decide (x ≤ y))
  have hle := List.pairwise_mergeSort (le := fun x y : Int => decide (x ≤ y)) (fun a b c h1 h2 => by simp at *; omega) (fun a b => by simp; omega) ss
  have hnd : (ss.mergeSort (fun x y => decide (x ≤ y))).Nodup := (hp.trans hs).nodup_iff.2 h.nodup
  refine ⟨?_, fun s => by rw [(hp.trans hs).mem_iff, h.mem]⟩
  have := hle.and hnd
  exact this.imp fun {a b} ⟨h1, h2⟩ => by
    have h1' : a ≤ b := by simpa using h1
    have h2' : a ≠ b := h2
    omega


/-- Each element reads as itself. -/
def heldR (v : Value) : Option (DataW Value × List MemPlace) := some (.held v, [])
abbrev MapP (w : World) (b n : Nat) (D : DataW Value) : Prop := w.ownsMap Try.prog 3 heldR b n D
def nilH : DataW Value := .held (.slice none 0 0)
/-- The map tells the paths found; each path is a row of its own, above 'lo', and not one of those that are shunned. -/
structure POK (w : World) (lo : Nat) (no : Nat → Prop) (D : DataW Value) (S : List En) : Prop where
  ik : IntKeyedW D (hasK S)
  look : ∀ (x : Int) (p : List Int), lookP S x = some p → ∃ v, D.atKey (.int .i64 x) nilH = .held v ∧ w.ownsRow lo 3 1 v p.length (p.map vI) ∧ 0 < p.length ∧ ∀ g, v.ownBlock = some g → ¬ no g
  size_ : size D ≤ S.length
theorem lookP_snoc {S : List En} {e : En} (h : hasK S e.1 = false) (y : Int) : lookP (S ++ [e]) y = if e.1 = y then some e.2 else lookP S y := by
  unfold lookP
  rw [List.find?_append]
  by_cases q : e.1 = y
  · rw [if_pos q]
    have : S.find? (fun e' => decide (e'.1 = y)) = none := by
      rw [List.find?_eq_none]
      intro a ha
      have h2 : ¬ a.1 = y := fun c => by
        have : hasK S e.1 = true := hasK_iff.2 ⟨a, ha, by rw [c, q]⟩
        rw [h] at this; cases this
      simp [h2]
    rw [this]
    simp [q]
  · rw [if_neg q]
    rw [show [e].find? (fun e' => decide (e'.1 = y)) = none by simp [q], Option.or_none]
section
variable {w w' : World} {lo : Nat} {no no' : Nat → Prop} {D : DataW Value} {S : List En}
theorem POK.nolook (h : POK w lo no D S) {x : Int} (hx : lookP S x = none) : D.atKey (.int .i64 x) nilH = nilH := by
  exact atKey_of_not_has ((h.ik.has_ x).trans (lookP_none.1 hx)) _
theorem POK.kept {row : Option Nat} (h : POK w lo no D S) (hg : w.grownBy w' row) (hr : ∀ g, row = some g → no g ∨ g < lo) : POK w' lo no D S := by
  refine ⟨h.ik, fun x p hx => ?_, h.size_⟩
  obtain ⟨v, h1, h2, h3, h4⟩ := h.look x p hx
  refine ⟨v, h1, h2.kept hg ?_, h3, h4⟩
  rcases hb : v.ownBlock with _ | g
  · exact .inl rfl
  · refine .inr (fun q => ?_)
    rcases hr g q.symm with k | k
    · exact h4 g hb k
    · have := (h2.lt g hb).1; omega
theorem POK.renog (h : POK w lo no D S) (hn : ∀ g, no' g → no g ∨ w.heap.size ≤ g) : POK w lo no' D S := by
  refine ⟨h.ik, fun x p hx => ?_, h.size_⟩
  obtain ⟨v, h1, h2, h3, h4⟩ := h.look x p hx
  refine ⟨v, h1, h2, h3, fun g hb k => ?_⟩
  rcases hn g k with q | q
  · exact h4 g hb q
  · have := (h2.lt g hb).2; omega
theorem POK.below (h : POK w lo no D S) (hb : Below w.heap.size w w') : POK w' lo no D S := h.kept (grownBy_of_below hb none) (fun g e => by cases e)
theorem POK.put (h : POK w lo no D S) {x : Int} {p : List Int} {v : Value} (hx : hasK S x = false) (hv : w.ownsRow lo 3 1 v p.length (p.map vI)) (hp : 0 < p.length) (hn : ∀ g, v.ownBlock = some g → ¬ no g) : POK w lo no (D.put (.int .i64 x) (.held v)) (S ++ [(x, p)]) := by
  have hk : WideAt.IsKeyLit (.int .i64 x) := trivial
  refine ⟨?_, fun y q hy => ?_, ?_⟩
  · have := h.ik.put x (.held v)
    have e : hasK (S ++ [(x, p)]) = fun s => hasK S s || decide (x = s) := funext fun s => hasK_snoc _ _ _
    rw [e]; exact this
  · rw [lookP_snoc hx] at hy
    by_cases e : x = y
    · subst e
      rw [if_pos rfl] at hy
      rw [← Option.some.inj hy]
      exact ⟨v, atKey_put_same h.ik.tidy.isMap hk _ _, hv, hp, hn⟩
    · rw [if_neg e] at hy
      obtain ⟨v', h1, h2⟩ := h.look y q hy
      exact ⟨v', by rw [atKey_put_other (by simp; exact fun q => e q.symm)]; exact h1, h2⟩
  · rw [size_put h.ik.tidy, List.length_append]
    have := h.size_
    split <;> simp <;> omega
theorem POK.empty (w : World) (lo : Nat) (no : Nat → Prop) : POK w lo no (.map []) [] := ⟨(show hasK [] = fun _ => false from funext fun s => rfl) ▸ IntKeyedW.empty, (fun x p h => by cases h), Nat.le_refl _⟩
end
theorem key_intP (s : Int) (h : inI s) : keyOf Try.prog 3 (.int .i64 s) = some (.int .i64 s) :=
  keyOf_int_mk Try.underlying3 (by unfold inI at h; simp [Lit.wf, IntKind.min, IntKind.max, IntKind.signed, IntKind.bits]; omega)
theorem zero_ints (w : World) : (zeroValue 39).run Try.prog w = .ok (.slice none 0 0) w := by kernel_rfl
theorem look_mapP {w : World} {b n : Nat} {D : DataW Value} (h : MapP w b n D) (s : Int) (hs : inI s) {v : Value} (hv : D.atKey (.int .i64 s) nilH = .held v) :
    (Instr.lookup 82 (.map (some b)) (.int .i64 s) false).run Try.prog w = .ok v w := by
  obtain ⟨u, ps, hr, hu⟩ := h.lookup (int_keyed Try.underlying3) Try.underlying82 (z := .slice none 0 0) (zero_ints w) (zd := nilH) (zp := []) rfl (key_intP s hs)
  rw [hv] at hu
  simp only [heldR, Option.some.injEq, Prod.mk.injEq, DataW.held.injEq] at hu
  rw [← hu.1]; exact hr

theorem keysP_any (mb : Option Nat) (W : World) : Calls Try.prog 66 #[.map mb] W fun e w' => e = .returned (.func (.func 85) #[] #[.pointer (some ⟨W.heap.size, 0, none⟩)]) ∧ w' = W.alloc (.cells #[.map mb] 82) :=
  (callsIn_wide (n := 5)).1 (AnyZI.keys_in Try.keysPath Fence.wide 5 trivial rfl mb W)
theorem sortedP_any (b nn : Nat) (D : DataW Value) (w : World) (hown : MapP w b nn D) (hmax : Maps.size D ≤ 1048576) :
    Calls Try.prog 61 #[.func (.func 85) #[] #[.pointer (some ⟨w.heap.size, 0, none⟩)]] (w.alloc (.cells #[.map (some b)] 82)) fun e w' => ∃ (v : Value) (ss : List Int), e = .returned v ∧ ss.Perm (intKeys D) ∧
      w'.ownsRow (w.heap.size + 1) 3 1 v ss.length ((ss.mergeSort (fun x y => decide (x ≤ y))).map vI) ∧ Below (w.heap.size + 1) (w.alloc (.cells #[.map (some b)] 82)) w' := by
  refine (callsIn_wide (n := 5)).1 ?_
  have hbl := hown.lt
  have hseq : SeqGives Fence.wide 2 Try.prog 85 #[.pointer (some ⟨w.heap.size, 0, none⟩)] encZ (fun ss => ss.Perm (intKeys D)) (Maps.size D) (w.alloc (.cells #[.map (some b)] 82)) :=
    AnyZI.keys_gives (ρ := Try.keysPath_ren) { Try.keysPath with } Fence.wide _ trivial rfl (by omega) w.heap.size b nn D _ (by simp) (by simp) (by
      obtain ⟨es, clock, hb, Ft, hs, hD⟩ := hown
      exact ⟨es, clock, (Below.heap_alloc _ _ b hbl).trans hb, Ft, hs, hD⟩)
  have cS := AnyZI.sorted_in Try.sortedI Fence.wide 5 trivial trivial trivial trivial rfl (by omega) (sortsI _) (enters_of Try.func81 (by kernel_rfl) rfl) 85 #[.pointer (some ⟨w.heap.size, 0, none⟩)] trivial (enters_of Try.func85 (by kernel_rfl) rfl) _ _ (by unfold maxLen; omega) (by omega) _ hseq
  refine cS.mono ?_
  rintro e w' ⟨v, ss, rfl, hp, hrow, _, hb⟩
  have h1 : w'.ownsRow (w.alloc (.cells #[.map (some b)] 82)).heap.size 3 1 v ss.length ((ss.mergeSort (fun x y => decide (x ≤ y))).map vI) := hrow
  exact ⟨v, ss, rfl, hp, by simpa using h1, by simpa using hb⟩
theorem sortedP_nil (w : World) :
    Calls Try.prog 61 #[.func (.func 85) #[] #[.pointer (some ⟨w.heap.size, 0, none⟩)]] (w.alloc (.cells #[.map none] 82)) fun e w' => ∃ v, e = .returned v ∧ w'.ownsRow (w.heap.size + 1) 3 1 v 0 [] ∧ Below (w.heap.size + 1) (w.alloc (.cells #[.map none] 82)) w' := by
  refine (callsIn_wide (n := 5)).1 ?_
  have hseq : SeqGives Fence.wide 2 Try.prog 85 #[.pointer (some ⟨w.heap.size, 0, none⟩)] encZ (fun ss : List Int => ss = []) 0 (w.alloc (.cells #[.map none] 82)) :=
    AnyZI.keys_gives_nil (ρ := Try.keysPath_ren) { Try.keysPath with } Fence.wide _ trivial rfl w.heap.size _ (by simp) (by simp)
  have cS := AnyZI.sorted_in Try.sortedI Fence.wide 5 trivial trivial trivial trivial rfl (by omega) (sortsI _) (enters_of Try.func81 (by kernel_rfl) rfl) 85 #[.pointer (some ⟨w.heap.size, 0, none⟩)] trivial (enters_of Try.func85 (by kernel_rfl) rfl) _ _ (by unfold maxLen; omega) (by omega) _ hseq
  refine cS.mono ?_
  rintro e w' ⟨v, ss, rfl, hp, hrow, _, hb⟩
  subst hp
  have h1 : w'.ownsRow (w.alloc (.cells #[.map none] 82)).heap.size 3 1 v ([] : List Int).length ((([] : List Int).mergeSort (fun x y => decide (x ≤ y))).map vI) := hrow
  exact ⟨v, rfl, by simpa using h1, by simpa using hb⟩
end Go.Proofs.Ytcfghigmijibeaa
