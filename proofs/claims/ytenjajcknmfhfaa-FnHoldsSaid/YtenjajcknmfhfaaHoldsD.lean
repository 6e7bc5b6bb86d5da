/- Lists of holds while they are drawn. -/
import Derived.Test.YtenjajcknmfhfaaTyHo
import Derived.Test.YtenjajcknmfhfaaDrwZ
import Derived.Test.YtenjajcknmfhfaaDrw
import Derived.Test.YtenjajcknmfhfaaIntsK
import Derived.Test.YtenjajcknmfhfaaRuCells
import Derived.Test.YtenjajcknmfhfaaBx
import Derived.Deep.RegionHeld3
import Derived.Maps.AppendAt
namespace Go.Proofs.Ytenjajcknmfhfaa
set_option linter.unusedVariables false
open Go.RowKit

/-- Numbers that lie in a block of the call's own, perhaps not from its beginning. -/
def SerW (lo : Nat) (w : World) (s : Value) (xs : List Int) : Prop := RowOf vI w s xs ∧ ∀ g, s.ownBlock = some g → lo ≤ g ∧ g < w.heap.size
theorem SerW.kept {lo : Nat} {row : Option Nat} {w w' : World} {s : Value} {xs : List Int} (h : SerW lo w s xs) (hg : w.grownBy w' row) (hn : ∀ g, s.ownBlock = some g → row ≠ some g) : SerW lo w' s xs := by
  obtain ⟨⟨a, c, rfl, h1, h2, h3⟩, h4⟩ := h
  refine ⟨⟨a, c, rfl, h1, h2, h3.imp id ?_⟩, fun g hg' => ⟨(h4 g hg').1, Nat.lt_of_lt_of_le (h4 g hg').2 hg.size⟩⟩
  rintro ⟨b, off, hb, rfl, hc⟩
  exact ⟨b, off, Nat.lt_of_lt_of_le hb hg.size, rfl, fun i hi => hg.cell (hc i hi) (fun e => hn b rfl e.symm)⟩
theorem SerW.grown {lo B : Nat} {w w' : World} {s : Value} {xs : List Int} (h : SerW lo w s xs) (hg : w.grownBy w' (some B)) (hB : B < lo) : SerW lo w' s xs :=
  h.kept hg (fun g hg' e => by cases e; have := (h.2 B hg').1; omega)
theorem SerW.alloc {lo : Nat} {w : World} {s : Value} {xs : List Int} (h : SerW lo w s xs) (o : Obj) : SerW lo (w.alloc o) s xs :=
  h.kept (World.grownBy_alloc w o none) (fun g _ e => by cases e)
theorem SerW.empty {lo : Nat} (w : World) (hlo : lo ≤ w.heap.size) (T : TypeId) : SerW lo (w.alloc (.cells #[] T (0, 0))) (.slice (some ⟨w.heap.size, 0, none⟩) 0 0) [] :=
  ⟨⟨_, _, rfl, Nat.le_refl _, by simp [maxLen], .inl rfl⟩, fun g hg => by simp [Value.ownBlock] at hg; subst hg; simp; exact hlo⟩
/-- A literal of numbers from its i-th on. -/
theorem SerW.from {lo : Nat} {w : World} {g i n : Nat} {L : List Int} (hlo : lo ≤ g) (hg : g < w.heap.size) (hn : L.length = n) (hi : i ≤ n) (hm : n ≤ 1000) (hc : ∀ j (hj : j < L.length), w.cell? ⟨g, 0 + j, none⟩ = some (.int .i64 L[j])) : SerW lo w (.slice (some ⟨g, 0 + i, none⟩) (n - i) (n - i)) (L.drop i) := by
  refine ⟨⟨some ⟨g, 0 + i, none⟩, n - i, by rw [List.length_drop, hn], by rw [List.length_drop, hn]; omega, by unfold maxLen; omega, .inr ⟨g, 0 + i, hg, rfl, fun j hj => ?_⟩⟩, fun k hk => by simp [Value.ownBlock] at hk; subst hk; exact ⟨hlo, hg⟩⟩
  have hj2 : i + j < L.length := by rw [List.length_drop] at hj; omega
  have := hc (i + j) hj2
  rw [List.getElem_drop]
  simpa [vI, Nat.add_assoc] using this
theorem Try.info_hoD : (Try.prog.info? 140).map (fun i => (i.zero, i.size, i.bytes)) = some (some (.agg #[.int .i64 0, .int .i64 0, .int .i64 0, .slice none 0 0, .int .i64 0, .int .i64 0]), 6, 64) := by kernel_rfl
def hC (r : Ho) (s : Value) : List Value := [.int .i64 r.id, .int .i64 r.frm, .int .i64 r.til, s, .int .i64 r.fst, .int .i64 r.lst]
def hosC (es : List (Ho × Value)) : List Value := (es.map (fun p => hC p.1 p.2)).flatten
theorem hosC_snoc (es : List (Ho × Value)) (r : Ho) (s : Value) : hosC (es ++ [(r, s)]) = hosC es ++ hC r s := by simp [hosC]
structure HosW (lo : Nat) (w : World) (v : Value) (es : List (Ho × Value)) : Prop where
  row : w.ownsRow lo 140 6 v es.length (hosC es)
  each : ∀ p ∈ es, SerW lo w p.2 p.1.ser ∧ p.1.ok ∧ ∀ g, p.2.ownBlock = some g → v.ownBlock ≠ some g
theorem HosW.alloc {lo : Nat} {w : World} {v : Value} {es : List (Ho × Value)} (h : HosW lo w v es) (o : Obj) : HosW lo (w.alloc o) v es :=
  ⟨h.row.alloc o, fun p hp => ⟨(h.each p hp).1.alloc o, (h.each p hp).2⟩⟩
theorem HosW.grown {lo B : Nat} {w w' : World} {v : Value} {es : List (Ho × Value)} (h : HosW lo w v es) (hg : w.grownBy w' (some B)) (hB : B < lo) : HosW lo w' v es :=
  ⟨own_grown h.row hg hB, fun p hp => ⟨(h.each p hp).1.grown hg hB, (h.each p hp).2⟩⟩
theorem HosW.app {lo : Nat} {w w' : World} {v v' : Value} {es : List (Ho × Value)} {r : Ho} {s : Value} (h : HosW lo w v es) (he : SerW lo w s r.ser) (hok : r.ok) (ha : ∀ g, s.ownBlock = some g → v.ownBlock ≠ some g)
    (hown : w'.ownsRow lo 140 6 v' (es.length + 1) (hosC es ++ hC r s)) (hg : w.grownBy w' v.ownBlock) (hat : v'.ownBlock = v.ownBlock ∨ v'.ownBlock = some w.heap.size) : HosW lo w' v' (es ++ [(r, s)]) := by
  have key : ∀ (q : Ho) (u : Value), SerW lo w u q.ser → (∀ g, u.ownBlock = some g → v.ownBlock ≠ some g) → SerW lo w' u q.ser ∧ ∀ g, u.ownBlock = some g → v'.ownBlock ≠ some g := by
    intro q u h1 h2
    refine ⟨h1.kept hg h2, fun g e1 e2 => ?_⟩
    rcases hat with e | e
    · exact h2 g e1 (by rw [← e]; exact e2)
    · rw [e] at e2; cases e2
      have := (h1.2 _ e1).2
      omega
  refine ⟨by rw [hosC_snoc, List.length_append]; exact hown, fun p hp => ?_⟩
  rcases List.mem_append.1 hp with hp | hp
  · obtain ⟨a, b⟩ := key p.1 p.2 (h.each p hp).1 (h.each p hp).2.2
    exact ⟨a, (h.each p hp).2.1, b⟩
  · rw [List.mem_singleton.1 hp]
    obtain ⟨a, b⟩ := key r s he ha
    exact ⟨a, hok, b⟩
theorem HosW.drew {lo : Nat} {w : World} {v : Value} {es : List (Ho × Value)} (h : HosW lo w v es) : HosW lo w.drew v es := ⟨h.row, fun p hp => h.each p hp⟩
theorem put_grown (w : World) (F j : Nat) (u : Value) : w.grownBy (w.setCell ⟨F, j, none⟩ u) (some F) := ⟨rfl, rfl, rfl, by simp, fun k _ hk => Below.heap_setCell w ⟨F, j, none⟩ u k (fun e => hk (by rw [e]))⟩
theorem SerW.put {lo F j : Nat} {w : World} {s u : Value} {xs : List Int} (h : SerW lo w s xs) (hn : ∀ g, s.ownBlock = some g → g ≠ F) : SerW lo (w.setCell ⟨F, j, none⟩ u) s xs :=
  h.kept (put_grown w F j u) (fun g hg e => hn g hg (Option.some.inj e).symm)
theorem HosW.put {lo F j : Nat} {w : World} {v u : Value} {es : List (Ho × Value)} (h : HosW lo w v es) (hv : ∀ g, v.ownBlock = some g → g ≠ F) (he : ∀ p ∈ es, ∀ g, p.2.ownBlock = some g → g ≠ F) : HosW lo (w.setCell ⟨F, j, none⟩ u) v es := by
  refine ⟨h.row.kept (put_grown w F j u) ?_, fun p hp => ⟨(h.each p hp).1.put (he p hp), (h.each p hp).2⟩⟩
  rcases e : v.ownBlock with _ | k
  · exact .inl rfl
  · exact .inr fun e2 => hv k e (Option.some.inj e2)
theorem cells6_newW (w : World) (a b c d e f : Value) (t : TypeId) {k : Nat} (hk : k = w.heap.size) : ∀ j u, [a, b, c, d, e, f][j]? = some u → (w.alloc (.cells #[a, b, c, d, e, f] t (0, 0))).cell? ((⟨k, 0, none⟩ : Addr).add j) = some u := by
  subst hk
  intro j u hj
  rw [Addr.add_lit]
  simp only [Nat.zero_add]
  match j, hj with
  | 0, h => cases h; exact cell_new w _ _ 0 rfl
  | 1, h => cases h; exact cell_new w _ _ 1 rfl
  | 2, h => cases h; exact cell_new w _ _ 2 rfl
  | 3, h => cases h; exact cell_new w _ _ 3 rfl
  | 4, h => cases h; exact cell_new w _ _ 4 rfl
  | 5, h => cases h; exact cell_new w _ _ 5 rfl
theorem HosW.reads {lo : Nat} {w : World} {v : Value} {es : List (Ho × Value)} (h : HosW lo w v es) : RowR 6 rHo w v (es.map Prod.fst) := by
  refine RowR.of_owns (css := es.map (fun p => hC p.1 p.2)) (by rw [List.length_map]; exact h.row) (by simp) (fun cs hc => ?_) (fun i h1 h2 => ?_)
  · obtain ⟨p, _, rfl⟩ := List.mem_map.1 hc; rfl
  · have hi : i < es.length := by simpa using h1
    have hm := h.each es[i] (List.getElem_mem hi)
    rw [List.getElem_map, List.getElem_map]
    exact ⟨es[i].2, rfl, hm.1.1, hm.2.1⟩
theorem HosW.start {L : Nat} {w : World} (hL : w.heap.size = L) : HosW L (w.alloc (.cells #[] 140 (0, 0))) (.slice (some ⟨L, 0, none⟩) 0 0) [] := by
  subst hL
  exact ⟨World.ownsRow_made w #[] 0 (Nat.le_refl _) (Nat.zero_le _) rfl, fun p hp => by cases hp⟩
theorem HosW.lt {lo : Nat} {w : World} {a : Option Addr} {n c : Nat} {es : List (Ho × Value)} (h : HosW lo w (.slice a n c) es) : ∀ g, Value.ownBlock (.slice a n c) = some g → g < w.heap.size := fun g hg => (h.row.lt g hg).2
theorem HosW.slice {lo : Nat} {w : World} {v : Value} {es : List (Ho × Value)} (h : HosW lo w v es) : ∃ a c, v = .slice a es.length c := by
  rcases h.row.2 with ⟨rfl, h0⟩ | ⟨g, cap, cur, e, _⟩
  · exact ⟨none, 0, by rw [h0]⟩
  · exact ⟨_, _, e⟩
def lenOfH : Value → Nat
  | .slice _ n _ => n
  | _ => 0
def HosDrawn (w : World) (B K : Nat) (e : Ending) (w' : World) : Prop := ∃ v es, e = .returned v ∧ es.length ≤ 12 ∧ HosW w.heap.size w' v es ∧ Cur w' B K ∧ w.grownBy w' (some B)
end Go.Proofs.Ytenjajcknmfhfaa
