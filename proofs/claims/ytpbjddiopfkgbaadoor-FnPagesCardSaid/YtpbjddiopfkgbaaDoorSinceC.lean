/- Files closed in a span of days: what the model's and the program's proofs share. No program is named here. -/
import Derived.Test.YtpbjddiopfkgbaaDoorSinceM
import Derived.Test.YtpbjddiopfkgbaaDoorFlat
import Derived.Test.YtpbjddiopfkgbaaDoorCells
namespace Go.Proofs.YtpbjddiopfkgbaaDoor
set_option linter.unusedVariables false
open Go.RowKit Go.Sort

theorem since_no {t : List Fi} {a b : Int} {xs : List Int} {c : Bool} (h : sinceRes t a b = (xs, c)) (hn : ¬ (areFi t = true ∧ (0 ≤ b ∧ b ≤ 20000) ∧ (0 ≤ a ∧ a ≤ b))) : xs = [] ∧ c = false := by
  unfold sinceRes at h
  rw [if_neg hn] at h
  obtain ⟨h1, h2⟩ := Prod.mk.inj h
  exact ⟨h1.symm, h2.symm⟩
theorem since_yes {t : List Fi} {a b : Int} {xs : List Int} {c : Bool} (h : sinceRes t a b = (xs, c)) (hn : areFi t = true ∧ (0 ≤ b ∧ b ≤ 20000) ∧ (0 ≤ a ∧ a ≤ b)) : xs = (sinceF t a b).map (·.id) ∧ c = true := by
  unfold sinceRes at h
  rw [if_pos hn] at h
  obtain ⟨h1, h2⟩ := Prod.mk.inj h
  exact ⟨h1.symm, h2.symm⟩
theorem filter_take_succ {p : Fi → Bool} {t : List Fi} {k : Nat} (hk : k < t.length) : (t.take (k + 1)).filter p = if p (t.getD k fiD) = true then (t.take k).filter p ++ [t.getD k fiD] else (t.take k).filter p := by
  rw [List.take_add_one, List.getElem?_eq_getElem hk, Option.toList_some, List.filter_append, getFi_lt hk]
  split
  · next h => simp [h]
  · next h => simp [h]
theorem cells7_new' (w : World) (a b c d e f g : Value) (t : TypeId) {k : Nat} (hk : k = w.heap.size) : ∀ j u, [a, b, c, d, e, f, g][j]? = some u → (w.alloc (.cells #[a, b, c, d, e, f, g] t (0, 0))).cell? ((⟨k, 0, none⟩ : Addr).add j) = some u := by
  subst hk
  intro j u hj
  rw [Addr.add_lit, Nat.zero_add]
  exact cell_new w _ _ j (by simpa using hj)

theorem cells_grownF {W W' : World} {row : Option Nat} {ad : Addr} {cs : List Value} (hg : W.grownBy W' row) (hc : ∀ j u, cs[j]? = some u → W.cell? (ad.add j) = some u) (hne : some ad.block ≠ row) : ∀ j u, cs[j]? = some u → W'.cell? (ad.add j) = some u := fun j u hj =>
  (World.cell?_of_block (w := W) (hg.block _ (World.block_lt_of_cell? _ _ (hc j u hj)) (by show some (ad.add j).block ≠ row; rw [show (ad.add j).block = ad.block by unfold Addr.add; split <;> rfl]; exact hne))).trans (hc j u hj)
theorem own_formF {lo e size n : Nat} {w : World} {v : Value} {xs : List Value} (h : w.ownsRow lo e size v n xs) (hn : 0 < n) : ∃ g cap, v = .slice (some ⟨g, 0, none⟩) n cap := by
  rcases h.2 with ⟨_, h0⟩ | ⟨g, cap, cur, rfl, hg, _⟩
  · omega
  · exact ⟨g, cap, rfl⟩
theorem since_step {t : List Fi} {a b : Int} {p : Nat} {f : Fi} {D : List Fi} {k : Nat} (hp : p < t.length) (hx : t.getD p fiD = f) (hd : ordF ((t.take p).filter (sinceB a b)) = D) (hy : sinceB a b f = true) (hs : scanF D f.closed D.length = scanF D f.closed k) (hk : scanF D f.closed k = k) :
    ordF ((t.take (p + 1)).filter (sinceB a b)) = D.take k ++ f :: D.drop k := by
  rw [filter_take_succ hp, hx, if_pos hy, ordF_snoc, hd]
  unfold insF
  rw [hs, hk]
theorem since_skip {t : List Fi} {a b : Int} {p : Nat} {f : Fi} {D : List Fi} (hp : p < t.length) (hx : t.getD p fiD = f) (hd : ordF ((t.take p).filter (sinceB a b)) = D) (hy : sinceB a b f = false) :
    ordF ((t.take (p + 1)).filter (sinceB a b)) = D := by
  rw [filter_take_succ hp, hx, if_neg (by rw [hy]; simp), hd]
end Go.Proofs.YtpbjddiopfkgbaaDoor
