/- AddFunction, the model's and the program's. -/
import Derived.Test.YtpbjddiopfkgbaaPathS
import Derived.Test.YtpbjddiopfkgbaaCloneFn
import Derived.Deep.RegionLawGrows
import Derived.Deep.RegionLaw
namespace Go.Proofs.Ytpbjddiopfkgbaa
set_option linter.unusedVariables false
open Go.RowKit Go.Sort

/-- What AddFunction answers. -/
def addF (t : List Fn) (p : Int) (s : ByteArray) : List Fn := t ++ [⟨nextId t, p, s⟩]
def addFRes (t : List Fn) (p : Int) (s : ByteArray) : List Fn × Int × Bool := if isTree (addF t p s) = true then (addF t p s, nextId t, true) else ([], 0, false)
theorem addFRes_len {t : List Fn} {p : Int} {s : ByteArray} {xs : List Fn} {n : Int} {b : Bool} (h : addFRes t p s = (xs, n, b)) : xs.length ≤ t.length + 1 := by
  unfold addFRes addF at h
  split at h
  · obtain ⟨rfl, _⟩ := Prod.mk.inj h; simp
  · obtain ⟨rfl, _⟩ := Prod.mk.inj h; simp
theorem nextId_zero {t : List Fn} (h : t.length = 0) : nextId t = 1 := by unfold nextId; rw [if_pos h]
theorem nextId_last {t : List Fn} (h : 0 < t.length) : nextId t = (t.getD (t.length - 1) fnD).id + 1 := by unfold nextId; rw [if_neg (by omega)]

theorem cells3_new' (w : World) (a b c : Value) (t : TypeId) {k : Nat} (hk : k = w.heap.size) : ∀ j u, [a, b, c][j]? = some u → (w.alloc (.cells #[a, b, c] t (0, 0))).cell? ((⟨k, 0, none⟩ : Addr).add j) = some u := by
  subst hk
  intro j u hj
  rw [Addr.add_lit, Nat.zero_add]
  exact cell_new w _ t j (by simpa using hj)



/-- Where the cells of a list lie that is not nil. -/
theorem fns_cells {w : World} {ad : Addr} {n c : Nat} {t : List Fn} (h : RowR 3 rFn w (.slice (some ad) n c) t) : ∀ W, Below w.heap.size w W → ∀ j u, (t.map fnC).flatten[j]? = some u → W.cell? (ad.add j) = some u := by
  obtain ⟨b, off, spot⟩ := ad
  obtain ⟨a, cap, e, h1, h2, h3⟩ := h
  cases e
  rcases h3 with rfl | ⟨b', off', hb, e, hc⟩
  · intro W _ j u hj; simp at hj
  · cases e
    intro W hW j u hj
    rw [Addr.add_lit]
    exact cell_kept (RowR.flat (R := rFn) (fun _ _ _ h => h.1) fnC_len (by decide) (⟨_, _, rfl, h1, h2, .inr ⟨b, off, hb, rfl, hc⟩⟩ : RowR 3 rFn w _ t) j u hj) hW
theorem FnsO.empty {lo : Nat} (w : World) (h : lo ≤ w.heap.size) : FnsO lo (w.alloc (.cells #[] 36 (0, 0))).heap.size (w.alloc (.cells #[] 36 (0, 0))) (.slice (some ⟨w.heap.size, 0, none⟩) 0 0) [] :=
  FnsO.of_row (n := 0) (World.ownsRow_made w #[] 0 h (Nat.zero_le _) rfl) rfl (by simp)
theorem wrap_inI (n : Int) : inI (IntKind.i64.wrap n) := by
  rw [IntKind.wrap_i64]; unfold inI; omega

end Go.Proofs.Ytpbjddiopfkgbaa
