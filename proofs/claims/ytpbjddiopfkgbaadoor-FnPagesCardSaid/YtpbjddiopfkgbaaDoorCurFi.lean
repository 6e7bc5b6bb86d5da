/- What the cursor gives of numbers; a list of files through draws. -/
import Derived.Test.YtpbjddiopfkgbaaDoorCurNew
import Derived.Test.YtpbjddiopfkgbaaDoorToFi
namespace Go.Proofs.YtpbjddiopfkgbaaDoor
set_option linter.unusedVariables false
open Go.RowKit

set_option maxHeartbeats 1000000 in
theorem among_any (B K g off cap n : Nat) (xs : List Int) (w : World) (h : Cur w B K) (hK : K ≤ 549755813888) (hn : n = xs.length) (h0 : 0 < n) (hn1 : n ≤ 1099511627776) (hgB : g ≠ B)
    (hc : ∀ i (hi : i < xs.length), w.cell? ⟨g, off + i, none⟩ = some (.int .i64 xs[i])) :
    Calls Tryd.prog 64 #[.pointer (some ⟨B, 0, none⟩), .slice (some ⟨g, off, none⟩) n cap] w (CurNum w B (K + 2) xs) := by
  have H := Lib.hid h
  have HC := Lib.hid hc
  have HN := Lib.hid hn
  clear h hc hn
  go_enter Tryd.func64, Tryd.ntmps64
  go_wp2_with fail
  refine (pick_any B K n _ H.out hK (by omega) (by omega)).mono ?_
  rintro e w1 ⟨r, rfl, hr0, hr1, hc1, hg1⟩
  obtain ⟨k, rfl⟩ := Int.eq_ofNat_of_zero_le hr0
  have hk : k < xs.length := by have := HN.out; omega
  have f1 := hg1.cell (HC.out k hk) (by simpa using hgB)
  have HC1 := Lib.hid hc1
  have HG1 := Lib.hid hg1
  clear hc1 hg1
  go_wp2
  go_ret
  exact ⟨_, rfl, List.getElem_mem hk, HC1.out, HG1.out⟩

/-- A number that fits. -/
def CurSome (w : World) (B K : Nat) (e : Ending) (w' : World) : Prop :=
  ∃ r : Int, e = .returned (.int .i64 r) ∧ inI r ∧ Cur w' B K ∧ w.grownBy w' (some B)
theorem FisO.grown {lo hi B : Nat} {w w' : World} {v : Value} {xs : List Fi} (h : FisO lo hi w v xs) (hg : w.grownBy w' (some B)) (hB : B < lo) : FisO lo hi w' v xs := by
  refine ⟨⟨h.1.1.kept hg ?_, h.1.2⟩, h.2⟩
  rcases hv : v.ownBlock with _ | k
  · exact .inl rfl
  · refine .inr fun e => ?_
    have := h.1.ge k hv
    cases e
    omega

end Go.Proofs.YtpbjddiopfkgbaaDoor
