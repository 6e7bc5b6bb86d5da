/- PathTo, the model's and the program's. -/
import Derived.Test.YtpbjddiopfkgbaaLineI
import Derived.Test.YtpbjddiopfkgbaaUnder
import Derived.Test.YtpbjddiopfkgbaaDeep
namespace Go.Proofs.Ytpbjddiopfkgbaa
set_option linter.unusedVariables false
open Go.RowKit Go.Sort

/-- What PathTo answers. -/
def pathRes (t : List Fn) (x : Int) : List Int × Bool := if isTree t = true ∧ hasF t x = true then (pathF t x, true) else ([], false)
theorem pathRes_line (t : List Fn) (x : Int) : pathRes t x = ((lineRes t x).1.map (·.id), (lineRes t x).2) := by
  unfold pathRes lineRes
  split
  · rfl
  · rfl
theorem lineRes_len (t : List Fn) (x : Int) : (lineRes t x).1.length ≤ 99 := by
  unfold lineRes
  split
  · rename_i h
    have := path_le h.1 (.inr h.2)
    unfold pathF at this
    rw [List.length_map] at this
    exact this
  · simp
theorem pathRes_len {t : List Fn} {x : Int} {xs : List Int} {b : Bool} (h : pathRes t x = (xs, b)) : xs.length ≤ 99 := by
  have h1 := lineRes_len t x
  rw [pathRes_line] at h
  obtain ⟨rfl, _⟩ := Prod.mk.inj h
  rw [List.length_map]
  exact h1


set_option maxRecDepth 20000 in
set_option maxHeartbeats 2000000 in
theorem implPathTo_any (v : Value) (t : List Fn) (x : Int) (w : World) (h : RowR 3 rFn w v t) (xs : List Int) (b : Bool) (hres : pathRes t x = (xs, b)) :
    Calls Try.prog 16 #[v, .int .i64 x] w fun e w' => ∃ v', e = .returned (.tuple #[v', .bool b]) ∧ IntsO w.heap.size w'.heap.size w' v' xs ∧ Below w.heap.size w w' := by
  obtain ⟨i0, hi, hz0, hz1, hz2⟩ := info_parts Try.info_int
  have H := Lib.hid h
  clear h
  have hl99 := lineRes_len t x
  rw [pathRes_line] at hres
  obtain ⟨L, bl, hL⟩ : ∃ L bl, lineRes t x = (L, bl) := ⟨_, _, rfl⟩
  rw [hL] at hres hl99
  obtain ⟨rfl, rfl⟩ := Prod.mk.inj hres
  have HL := Lib.hid hL
  simp only at hl99
  clear hres hL
  go_enter Try.func16, Try.ntmps16
  go_wp2_with fail
  refine (implLineTo_any _ t x _ H.out L bl HL.out).mono ?_
  rintro e w1 ⟨v1, rfl, ho, b1⟩
  obtain ⟨a1, c1, hv, hl1, hm1, r1⟩ := ho.row.fns
  subst hv
  have R1 := Lib.hid r1
  have hs1 := b1.size
  unfold maxLen at hm1
  clear r1 ho
  go_wp2_with fail
  go_loopw [8, 19] (fun o i wr => ∃ k : Nat, k ≤ L.length ∧ i = .int .i64 k ∧ wr.ownsRow w1.heap.size 3 1 o k (((L.take k).map (·.id)).map vI) ∧ Below w1.heap.size w1 wr) (fun _ i _ => L.length - (intOf i).toNat)
  case atStart => exact ⟨0, Nat.zero_le _, rfl, by simpa using World.ownsRow_nil _ _ _ _, Below.refl _ _⟩
  case round =>
    obtain ⟨k, hk, rfl, hO, hbw⟩ := hrel
    by_cases hlt : k < L.length
    · obtain ⟨bx, ox, hbx, rfl, e1⟩ := R1.out.resolve_left (fun e => by rw [e] at hlt; simp at hlt)
      obtain ⟨q0, q1, q2, _⟩ := e1 k hlt
      obtain ⟨⟨fi, fp, fs⟩, hx⟩ : ∃ s, L.getD k fnD = s := ⟨_, rfl⟩
      rw [hx] at q0 q1 q2
      simp only at q0 q1 q2
      have hsu : ((L.take (k + 1)).map (·.id)).map vI = ((L.take k).map (·.id)).map vI ++ [.int .i64 fi] := by
        rw [List.take_add_one, List.getElem?_eq_getElem hlt, ← getF_lt hlt, hx]
        simp [vI]
      have f0 := cell_kept q0 hbw
      have f1 := cell_kept q1 hbw
      have f2 := cell_kept q2 hbw
      have HSU := Lib.hid hsu
      have g0 : (0 : Int) ≤ (k : Int) := by omega
      have g1 : (k : Int) < (L.length : Int) := by omega
      have hsz := hbw.size
      clear q0 q1 q2 e1 hx hsu
      go_wp2_with (first | (at_builtin; refine wpList_append_own _ rfl _ _ 31 rfl w1.heap.size 3 i0 (.int .i64 0) 1 8 Try.underlying31 hi hz0 hz1 hz2 rfl (by decide) _ _ _ rfl ((hO.alloc _).alloc _) ⟨wr.heap.size + 1, 0, none⟩ 1 1 [.int .i64 fi] rfl rfl (cell_one_new' _ _ _ (by simp)) (by simp [Value.oneCell']) (by unfold maxLen; omega) (by omega) (by simp; omega) ?_; intro v' w6 hown' hgrow _))
      have HOWN := Lib.hid hown'
      have HB := Lib.hid (below_app (below_al hbw _) (Nat.le_refl _) (hO.alloc _) hgrow)
      clear hown' hgrow hO
      go_wp2_with fail
      go_roundw
      case rel => exact ⟨k + 1, by omega, by go_num, by rw [HSU.out]; exact HOWN.out, HB.out⟩
      case measure => simp [intOf]; omega
    · have hkt : k = L.length := by omega
      rw [hkt, List.take_length] at hO
      have HO := Lib.hid hO
      have HK := Lib.hid hkt
      clear hO hkt
      go_wp2_with fail
      go_ret2
      exact ⟨_, rfl, ⟨by rw [List.length_map]; exact ownsRow_base_a' HO.out hs1, fun g hg => (HO.out.lt g hg).2⟩, below_chain b1 hbw⟩
end Go.Proofs.Ytpbjddiopfkgbaa
