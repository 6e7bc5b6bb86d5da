/- Slices of integers inside a struct: how they are read, copied, and what they take. -/
import Derived.Test.YtedckfbjhhabgaaOpen
import Derived.Test.YtedckfbjhhabgaaInts
import Derived.Test.YtedckfbjhhabgaaCells
namespace Go.Proofs.Ytedckfbjhhabgaa
set_option linter.unusedVariables false
open Go.RowKit Go.ChangeShapes Go.WideShapes Go.Deep

theorem RowR.ints {w : World} {v : Value} {xs : List Int} (h : RowR 1 rInt w v xs) : RowOf vI w v xs := by
  obtain ⟨a, cap, rfl, h1, h2, h3⟩ := h
  refine ⟨a, cap, rfl, h1, h2, h3.imp id ?_⟩
  rintro ⟨b, off, hlt, rfl, hc⟩
  refine ⟨b, off, hlt, rfl, fun i hi => ?_⟩
  obtain ⟨cs, hl, hcs, rfl, _⟩ := hc i hi
  have := hcs 0 (by simp)
  simpa [vI] using this
def rIntsR : Rd (List Int) := fun w cs xs => ∃ v, cs = [v] ∧ RowOf vI w v xs
theorem opens_ints {P : Program} {t e : TypeId} (ht : P.underlying t = some (.slice e)) (he : P.underlying e = some (.int .i64)) (hc : P.cellsOf e = 1) : Opens P t rIntsR := fun enc w base spare held fuel cs x h => by
  obtain ⟨xs, v, e, hr⟩ := opens_row ht hc (by decide) (opens_int he) enc w base spare held fuel cs x h
  exact ⟨xs, v, e, hr.ints⟩

section
variable {lo hi lo' hi' : Nat} {w w' : World} {v : Value} {xs : List Int}
theorem IntsO.far (h : IntsO lo hi w v xs) {a : Addr} (ha : a.block < lo) (u : Value) : IntsO lo hi (w.setCell a u) v xs := ⟨ownsRow_setCell_below h.1 ha u, h.2⟩
theorem IntsO.alloc (h : IntsO lo hi w v xs) (o : Obj) : IntsO lo hi (w.alloc o) v xs := ⟨h.1.alloc o, h.2⟩
theorem IntsO.slice (h : IntsO lo hi w v xs) : ∃ a n c, v = .slice a n c := by
  obtain ⟨a, c, e, _⟩ := h.row
  exact ⟨a, _, c, e⟩
end

theorem ints_nilN (lo hi : Nat) (w : World) : IntsO lo hi w (.slice none 0 0) [] := ⟨World.ownsRow_nil _ _ _ _, Under.nil _ _ _⟩
theorem ints_rowN {lo n : Nat} {w : World} {v : Value} {xs : List Int} (h : w.ownsRow lo 3 1 v n (xs.map vI)) (hn : n = xs.length) : IntsO lo w.heap.size w v xs := ⟨by rw [← hn]; exact h, fun g hg => (h.lt g hg).2⟩
theorem ints_newN (w : World) : IntsO w.heap.size (w.alloc (.cells #[] 3 (0, 0))).heap.size (w.alloc (.cells #[] 3 (0, 0))) (.slice (some ⟨w.heap.size, 0, none⟩) 0 0) [] := ints_rowN (World.ownsRow_made w #[] 0 (Nat.le_refl _) (Nat.zero_le _) rfl) rfl
theorem cell_oneN (w : World) (v : Value) (t : TypeId) {k : Nat} (hk : k = w.heap.size) : ∀ j u, [v][j]? = some u → (w.alloc (.cells #[v] t (0, 0))).cell? ((⟨k, 0, none⟩ : Addr).add j) = some u := by subst hk; exact cell_one_new w v t


theorem Try.info_intN : (Try.prog.info? 3).map (fun i => (i.zero, i.size, i.bytes)) = some (some (.int .i64 0), 1, 8) := by kernel_rfl
theorem madeZ (n : Nat) : (madeCells #[Value.int .i64 0] (n * 1)).toList = List.replicate n (Value.int .i64 0) := by
  rw [Nat.mul_one]
  apply List.ext_getElem
  · simp [size_madeCells]
  · intro i h1 h2
    simp [madeCells, Nat.mod_one]
/-- The first k numbers done, the others nought. -/
def partZ (xs : List Int) (k : Nat) : List Value := (xs.take k).map vI ++ List.replicate (xs.length - k) (.int .i64 0)
theorem partZ_set (xs : List Int) (k : Nat) (h : k < xs.length) : (partZ xs k).set k (vI xs[k]) = partZ xs (k + 1) := by
  unfold partZ
  have hl : ((xs.take k).map vI).length = k := by rw [List.length_map, List.length_take]; omega
  obtain ⟨n, hn⟩ : ∃ n, xs.length - k = n + 1 := ⟨xs.length - k - 1, by omega⟩
  rw [hn, show xs.length - (k + 1) = n by omega, List.set_append_right _ _ (by omega), hl, Nat.sub_self, List.replicate_succ, List.set_cons_zero]
  rw [List.take_succ_eq_append_getElem h, List.map_append, List.append_assoc]
  rfl
theorem partZ_at (xs : List Int) (k : Nat) (h : k < xs.length) : (partZ xs k)[k]? = some (.int .i64 0) := by
  unfold partZ
  have hl : ((xs.take k).map vI).length = k := by rw [List.length_map, List.length_take]; omega
  rw [List.getElem?_append_right (by omega), hl, Nat.sub_self, List.getElem?_replicate, if_pos (by omega)]

set_option maxHeartbeats 1000000 in
theorem toIntS_any (v : Value) (xs : List Int) (w : World) (h1 : RowOf vI w v xs) (hn : xs.length ≤ 1099511627776) :
    Calls Try.prog 21 #[v] w fun en w' => ∃ v', en = .returned v' ∧ IntsO w.heap.size w'.heap.size w' v' xs ∧ Below w.heap.size w w' := by
  obtain ⟨i0, hi, hz0, hz1, hz2⟩ := info_parts Try.info_intN
  obtain ⟨a1, c1, rfl, hl1, hm1, r1⟩ := h1
  unfold maxLen at hm1
  go_enter Try.func21, Try.ntmps21
  go_wp2_with (first | (at_make; refine wpList_make_full _ rfl _ _ 30 rfl w.heap.size 3 i0 _ 1 Try.underlying30 hi hz0 hz1 .i64 .i64 _ _ xs.length rfl rfl rfl rfl (by rw [hz2]; omega) (by unfold maxLen; omega) (Nat.le_refl _) ?_; intro w1 hown1 hgrow1; have HOWN := Lib.hid hown1; have HGROW := Lib.hid hgrow1; clear hown1 hgrow1))
  go_loopw [4] (fun i wr => ∃ k : Nat, k ≤ xs.length ∧ i = .int .i64 k ∧ wr.ownsRow w.heap.size 3 1 (.slice (some ⟨w.heap.size, 0, none⟩) xs.length xs.length) xs.length (partZ xs k) ∧ Below w.heap.size w wr) (fun i _ => xs.length - (intOf i).toNat)
  case atStart =>
    refine ⟨0, Nat.zero_le _, rfl, ?_, below_of_grow HGROW.out (Nat.le_refl _) (fun k h => by cases h)⟩
    have h := HOWN.out
    have e : partZ xs 0 = (madeCells #[Value.int .i64 0] (xs.length * 1)).toList := by rw [madeZ]; simp [partZ]
    rw [e]
    exact h
  case round =>
    obtain ⟨k, hk, rfl, hO, hb⟩ := hrel
    have HO := Lib.hid hO
    by_cases hlt : k < xs.length
    · obtain ⟨b1, o1, hb1, rfl, e1⟩ := r1.resolve_left (fun e => by rw [e] at hlt; simp at hlt)
      obtain ⟨x, hs⟩ : ∃ s, xs[k] = s := ⟨_, rfl⟩
      have f1 := (hb.cell (p := ⟨b1, o1 + k, none⟩) hb1).trans (e1 k hlt)
      rw [hs] at f1
      simp only [vI] at f1
      have c1 := hO.cellAt k (by omega)
      have fr1 := hO.frozenAt k
      rw [partZ_at _ _ hlt] at c1
      have HS := Lib.hid hs
      have g0 : (0 : Int) ≤ (k : Int) := by omega
      have g1 : (k : Int) < (xs.length : Int) := by omega
      clear hs e1 r1 hO HOWN HGROW
      go_wp2_with fail
      go_roundw
      case rel =>
        have hst := HO.out.stored k (vI x)
        have hset := partZ_set xs k hlt
        rw [HS.out] at hset
        rw [hset] at hst
        refine ⟨k + 1, by omega, by go_num, by simpa [vI] using hst.1, ?_⟩
        exact hb.grown (by simpa [vI] using hst.2) hb.size (fun _ h => by cases h; exact Nat.le_refl _)
      case measure => simp [intOf]; omega
    · clear hO
      go_wp2_with fail
      go_ret
      obtain rfl : k = xs.length := by omega
      have h1 := HO.out
      have h2 : partZ xs xs.length = xs.map vI := by simp [partZ]
      rw [h2] at h1
      exact ⟨_, rfl, ⟨h1, fun g hg => (h1.lt g hg).2⟩, hb⟩
end Go.Proofs.Ytedckfbjhhabgaa
