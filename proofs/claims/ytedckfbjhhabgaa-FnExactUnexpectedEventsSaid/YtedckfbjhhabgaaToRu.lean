/- The laws' own copies of Rule: what they answer, and where it lies. -/
import Derived.Test.YtedckfbjhhabgaaTyRu
import Derived.Test.YtedckfbjhhabgaaCells
import Derived.Test.YtedckfbjhhabgaaProg
import Derived.WalkSmall
namespace Go.Proofs.Ytedckfbjhhabgaa
set_option linter.unusedVariables false
open Go.RowKit

theorem toRu_any (e : Ru) (w : World) :
    Calls Try.prog 57 #[.agg #[.int .i64 e.series, .int .i64 e.event, .int .i64 e.days, .int .i64 e.act]] w fun en w' => en = .returned (.agg #[.int .i64 e.series, .int .i64 e.event, .int .i64 e.days, .int .i64 e.act]) ∧ Below w.heap.size w w' := by
  obtain ⟨a0, a1, a2, a3⟩ := e
  go_enter Try.func57, Try.ntmps57
  go_wp2
  refine bodyPost_ret (v := .agg #[.int .i64 a0, .int .i64 a1, .int .i64 a2, .int .i64 a3]) (by simp [results, Try.results57, go_sem]) rfl ⟨rfl, ?_⟩
  exact below_al (below_al (below_al (Below.refl _ _) _) _) _

theorem Try.info_ru : (Try.prog.info? 73).map (fun i => (i.zero, i.size, i.bytes)) = some (some (.agg #[.int .i64 0, .int .i64 0, .int .i64 0, .int .i64 0]), 4, 32) := by kernel_rfl

/-- A list in memory of the call's own. -/
def RusO (lo hi : Nat) (w : World) (v : Value) (xs : List Ru) : Prop := Own lo 73 4 w v (xs.map ruC) ∧ (∀ e ∈ xs, e.ok) ∧ Under hi v
section
variable {lo hi lo' hi' : Nat} {w w' : World} {v : Value} {xs : List Ru}
theorem RusO.row (h : RusO lo hi w v xs) : RowR 4 rRu w v xs :=
  h.1.row (by simp) fun i h1 h2 => ⟨by simp, h.2.1 _ (List.getElem_mem h2)⟩
theorem RusO.below (h : RusO lo hi w v xs) (hb : Below w.heap.size w w') : RusO lo hi w' v xs := ⟨h.1.below hb, h.2⟩
theorem RusO.only (h : RusO lo hi w v xs) (hb : Only lo' hi' w w') (hh : hi' ≤ lo) : RusO lo hi w' v xs := ⟨h.1.only hb hh, h.2⟩
theorem RusO.only2 (h : RusO lo hi w v xs) (hb : Only lo' hi' w w') (hh : hi ≤ lo') : RusO lo hi w' v xs := ⟨h.1.only2 hb (h.2.2.up hh), h.2⟩
theorem RusO.wide (h : RusO lo hi w v xs) (hl : lo' ≤ lo) (hh : hi ≤ hi') : RusO lo' hi' w v xs := ⟨h.1.lower hl, h.2.1, h.2.2.up hh⟩
theorem RusO.far (h : RusO lo hi w v xs) {a : Addr} (ha : a.block < lo) (u : Value) : RusO lo hi (w.setCell a u) v xs := ⟨h.1.far ha u, h.2⟩
theorem RusO.alloc (h : RusO lo hi w v xs) (o : Obj) : RusO lo hi (w.alloc o) v xs := ⟨h.1.alloc o, h.2⟩
theorem RusO.nil (lo hi : Nat) (w : World) : RusO lo hi w (.slice none 0 0) [] := ⟨Own.nil _ _ _ _, by simp, Under.nil _ _ _⟩
end

set_option maxHeartbeats 1000000 in
theorem toRuS_some (v : Value) (xs : List Ru) (w : World) (h1 : RowR 4 rRu w v xs) (hn : xs.length ≤ 1099511627776) :
    Calls Try.prog 20 #[v] w fun en w' => ∃ v', en = .returned v' ∧ RusO w.heap.size w'.heap.size w' v' xs ∧ Below w.heap.size w w' ∧ ∃ g c, v' = .slice (some ⟨g, 0, none⟩) xs.length c := by
  obtain ⟨i0, hi, hz0, hz1, hz2⟩ := info_parts Try.info_ru
  have hok := h1.rus_ok
  have HOK := Lib.hid hok
  clear hok
  obtain ⟨a1, c1, rfl, hl1, hm1, r1⟩ := h1
  have hlen : (xs.map ruC).length = xs.length := List.length_map _
  go_enter Try.func20, Try.ntmps20
  go_wp2_with (first | (at_make; refine wpList_make_full _ rfl _ _ 34 rfl w.heap.size 73 i0 _ 4 Try.underlying34 hi hz0 hz1 .i64 .i64 _ _ xs.length rfl rfl rfl rfl (by rw [hz2]; omega) (by unfold maxLen; omega) (Nat.le_refl _) ?_; intro w1 hown1 hgrow1; have HOWN := Lib.hid hown1; have HGROW := Lib.hid hgrow1; clear hown1 hgrow1))
  go_loopw [4] (fun i wr => ∃ k : Nat, k ≤ xs.length ∧ i = .int .i64 k ∧ Own w.heap.size 73 4 wr (.slice (some ⟨w.heap.size, 0, none⟩) xs.length xs.length) (partly (xs.map ruC) [.int .i64 0, .int .i64 0, .int .i64 0, .int .i64 0] k) ∧ Below w.heap.size w wr) (fun i _ => xs.length - (intOf i).toNat)
  case atStart =>
    refine ⟨0, Nat.zero_le _, rfl, ?_, below_of_grow HGROW.out (Nat.le_refl _) (fun k h => by cases h)⟩
    rw [partly_zero, hlen]
    exact Own.made (z := #[.int .i64 0, .int .i64 0, .int .i64 0, .int .i64 0]) rfl (by omega) HOWN.out
  case round =>
    obtain ⟨k, hk, rfl, hO, hb⟩ := hrel
    have HO := Lib.hid hO
    by_cases hlt : k < xs.length
    · obtain ⟨b1, o1, hb1, rfl, e1⟩ := r1.resolve_left (fun e => by rw [e] at hlt; simp at hlt)
      obtain ⟨⟨x0, x1, x2, x3⟩, hs⟩ : ∃ s, xs[k] = s := ⟨_, rfl⟩
      obtain ⟨cs, hcl, hcs, hre⟩ := e1 k hlt
      rw [hs] at hre
      obtain ⟨rfl, hok⟩ := hre
      have f0 := (hb.cell (p := ⟨b1, o1 + k * 4, none⟩) hb1).trans (hcs 0 (by simp only [ruC, List.length_cons, List.length_nil]; omega))
      have f1 := (hb.cell (p := ⟨b1, o1 + k * 4 + 1, none⟩) hb1).trans (hcs 1 (by simp only [ruC, List.length_cons, List.length_nil]; omega))
      have f2 := (hb.cell (p := ⟨b1, o1 + k * 4 + 2, none⟩) hb1).trans (hcs 2 (by simp only [ruC, List.length_cons, List.length_nil]; omega))
      have f3 := (hb.cell (p := ⟨b1, o1 + k * 4 + 3, none⟩) hb1).trans (hcs 3 (by simp only [ruC, List.length_cons, List.length_nil]; omega))
      simp [ruC] at f0 f1 f2 f3
      have HS := Lib.hid hs
      have g0 : (0 : Int) ≤ (k : Int) := by omega
      have g1 : (k : Int) < (xs.length : Int) := by omega
      have hpl := partly_len (xs.map ruC) [.int .i64 0, .int .i64 0, .int .i64 0, .int .i64 0] k (by omega)
      have HPL := Lib.hid hpl
      clear hs e1 r1 hO HOWN HGROW hcs hpl
      go_wp2_with (first | (go_at_call 57; refine (toRu_any ⟨x0, x1, x2, x3⟩ _).mono ?_; rintro e w' ⟨rfl, hb'⟩; have hO2 := HO.out.below hb'; have c0 := hO2.cell k 0 (by rw [HPL.out]; omega) (by omega); have c1 := hO2.cell k 1 (by rw [HPL.out]; omega) (by omega); have c2 := hO2.cell k 2 (by rw [HPL.out]; omega) (by omega); have c3 := hO2.cell k 3 (by rw [HPL.out]; omega) (by omega); have fr0 := hO2.frozen (k * 4); have fr1 := hO2.frozen (k * 4 + 1); have fr2 := hO2.frozen (k * 4 + 2); have fr3 := hO2.frozen (k * 4 + 3); rw [partly_at _ _ _ (by omega)] at c0 c1 c2 c3; simp at c0 c1 c2 c3; have HO2 := Lib.hid hO2; clear hO2))
      go_roundw
      case rel =>
        obtain ⟨p1, p2⟩ := HO2.out.put k (by rw [HPL.out]; omega) (ruC ⟨x0, x1, x2, x3⟩) rfl
        have hset := partly_set (xs.map ruC) [.int .i64 0, .int .i64 0, .int .i64 0, .int .i64 0] k (by omega)
        rw [List.getElem_map, HS.out] at hset
        rw [hset] at p1
        refine ⟨k + 1, by omega, by go_num, p1, ?_⟩
        exact (hb.trans (hb'.mono hb.size)).grown p2 (Nat.le_trans hb.size hb'.size) (fun _ h => by cases h; exact Nat.le_refl _)
      case measure => simp [intOf]; omega
    · clear hO
      go_wp2
      go_ret
      obtain rfl : k = xs.length := by omega
      have := HO.out
      rw [← hlen, partly_all] at this
      have h1 : Own w.heap.size 73 4 wr (.slice (some ⟨w.heap.size, 0, none⟩) xs.length xs.length) (xs.map ruC) := by simpa using this
      exact ⟨_, rfl, ⟨h1, HOK.out, h1.under⟩, hb, _, _, rfl⟩
theorem toRuS_any (v : Value) (xs : List Ru) (w : World) (h1 : RowR 4 rRu w v xs) (hn : xs.length ≤ 1099511627776) :
    Calls Try.prog 20 #[v] w fun en w' => ∃ v', en = .returned v' ∧ RusO w.heap.size w'.heap.size w' v' xs ∧ Below w.heap.size w w' :=
  (toRuS_some v xs w h1 hn).mono fun en w' ⟨v', a, b, c, _⟩ => ⟨v', a, b, c⟩
end Go.Proofs.Ytedckfbjhhabgaa
