/- The laws' own copies of Trigger: what they answer, and where it lies. -/
import Derived.Test.YtedckfbjhhabgaaTyTg
import Derived.Test.YtedckfbjhhabgaaCells
import Derived.Test.YtedckfbjhhabgaaProg
import Derived.WalkSmall
namespace Go.Proofs.Ytedckfbjhhabgaa
set_option linter.unusedVariables false
open Go.RowKit

theorem toTg_any (e : Tg) (w : World) :
    Calls Try.prog 50 #[.agg #[.int .i64 e.ev, .int .i64 e.aft, .int .i64 e.days]] w fun en w' => en = .returned (.agg #[.int .i64 e.ev, .int .i64 e.aft, .int .i64 e.days]) ∧ Below w.heap.size w w' := by
  obtain ⟨a0, a1, a2⟩ := e
  go_enter Try.func50, Try.ntmps50
  go_wp2
  refine bodyPost_ret (v := .agg #[.int .i64 a0, .int .i64 a1, .int .i64 a2]) (by simp [results, Try.results50, go_sem]) rfl ⟨rfl, ?_⟩
  exact below_al (below_al (below_al (Below.refl _ _) _) _) _

theorem Try.info_tg : (Try.prog.info? 63).map (fun i => (i.zero, i.size, i.bytes)) = some (some (.agg #[.int .i64 0, .int .i64 0, .int .i64 0]), 3, 24) := by kernel_rfl

/-- A list in memory of the call's own. -/
def TgsO (lo hi : Nat) (w : World) (v : Value) (xs : List Tg) : Prop := Own lo 63 3 w v (xs.map tgC) ∧ (∀ e ∈ xs, e.ok) ∧ Under hi v
section
variable {lo hi lo' hi' : Nat} {w w' : World} {v : Value} {xs : List Tg}
theorem TgsO.row (h : TgsO lo hi w v xs) : RowR 3 rTg w v xs :=
  h.1.row (by simp) fun i h1 h2 => ⟨by simp, h.2.1 _ (List.getElem_mem h2)⟩
theorem TgsO.below (h : TgsO lo hi w v xs) (hb : Below w.heap.size w w') : TgsO lo hi w' v xs := ⟨h.1.below hb, h.2⟩
theorem TgsO.only (h : TgsO lo hi w v xs) (hb : Only lo' hi' w w') (hh : hi' ≤ lo) : TgsO lo hi w' v xs := ⟨h.1.only hb hh, h.2⟩
theorem TgsO.only2 (h : TgsO lo hi w v xs) (hb : Only lo' hi' w w') (hh : hi ≤ lo') : TgsO lo hi w' v xs := ⟨h.1.only2 hb (h.2.2.up hh), h.2⟩
theorem TgsO.wide (h : TgsO lo hi w v xs) (hl : lo' ≤ lo) (hh : hi ≤ hi') : TgsO lo' hi' w v xs := ⟨h.1.lower hl, h.2.1, h.2.2.up hh⟩
theorem TgsO.far (h : TgsO lo hi w v xs) {a : Addr} (ha : a.block < lo) (u : Value) : TgsO lo hi (w.setCell a u) v xs := ⟨h.1.far ha u, h.2⟩
theorem TgsO.alloc (h : TgsO lo hi w v xs) (o : Obj) : TgsO lo hi (w.alloc o) v xs := ⟨h.1.alloc o, h.2⟩
theorem TgsO.nil (lo hi : Nat) (w : World) : TgsO lo hi w (.slice none 0 0) [] := ⟨Own.nil _ _ _ _, by simp, Under.nil _ _ _⟩
end

set_option maxHeartbeats 1000000 in
theorem toTgS_some (v : Value) (xs : List Tg) (w : World) (h1 : RowR 3 rTg w v xs) (hn : xs.length ≤ 1099511627776) :
    Calls Try.prog 15 #[v] w fun en w' => ∃ v', en = .returned v' ∧ TgsO w.heap.size w'.heap.size w' v' xs ∧ Below w.heap.size w w' ∧ ∃ g c, v' = .slice (some ⟨g, 0, none⟩) xs.length c := by
  obtain ⟨i0, hi, hz0, hz1, hz2⟩ := info_parts Try.info_tg
  have hok := h1.tgs_ok
  have HOK := Lib.hid hok
  clear hok
  obtain ⟨a1, c1, rfl, hl1, hm1, r1⟩ := h1
  have hlen : (xs.map tgC).length = xs.length := List.length_map _
  go_enter Try.func15, Try.ntmps15
  go_wp2_with (first | (at_make; refine wpList_make_full _ rfl _ _ 25 rfl w.heap.size 63 i0 _ 3 Try.underlying25 hi hz0 hz1 .i64 .i64 _ _ xs.length rfl rfl rfl rfl (by rw [hz2]; omega) (by unfold maxLen; omega) (Nat.le_refl _) ?_; intro w1 hown1 hgrow1; have HOWN := Lib.hid hown1; have HGROW := Lib.hid hgrow1; clear hown1 hgrow1))
  go_loopw [4] (fun i wr => ∃ k : Nat, k ≤ xs.length ∧ i = .int .i64 k ∧ Own w.heap.size 63 3 wr (.slice (some ⟨w.heap.size, 0, none⟩) xs.length xs.length) (partly (xs.map tgC) [.int .i64 0, .int .i64 0, .int .i64 0] k) ∧ Below w.heap.size w wr) (fun i _ => xs.length - (intOf i).toNat)
  case atStart =>
    refine ⟨0, Nat.zero_le _, rfl, ?_, below_of_grow HGROW.out (Nat.le_refl _) (fun k h => by cases h)⟩
    rw [partly_zero, hlen]
    exact Own.made (z := #[.int .i64 0, .int .i64 0, .int .i64 0]) rfl (by omega) HOWN.out
  case round =>
    obtain ⟨k, hk, rfl, hO, hb⟩ := hrel
    have HO := Lib.hid hO
    by_cases hlt : k < xs.length
    · obtain ⟨b1, o1, hb1, rfl, e1⟩ := r1.resolve_left (fun e => by rw [e] at hlt; simp at hlt)
      obtain ⟨⟨x0, x1, x2⟩, hs⟩ : ∃ s, xs[k] = s := ⟨_, rfl⟩
      obtain ⟨cs, hcl, hcs, hre⟩ := e1 k hlt
      rw [hs] at hre
      obtain ⟨rfl, hok⟩ := hre
      have f0 := (hb.cell (p := ⟨b1, o1 + k * 3, none⟩) hb1).trans (hcs 0 (by simp only [tgC, List.length_cons, List.length_nil]; omega))
      have f1 := (hb.cell (p := ⟨b1, o1 + k * 3 + 1, none⟩) hb1).trans (hcs 1 (by simp only [tgC, List.length_cons, List.length_nil]; omega))
      have f2 := (hb.cell (p := ⟨b1, o1 + k * 3 + 2, none⟩) hb1).trans (hcs 2 (by simp only [tgC, List.length_cons, List.length_nil]; omega))
      simp [tgC] at f0 f1 f2
      have HS := Lib.hid hs
      have g0 : (0 : Int) ≤ (k : Int) := by omega
      have g1 : (k : Int) < (xs.length : Int) := by omega
      have hpl := partly_len (xs.map tgC) [.int .i64 0, .int .i64 0, .int .i64 0] k (by omega)
      have HPL := Lib.hid hpl
      clear hs e1 r1 hO HOWN HGROW hcs hpl
      go_wp2_with (first | (go_at_call 50; refine (toTg_any ⟨x0, x1, x2⟩ _).mono ?_; rintro e w' ⟨rfl, hb'⟩; have hO2 := HO.out.below hb'; have c0 := hO2.cell k 0 (by rw [HPL.out]; omega) (by omega); have c1 := hO2.cell k 1 (by rw [HPL.out]; omega) (by omega); have c2 := hO2.cell k 2 (by rw [HPL.out]; omega) (by omega); have fr0 := hO2.frozen (k * 3); have fr1 := hO2.frozen (k * 3 + 1); have fr2 := hO2.frozen (k * 3 + 2); rw [partly_at _ _ _ (by omega)] at c0 c1 c2; simp at c0 c1 c2; have HO2 := Lib.hid hO2; clear hO2))
      go_roundw
      case rel =>
        obtain ⟨p1, p2⟩ := HO2.out.put k (by rw [HPL.out]; omega) (tgC ⟨x0, x1, x2⟩) rfl
        have hset := partly_set (xs.map tgC) [.int .i64 0, .int .i64 0, .int .i64 0] k (by omega)
        rw [List.getElem_map, HS.out] at hset
        rw [hset] at p1
        refine ⟨k + 1, by omega, by go_num, p1, ?_⟩
        exact (hb.trans (hb'.mono hb.size)).grown p2 (Nat.le_trans hb.size hb'.size) (fun _ h => by cases h; exact Nat.le_refl _)
      case measure => simp [intOf]; omega
    · clear hO
      go_wp2
      go_ret
      obtain rfl : k = xs.length := by omega
      have := HO.out
      rw [← hlen, partly_all] at this
      have h1 : Own w.heap.size 63 3 wr (.slice (some ⟨w.heap.size, 0, none⟩) xs.length xs.length) (xs.map tgC) := by simpa using this
      exact ⟨_, rfl, ⟨h1, HOK.out, h1.under⟩, hb, _, _, rfl⟩
theorem toTgS_any (v : Value) (xs : List Tg) (w : World) (h1 : RowR 3 rTg w v xs) (hn : xs.length ≤ 1099511627776) :
    Calls Try.prog 15 #[v] w fun en w' => ∃ v', en = .returned v' ∧ TgsO w.heap.size w'.heap.size w' v' xs ∧ Below w.heap.size w w' :=
  (toTgS_some v xs w h1 hn).mono fun en w' ⟨v', a, b, c, _⟩ => ⟨v', a, b, c⟩
end Go.Proofs.Ytedckfbjhhabgaa
