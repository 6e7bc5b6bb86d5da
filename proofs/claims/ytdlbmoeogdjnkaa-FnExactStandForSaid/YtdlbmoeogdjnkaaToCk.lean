/- The laws' own copies of Clerk: what they answer, and where it lies. -/
import Derived.Test.YtdlbmoeogdjnkaaTyCk
import Derived.Test.YtdlbmoeogdjnkaaCells
import Derived.Test.YtdlbmoeogdjnkaaProg
import Derived.WalkSmall
namespace Go.Proofs.Ytdlbmoeogdjnkaa
set_option linter.unusedVariables false
open Go.RowKit

theorem toCk_any (e : Ck) (w : World) :
    Calls Try.prog 15 #[.agg #[.int .i64 e.id, .string e.name, .int .i64 e.rights, .int .i64 e.frm, .int .i64 e.til, .int .i64 e.stands]] w fun en w' => en = .returned (.agg #[.int .i64 e.id, .string e.name, .int .i64 e.rights, .int .i64 e.frm, .int .i64 e.til, .int .i64 e.stands]) ∧ Below w.heap.size w w' := by
  obtain ⟨a0, a1, a2, a3, a4, a5⟩ := e
  go_enter Try.func15, Try.ntmps15
  go_wp2
  refine bodyPost_ret (v := .agg #[.int .i64 a0, .string a1, .int .i64 a2, .int .i64 a3, .int .i64 a4, .int .i64 a5]) (by simp [results, Try.results15, go_sem]) rfl ⟨rfl, ?_⟩
  exact below_al (below_al (below_al (Below.refl _ _) _) _) _

theorem Try.info_ck : (Try.prog.info? 26).map (fun i => (i.zero, i.size, i.bytes)) = some (some (.agg #[.int .i64 0, .string ⟨#[]⟩, .int .i64 0, .int .i64 0, .int .i64 0, .int .i64 0]), 6, 56) := by kernel_rfl

/-- A list in memory of the call's own. -/
def CksO (lo hi : Nat) (w : World) (v : Value) (xs : List Ck) : Prop := Own lo 26 6 w v (xs.map ckC) ∧ (∀ e ∈ xs, e.ok) ∧ Under hi v
section
variable {lo hi lo' hi' : Nat} {w w' : World} {v : Value} {xs : List Ck}
theorem CksO.row (h : CksO lo hi w v xs) : RowR 6 rCk w v xs :=
  h.1.row (by simp) fun i h1 h2 => ⟨by simp, h.2.1 _ (List.getElem_mem h2)⟩
theorem CksO.below (h : CksO lo hi w v xs) (hb : Below w.heap.size w w') : CksO lo hi w' v xs := ⟨h.1.below hb, h.2⟩
theorem CksO.only (h : CksO lo hi w v xs) (hb : Only lo' hi' w w') (hh : hi' ≤ lo) : CksO lo hi w' v xs := ⟨h.1.only hb hh, h.2⟩
theorem CksO.only2 (h : CksO lo hi w v xs) (hb : Only lo' hi' w w') (hh : hi ≤ lo') : CksO lo hi w' v xs := ⟨h.1.only2 hb (h.2.2.up hh), h.2⟩
theorem CksO.wide (h : CksO lo hi w v xs) (hl : lo' ≤ lo) (hh : hi ≤ hi') : CksO lo' hi' w v xs := ⟨h.1.lower hl, h.2.1, h.2.2.up hh⟩
theorem CksO.far (h : CksO lo hi w v xs) {a : Addr} (ha : a.block < lo) (u : Value) : CksO lo hi (w.setCell a u) v xs := ⟨h.1.far ha u, h.2⟩
theorem CksO.alloc (h : CksO lo hi w v xs) (o : Obj) : CksO lo hi (w.alloc o) v xs := ⟨h.1.alloc o, h.2⟩
theorem CksO.nil (lo hi : Nat) (w : World) : CksO lo hi w (.slice none 0 0) [] := ⟨Own.nil _ _ _ _, by simp, Under.nil _ _ _⟩
end

set_option maxHeartbeats 1000000 in
theorem toCkS_some (v : Value) (xs : List Ck) (w : World) (h1 : RowR 6 rCk w v xs) (hn : xs.length ≤ 1099511627776) :
    Calls Try.prog 19 #[v] w fun en w' => ∃ v', en = .returned v' ∧ CksO w.heap.size w'.heap.size w' v' xs ∧ Below w.heap.size w w' ∧ ∃ g c, v' = .slice (some ⟨g, 0, none⟩) xs.length c := by
  obtain ⟨i0, hi, hz0, hz1, hz2⟩ := info_parts Try.info_ck
  have hok := h1.cks_ok
  have HOK := Lib.hid hok
  clear hok
  obtain ⟨a1, c1, rfl, hl1, hm1, r1⟩ := h1
  have hlen : (xs.map ckC).length = xs.length := List.length_map _
  go_enter Try.func19, Try.ntmps19
  go_wp2_with (first | (at_make; refine wpList_make_full _ rfl _ _ 32 rfl w.heap.size 26 i0 _ 6 Try.underlying32 hi hz0 hz1 .i64 .i64 _ _ xs.length rfl rfl rfl rfl (by rw [hz2]; omega) (by unfold maxLen; omega) (Nat.le_refl _) ?_; intro w1 hown1 hgrow1; have HOWN := Lib.hid hown1; have HGROW := Lib.hid hgrow1; clear hown1 hgrow1))
  go_loopw [4] (fun i wr => ∃ k : Nat, k ≤ xs.length ∧ i = .int .i64 k ∧ Own w.heap.size 26 6 wr (.slice (some ⟨w.heap.size, 0, none⟩) xs.length xs.length) (partly (xs.map ckC) [.int .i64 0, .string ⟨#[]⟩, .int .i64 0, .int .i64 0, .int .i64 0, .int .i64 0] k) ∧ Below w.heap.size w wr) (fun i _ => xs.length - (intOf i).toNat)
  case atStart =>
    refine ⟨0, Nat.zero_le _, rfl, ?_, below_of_grow HGROW.out (Nat.le_refl _) (fun k h => by cases h)⟩
    rw [partly_zero, hlen]
    exact Own.made (z := #[.int .i64 0, .string ⟨#[]⟩, .int .i64 0, .int .i64 0, .int .i64 0, .int .i64 0]) rfl (by omega) HOWN.out
  case round =>
    obtain ⟨k, hk, rfl, hO, hb⟩ := hrel
    have HO := Lib.hid hO
    by_cases hlt : k < xs.length
    · obtain ⟨b1, o1, hb1, rfl, e1⟩ := r1.resolve_left (fun e => by rw [e] at hlt; simp at hlt)
      obtain ⟨⟨x0, x1, x2, x3, x4, x5⟩, hs⟩ : ∃ s, xs[k] = s := ⟨_, rfl⟩
      obtain ⟨cs, hcl, hcs, hre⟩ := e1 k hlt
      rw [hs] at hre
      obtain ⟨rfl, hok⟩ := hre
      have f0 := (hb.cell (p := ⟨b1, o1 + k * 6, none⟩) hb1).trans (hcs 0 (by simp only [ckC, List.length_cons, List.length_nil]; omega))
      have f1 := (hb.cell (p := ⟨b1, o1 + k * 6 + 1, none⟩) hb1).trans (hcs 1 (by simp only [ckC, List.length_cons, List.length_nil]; omega))
      have f2 := (hb.cell (p := ⟨b1, o1 + k * 6 + 2, none⟩) hb1).trans (hcs 2 (by simp only [ckC, List.length_cons, List.length_nil]; omega))
      have f3 := (hb.cell (p := ⟨b1, o1 + k * 6 + 3, none⟩) hb1).trans (hcs 3 (by simp only [ckC, List.length_cons, List.length_nil]; omega))
      have f4 := (hb.cell (p := ⟨b1, o1 + k * 6 + 4, none⟩) hb1).trans (hcs 4 (by simp only [ckC, List.length_cons, List.length_nil]; omega))
      have f5 := (hb.cell (p := ⟨b1, o1 + k * 6 + 5, none⟩) hb1).trans (hcs 5 (by simp only [ckC, List.length_cons, List.length_nil]; omega))
      simp [ckC] at f0 f1 f2 f3 f4 f5
      have HS := Lib.hid hs
      have g0 : (0 : Int) ≤ (k : Int) := by omega
      have g1 : (k : Int) < (xs.length : Int) := by omega
      have hpl := partly_len (xs.map ckC) [.int .i64 0, .string ⟨#[]⟩, .int .i64 0, .int .i64 0, .int .i64 0, .int .i64 0] k (by omega)
      have HPL := Lib.hid hpl
      clear hs e1 r1 hO HOWN HGROW hcs hpl
      go_wp2_with (first | (go_at_call 15; refine (toCk_any ⟨x0, x1, x2, x3, x4, x5⟩ _).mono ?_; rintro e w' ⟨rfl, hb'⟩; have hO2 := HO.out.below hb'; have c0 := hO2.cell k 0 (by rw [HPL.out]; omega) (by omega); have c1 := hO2.cell k 1 (by rw [HPL.out]; omega) (by omega); have c2 := hO2.cell k 2 (by rw [HPL.out]; omega) (by omega); have c3 := hO2.cell k 3 (by rw [HPL.out]; omega) (by omega); have c4 := hO2.cell k 4 (by rw [HPL.out]; omega) (by omega); have c5 := hO2.cell k 5 (by rw [HPL.out]; omega) (by omega); have fr0 := hO2.frozen (k * 6); have fr1 := hO2.frozen (k * 6 + 1); have fr2 := hO2.frozen (k * 6 + 2); have fr3 := hO2.frozen (k * 6 + 3); have fr4 := hO2.frozen (k * 6 + 4); have fr5 := hO2.frozen (k * 6 + 5); rw [partly_at _ _ _ (by omega)] at c0 c1 c2 c3 c4 c5; simp at c0 c1 c2 c3 c4 c5; have HO2 := Lib.hid hO2; clear hO2))
      go_roundw
      case rel =>
        obtain ⟨p1, p2⟩ := HO2.out.put k (by rw [HPL.out]; omega) (ckC ⟨x0, x1, x2, x3, x4, x5⟩) rfl
        have hset := partly_set (xs.map ckC) [.int .i64 0, .string ⟨#[]⟩, .int .i64 0, .int .i64 0, .int .i64 0, .int .i64 0] k (by omega)
        rw [List.getElem_map, HS.out] at hset
        rw [hset] at p1
        refine ⟨k + 1, by omega, by go_num, p1, ?_⟩
        exact (hb.trans (hb'.mono hb.size)).grown p2 (Nat.le_trans hb.size hb'.size) (fun _ h => by cases h; exact Nat.le_refl _)
      case measure => simp [intOf]; omega
    · clear hO
      go_wp2
      go_ret
      obtain rfl : k = xs.length := by omega
      have := HO.out
      rw [← hlen, partly_all] at this
      have h1 : Own w.heap.size 26 6 wr (.slice (some ⟨w.heap.size, 0, none⟩) xs.length xs.length) (xs.map ckC) := by simpa using this
      exact ⟨_, rfl, ⟨h1, HOK.out, h1.under⟩, hb, _, _, rfl⟩
theorem toCkS_any (v : Value) (xs : List Ck) (w : World) (h1 : RowR 6 rCk w v xs) (hn : xs.length ≤ 1099511627776) :
    Calls Try.prog 19 #[v] w fun en w' => ∃ v', en = .returned v' ∧ CksO w.heap.size w'.heap.size w' v' xs ∧ Below w.heap.size w w' :=
  (toCkS_some v xs w h1 hn).mono fun en w' ⟨v', a, b, c, _⟩ => ⟨v', a, b, c⟩
end Go.Proofs.Ytdlbmoeogdjnkaa
