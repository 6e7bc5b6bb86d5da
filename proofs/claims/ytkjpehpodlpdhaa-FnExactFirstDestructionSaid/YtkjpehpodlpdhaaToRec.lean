/- The laws' own copies of an event, of events, of a record: what they answer, and where it lies. -/
import Derived.Test.YtkjpehpodlpdhaaTyRec
import Derived.Test.YtkjpehpodlpdhaaOwn
import Derived.Test.YtkjpehpodlpdhaaCells
import Derived.Test.YtkjpehpodlpdhaaProg
import Derived.WalkSmall
namespace Go.Proofs.Ytkjpehpodlpdhaa
set_option linter.unusedVariables false
open Go.RowKit

theorem toEvent_any (e : Ev) (w : World) :
    Calls Try.prog 145 #[.agg #[.int .i64 e.kind, .int .i64 e.day]] w fun en w' => en = .returned (.agg #[.int .i64 e.kind, .int .i64 e.day]) ∧ Below w.heap.size w w' := by
  obtain ⟨a, b⟩ := e
  go_enter Try.func145, Try.ntmps145
  go_wp2
  refine bodyPost_ret (v := .agg #[.int .i64 a, .int .i64 b]) (by simp [results, Try.results145, go_sem]) rfl ⟨rfl, ?_⟩
  exact below_al (below_al (below_al (Below.refl _ _) _) _) _

theorem Try.info_event : (Try.prog.info? 167).map (fun i => (i.zero, i.size, i.bytes)) = some (some (.agg #[.int .i64 0, .int .i64 0]), 2, 16) := by kernel_rfl

/-- Events in memory of the call's own. -/
def EvsO (lo hi : Nat) (w : World) (v : Value) (xs : List Ev) : Prop := Own lo 167 2 w v (xs.map evC) ∧ (∀ e ∈ xs, e.ok) ∧ Under hi v
theorem EvsO.row {lo hi : Nat} {w : World} {v : Value} {xs : List Ev} (h : EvsO lo hi w v xs) : RowR 2 rEv w v xs :=
  h.1.row (by simp) fun i h1 h2 => ⟨by simp, h.2.1 _ (List.getElem_mem h2)⟩
theorem RowR.evs_ok {w : World} {v : Value} {xs : List Ev} (h : RowR 2 rEv w v xs) : ∀ e ∈ xs, e.ok := by
  obtain ⟨a, cap, rfl, h1, h2, h3⟩ := h
  intro e he
  rcases h3 with rfl | ⟨b, off, _, _, hc⟩
  · cases he
  · obtain ⟨i, hi, rfl⟩ := List.getElem_of_mem he
    obtain ⟨cs, _, _, h⟩ := hc i hi
    exact h.2

set_option maxHeartbeats 1000000 in
theorem toEventS_some (v : Value) (xs : List Ev) (w : World) (h1 : RowR 2 rEv w v xs) (hn : xs.length ≤ 1099511627776) :
    Calls Try.prog 84 #[v] w fun en w' => ∃ v', en = .returned v' ∧ EvsO w.heap.size w'.heap.size w' v' xs ∧ Below w.heap.size w w' ∧ ∃ g c, v' = .slice (some ⟨g, 0, none⟩) xs.length c := by
  obtain ⟨i0, hi, hz0, hz1, hz2⟩ := info_parts Try.info_event
  have hok := h1.evs_ok
  have HOK := Lib.hid hok
  clear hok
  obtain ⟨a1, c1, rfl, hl1, hm1, r1⟩ := h1
  have hlen : (xs.map evC).length = xs.length := List.length_map _
  go_enter Try.func84, Try.ntmps84
  go_wp2_with (first | (at_make; refine wpList_make_full _ rfl _ _ 36 rfl w.heap.size 167 i0 _ 2 Try.underlying36 hi hz0 hz1 .i64 .i64 _ _ xs.length rfl rfl rfl rfl (by rw [hz2]; omega) (by unfold maxLen; omega) (Nat.le_refl _) ?_; intro w1 hown1 hgrow1; have HOWN := Lib.hid hown1; have HGROW := Lib.hid hgrow1; clear hown1 hgrow1))
  go_loopw [4] (fun i wr => ∃ k : Nat, k ≤ xs.length ∧ i = .int .i64 k ∧ Own w.heap.size 167 2 wr (.slice (some ⟨w.heap.size, 0, none⟩) xs.length xs.length) (partly (xs.map evC) [.int .i64 0, .int .i64 0] k) ∧ Below w.heap.size w wr) (fun i _ => xs.length - (intOf i).toNat)
  case atStart =>
    refine ⟨0, Nat.zero_le _, rfl, ?_, below_of_grow HGROW.out (Nat.le_refl _) (fun k h => by cases h)⟩
    rw [partly_zero, hlen]
    exact Own.made (z := #[.int .i64 0, .int .i64 0]) rfl (by omega) HOWN.out
  case round =>
    obtain ⟨k, hk, rfl, hO, hb⟩ := hrel
    have HO := Lib.hid hO
    by_cases hlt : k < xs.length
    · obtain ⟨b1, o1, hb1, rfl, e1⟩ := r1.resolve_left (fun e => by rw [e] at hlt; simp at hlt)
      obtain ⟨⟨x, y⟩, hs⟩ : ∃ s, xs[k] = s := ⟨_, rfl⟩
      obtain ⟨cs, hcl, hcs, hre⟩ := e1 k hlt
      rw [hs] at hre
      obtain ⟨rfl, hok⟩ := hre
      have f1 := (hb.cell (p := ⟨b1, o1 + k * 2, none⟩) hb1).trans (hcs 0 (by omega))
      have f2 := (hb.cell (p := ⟨b1, o1 + k * 2 + 1, none⟩) hb1).trans (hcs 1 (by omega))
      simp [evC] at f1 f2
      have HS := Lib.hid hs
      have g0 : (0 : Int) ≤ (k : Int) := by omega
      have g1 : (k : Int) < (xs.length : Int) := by omega
      have hpl := partly_len (xs.map evC) [.int .i64 0, .int .i64 0] k (by omega)
      have HPL := Lib.hid hpl
      clear hs e1 r1 hO HOWN HGROW hcs hpl
      go_wp2_with (first | (go_at_call 145; refine (toEvent_any ⟨x, y⟩ _).mono ?_; rintro e w' ⟨rfl, hb'⟩; have hO2 := HO.out.below hb'; have c1 := hO2.cell k 0 (by rw [HPL.out]; omega) (by omega); have c2 := hO2.cell k 1 (by rw [HPL.out]; omega) (by omega); have fr1 := hO2.frozen (k * 2); have fr2 := hO2.frozen (k * 2 + 1); rw [partly_at _ _ _ (by omega)] at c1 c2; simp at c1 c2; have HO2 := Lib.hid hO2; clear hO2))
      go_roundw
      case rel =>
        obtain ⟨p1, p2⟩ := HO2.out.put k (by rw [HPL.out]; omega) (evC ⟨x, y⟩) rfl
        have hset := partly_set (xs.map evC) [.int .i64 0, .int .i64 0] k (by omega)
        rw [List.getElem_map, HS.out] at hset
        rw [hset] at p1
        refine ⟨k + 1, by omega, by go_num, p1, ?_⟩
        exact (hb.trans (hb'.mono hb.size)).grown p2 (Nat.le_trans hb.size hb'.size) (fun _ h => by cases h; exact Nat.le_refl _)
      case measure => simp [intOf]; omega
    · clear hO
      go_wp2
      go_ret
      obtain rfl : k = xs.length := by omega
      have := HO.out
      rw [← hlen, partly_all] at this
      have h1 : Own w.heap.size 167 2 wr (.slice (some ⟨w.heap.size, 0, none⟩) xs.length xs.length) (xs.map evC) := by simpa using this
      exact ⟨_, rfl, ⟨h1, HOK.out, h1.under⟩, hb, _, _, rfl⟩
theorem toEventS_any (v : Value) (xs : List Ev) (w : World) (h1 : RowR 2 rEv w v xs) (hn : xs.length ≤ 1099511627776) :
    Calls Try.prog 84 #[v] w fun en w' => ∃ v', en = .returned v' ∧ EvsO w.heap.size w'.heap.size w' v' xs ∧ Below w.heap.size w w' :=
  (toEventS_some v xs w h1 hn).mono fun en w' ⟨v', a, b, c, _⟩ => ⟨v', a, b, c⟩

/-- A record in memory of the call's own. -/
def RecO (lo hi : Nat) (w : World) (v : Value) (r : Rec) : Prop := ∃ s, v = .agg #[.int .i64 r.id, .int .i64 r.series, .int .i64 r.made, s] ∧ EvsO lo hi w s r.evs ∧ r.ok
section
variable {lo hi lo' hi' : Nat} {w w' : World} {v : Value} {xs : List Ev} {r : Rec}
theorem RecO.toV (h : RecO lo hi w v r) : RecV w v r := by
  obtain ⟨s, e, h, k⟩ := h
  exact ⟨s, e, h.row, k⟩
theorem EvsO.below (h : EvsO lo hi w v xs) (hb : Below w.heap.size w w') : EvsO lo hi w' v xs := ⟨h.1.below hb, h.2⟩
theorem RecO.below (h : RecO lo hi w v r) (hb : Below w.heap.size w w') : RecO lo hi w' v r := by
  obtain ⟨s, e, h, k⟩ := h
  exact ⟨s, e, h.below hb, k⟩
theorem EvsO.only (h : EvsO lo hi w v xs) (hb : Only lo' hi' w w') (hh : hi' ≤ lo) : EvsO lo hi w' v xs := ⟨h.1.only hb hh, h.2⟩
theorem RecO.only (h : RecO lo hi w v r) (hb : Only lo' hi' w w') (hh : hi' ≤ lo) : RecO lo hi w' v r := by
  obtain ⟨s, e, h, k⟩ := h
  exact ⟨s, e, h.only hb hh, k⟩
theorem EvsO.wide (h : EvsO lo hi w v xs) (hl : lo' ≤ lo) (hh : hi ≤ hi') : EvsO lo' hi' w v xs := ⟨h.1.lower hl, h.2.1, h.2.2.up hh⟩
theorem RecO.wide (h : RecO lo hi w v r) (hl : lo' ≤ lo) (hh : hi ≤ hi') : RecO lo' hi' w v r := by
  obtain ⟨s, e, h, k⟩ := h
  exact ⟨s, e, h.wide hl hh, k⟩
theorem EvsO.far (h : EvsO lo hi w v xs) {a : Addr} (ha : a.block < lo) (u : Value) : EvsO lo hi (w.setCell a u) v xs := ⟨h.1.far ha u, h.2⟩
theorem EvsO.alloc (h : EvsO lo hi w v xs) (o : Obj) : EvsO lo hi (w.alloc o) v xs := ⟨h.1.alloc o, h.2⟩
end

set_option maxHeartbeats 1000000 in
theorem toRecord_some (v : Value) (r : Rec) (w : World) (h : RecV w v r) (hn : r.evs.length ≤ 1099511627776) :
    Calls Try.prog 22 #[v] w fun en w' => ∃ v', en = .returned v' ∧ RecO w.heap.size w'.heap.size w' v' r ∧ Below w.heap.size w w' ∧ ∃ x0 x1 x2 g c, v' = .agg #[x0, x1, x2, .slice (some ⟨g, 0, none⟩) r.evs.length c] := by
  obtain ⟨s, rfl, h1, hok⟩ := h
  obtain ⟨id, series, made, evs⟩ := r
  have H1 := Lib.hid h1
  have HOK := Lib.hid hok
  clear h1 hok
  go_enter Try.func22, Try.ntmps22
  go_wp2_with (first | (go_at_call 84; refine (toEventS_some _ evs _ (H1.out.below rEv_stable (by first | exact below_al (below_al (below_al (Below.refl _ _) _) _) _)) hn).mono ?_; rintro en w1 ⟨v1, rfl, ho, hb', sg, sc, rfl⟩; have hblk := (hb'.block (w.heap.size + 1 + 1) (by simp)).trans (heap_alloc_new' _ _ (by simp)); have pc0 := blk_cell hblk 0; have pf0 := blk_frozen hblk 0; simp at pc0; have pc1 := blk_cell hblk 1; have pf1 := blk_frozen hblk 1; simp at pc1; have pc2 := blk_cell hblk 2; have pf2 := blk_frozen hblk 2; simp at pc2; have pc3 := blk_cell hblk 3; have pf3 := blk_frozen hblk 3; simp at pc3; have hblq := (hb'.block (w.heap.size + 1) (by simp)).trans ((Below.heap_alloc _ _ _ (by simp)).trans (heap_alloc_new' _ _ (by simp))); have qc0 := blk_cell hblq 0; have qf0 := blk_frozen hblq 0; simp at qc0; have qc1 := blk_cell hblq 1; have qf1 := blk_frozen hblq 1; simp at qc1; have qc2 := blk_cell hblq 2; have qf2 := blk_frozen hblq 2; simp at qc2; have qc3 := blk_cell hblq 3; have qf3 := blk_frozen hblq 3; simp at qc3; have HO := Lib.hid ho; clear ho hblk hblq))
  refine bodyPost_ret (v := .agg #[.int .i64 id, .int .i64 series, .int .i64 made, .slice (some ⟨sg, 0, none⟩) evs.length sc]) (by simp [results, Try.results22, go_sem, qc0, qc1, qc2, qc3]) rfl ⟨_, rfl, ⟨_, rfl, ?_, HOK.out⟩, ?_, _, _, _, _, _, rfl⟩
  · have := HO.out
    exact (((((this.far (by simp) _).far (by simp) _).far (by simp) _).far (by simp) _).far (by simp) _).wide (by simp; omega) (by simp)
  · have hb := below_chain (below_al (below_al (below_al (Below.refl _ _) _) _) _) hb'
    exact ((((hb.setCell (by simp; omega) _).setCell (by simp) _).setCell (by simp) _).setCell (by simp) _).setCell (by simp) _
theorem toRecord_any (v : Value) (r : Rec) (w : World) (h : RecV w v r) (hn : r.evs.length ≤ 1099511627776) :
    Calls Try.prog 22 #[v] w fun en w' => ∃ v', en = .returned v' ∧ RecO w.heap.size w'.heap.size w' v' r ∧ Below w.heap.size w w' :=
  (toRecord_some v r w h hn).mono fun en w' ⟨v', a, b, c, _⟩ => ⟨v', a, b, c⟩
end Go.Proofs.Ytkjpehpodlpdhaa
