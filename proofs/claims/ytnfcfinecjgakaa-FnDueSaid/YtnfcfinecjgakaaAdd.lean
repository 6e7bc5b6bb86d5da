/- AddEvent, the model's and the program's: the record with one event more, in memory of its own. -/
import Derived.Test.YtnfcfinecjgakaaDayOf
import Derived.ArgAppend
import Derived.Deep.RegionLawGrows
import Derived.Deep.RegionHeld3
import Derived.Deep.RegionLaw
import Derived.Laws.AppendOwnNone
namespace Go.Proofs.Ytnfcfinecjgakaa
set_option linter.unusedVariables false
open Go.RowKit Go.Sort

/-- What AddEvent answers. -/
def addRes (r : Rec) (e : Ev) : Rec × Bool := if isRec r = true ∧ isRec { r with evs := insEv r.evs e } = true then ({ r with evs := insEv r.evs e }, true) else (recD, false)
theorem box_new (w : World) (o : Obj) : (w.alloc o).heap[w.heap.size]? = some o := heap_alloc_new w o
theorem evs_one (xs : List Ev) : ∀ u ∈ (xs.map evC).flatten, u.oneCell' = true := by
  intro u hu
  obtain ⟨l, hl, hu⟩ := List.mem_flatten.1 hu
  obtain ⟨e, _, rfl⟩ := List.mem_map.1 hl
  simp [evC] at hu
  rcases hu with rfl | rfl <;> rfl
theorem setCell_other {w : World} {a b : Addr} (v : Value) (h : a ≠ b) : (w.setCell a v).cell? b = w.cell? b := by
  apply World.cell?_setCell_other
  exact h
theorem setCell_same {w : World} {a : Addr} {u : Value} (v : Value) (h : w.cell? a = some u) : (w.setCell a v).cell? a = some v := by
  apply World.cell?_setCell_same
  exact h
theorem wp_append_own_nil {P : Program} {w : World} {o : Oper} {a : Act} {K : Act → World → Prop} {Q : Exit → Act → World → Prop} (s x : Operand) (t : TypeId)
    (ho : o.op = .call { callee := .builtin .append, args := #[s, x], argTypes := #[t, t] })
    (base : Nat) (e : TypeId) (i : TypeInfo) (size : Nat) (ht : P.underlying t = some (.slice e)) (hi : P.info? e = some i)
    (v : Value) (n : Nat) (xs : List Value) (hs : a.eval s = v) (hown : w.ownsRow base e size v n xs) (hx : a.eval x = .slice none 0 0)
    (h : ∀ v' w', w'.ownsRow base e size v' n xs → w.grownBy w' v.ownBlock → K (a.put o.dst v') w') : o.wp P a w K Q := by
  have hrun := run_append_owned_none (P := P) (w := w) base t o.type e i size ht hi v n xs hown
  unfold Oper.wp
  simp [execOp, ho, resolve, invoke, builtin, hs, hx, hrun, Result.andThen]
  exact h v w hown (World.grownBy.refl _ _)
theorem own_form {lo e size n : Nat} {w : World} {v : Value} {xs : List Value} (h : w.ownsRow lo e size v n xs) (hn : 0 < n) : ∃ g cap, v = .slice (some ⟨g, 0, none⟩) n cap ∧ lo ≤ g := by
  rcases h.2 with ⟨_, h0⟩ | ⟨g, cap, cur, rfl, hg, _⟩
  · omega
  · exact ⟨g, cap, rfl, hg⟩
theorem rec0 (lo hi : Nat) (w : World) : RecO lo hi w (.agg #[.int .i64 0, .int .i64 0, .int .i64 0, .slice none 0 0]) recD :=
  ⟨_, rfl, ⟨Own.nil _ _ _ _, by simp [recD], Under.nil _ _ _⟩, by simp [recD, Rec.ok, inI]⟩

/-- The cells of events that lie in a row. -/
theorem cells_flat {w : World} {b o : Nat} {xs : List Ev} (hcs : ∀ i, i < xs.length → w.cell? ⟨b, o + i * 2, none⟩ = some (.int .i64 (xs.getD i evD).kind) ∧ w.cell? ⟨b, o + i * 2 + 1, none⟩ = some (.int .i64 (xs.getD i evD).day)) :
    ∀ j u, (xs.map evC).flatten[j]? = some u → w.cell? ⟨b, o + j, none⟩ = some u := by
  intro j u h
  have hk : j = j / 2 * 2 + j % 2 := by omega
  have hall : ∀ cs ∈ xs.map evC, cs.length = 2 := by simp [evC]
  rw [hk, flat_get _ (j / 2) (j % 2) hall (by omega)] at h
  rcases Nat.lt_or_ge (j / 2) xs.length with hl | hl
  · obtain ⟨f1, f2⟩ := hcs (j / 2) hl
    rw [List.getElem?_map, List.getElem?_eq_getElem hl, Option.map_some, Option.bind_some, ← getD_lt hl] at h
    rcases Nat.mod_two_eq_zero_or_one j with h2 | h2
    · rw [h2] at h
      simp [evC] at h
      rw [hk, h2, ← h]
      simpa using f1
    · rw [h2] at h
      simp [evC] at h
      rw [hk, h2, ← h, ← Nat.add_assoc]
      exact f2
  · rw [List.getElem?_map, List.getElem?_eq_none hl] at h
    cases h
theorem flat_evs_len (xs : List Ev) : (xs.map evC).flatten.length = xs.length * 2 := by
  rw [flat_len (size := 2) _ (by simp [evC]), List.length_map]
theorem getD_take {xs : List Ev} {p i : Nat} (h : i < p) : (xs.take p).getD i evD = xs.getD i evD := by
  simp [List.getD, List.getElem?_take_of_lt h]
theorem getD_drop {xs : List Ev} {p i : Nat} : (xs.drop p).getD i evD = xs.getD (p + i) evD := by
  simp [List.getD, List.getElem?_drop]

set_option maxRecDepth 20000 in
set_option maxHeartbeats 2000000 in
/-- Of a valid record without events. -/
theorem implAddEvent_nil (a1 : Option Addr) (c1 : Nat) (id series made ek ed : Int) (w : World) (hm1 : c1 ≤ 9223372036854775807) (hc0 : a1 = none → c1 = 0) (hok : Rec.ok ⟨id, series, made, []⟩) (hek : Ev.ok ⟨ek, ed⟩) (hr : isRec ⟨id, series, made, []⟩ = true) (out : Rec) (b : Bool) (hres : addRes ⟨id, series, made, []⟩ ⟨ek, ed⟩ = (out, b)) :
    Calls Try.prog 76 #[.agg #[.int .i64 id, .int .i64 series, .int .i64 made, .slice a1 0 c1], .agg #[.int .i64 ek, .int .i64 ed]] w fun en w' => ∃ v', en = .returned (.tuple #[v', .bool b]) ∧ RecO w.heap.size w'.heap.size w' v' out ∧ Below w.heap.size w w' := by
  obtain ⟨i0, hi, hz0, hz1, hz2⟩ := info_parts Try.info_event
  have hrow : ∀ W, RowR 2 rEv W (.slice a1 0 c1) ([] : List Ev) := fun W => ⟨a1, c1, rfl, Nat.zero_le _, hm1, .inl rfl⟩
  have hV : ∀ W, RecV W (.agg #[.int .i64 id, .int .i64 series, .int .i64 made, .slice a1 0 c1]) ⟨id, series, made, []⟩ := fun W => ⟨_, rfl, hrow W, hok⟩
  have HV := Lib.hid hV
  have H1 := Lib.hid hrow
  have HOK := Lib.hid hok
  clear hV hok hrow
  unfold addRes at hres
  rw [hr] at hres
  have HR := Lib.hid hr
  have hins : insEv ([] : List Ev) ⟨ek, ed⟩ = [⟨ek, ed⟩] := rfl
  simp only [hins] at hres
  obtain ⟨bo, ho⟩ : ∃ b, isRec ⟨id, series, made, [⟨ek, ed⟩]⟩ = b := ⟨_, rfl⟩
  rw [ho] at hres
  have hsn := isRec_sorted hr
  have HS := Lib.hid hsn
  have HO := Lib.hid ho
  have HRES := Lib.hid hres
  have hp0 : placeK ([] : List Ev) ek = 0 := rfl
  have HP := Lib.hid hp0
  clear hr hsn ho hres hins hp0
  rcases a1 with _ | A1
  · obtain rfl : c1 = 0 := hc0 rfl
    go_enter Try.func76, Try.ntmps76
    go_wp2_with fail
    refine (implIsRecord_any _ ⟨id, series, made, []⟩ _ (HV.out _)).mono ?_
    rw [HR.out]
    rintro en w1 ⟨rfl, b1⟩
    have K := box_kept (box_al (box_al (box_new w _) _) _) b1
    have E := box_kept (box_al (box_new (w.alloc _) _) _) b1
    have Z := box_kept (box_new _ _) b1
    simp at E Z
    have k0 := box_cell K 0 rfl
    have k1 := box_cell K 1 rfl
    have k2 := box_cell K 2 rfl
    have k3 := box_cell K 3 rfl
    have e0 := box_cell E 0 rfl
    have e1 := box_cell E 1 rfl
    have b10 : w.heap.size + 3 ≤ w1.heap.size := by have := b1.size; simp at this; omega
    replace b1 := below_chain (below_al (below_al (below_al (Below.refl w.heap.size w) _) _) _) b1
    go_wp2_with fail
    refine (placeOfKind_any _ ([] : List Ev) ek _ (H1.out _) HS.out hek.1 (by simp)).mono ?_
    rw [HP.out]
    rintro en w2 ⟨rfl, b2⟩
    replace K := box_kept K b2
    replace E := box_kept E b2
    replace Z := box_kept Z b2
    replace k0 := cell_kept k0 b2
    replace k1 := cell_kept k1 b2
    replace k2 := cell_kept k2 b2
    replace k3 := cell_kept k3 b2
    replace e0 := cell_kept e0 b2
    replace e1 := cell_kept e1 b2
    replace b1 := below_chain b1 b2
    have b1' := b2.size
    go_wp2_with fail
    generalize hWL : w2.alloc (.cells #[.int .i64 id, .int .i64 series, .int .i64 made, .slice none 0 0] 26 (0, 0)) = wL
    have bL : Below w2.heap.size w2 wL := by rw [← hWL]; exact below_al (Below.refl _ _) _
    have L : wL.heap[w2.heap.size]? = some (.cells #[.int .i64 id, .int .i64 series, .int .i64 made, .slice none 0 0] 26 (0, 0)) := by rw [← hWL]; exact box_new _ _
    replace Z := box_kept Z bL
    replace k3 := cell_kept k3 bL
    replace e0 := cell_kept e0 bL
    replace e1 := cell_kept e1 bL
    have bA : Below w.heap.size w (wL.alloc (.cells #[.int .i64 ek, .int .i64 ed] 43 (0, 0))).drew := (below_al (below_chain b1 bL) _).drew
    have HNEWS : ∀ j u, [Value.int .i64 ek, .int .i64 ed][j]? = some u → (wL.alloc (.cells #[.int .i64 ek, .int .i64 ed] 43 (0, 0))).drew.cell? ((⟨wL.heap.size, 0, none⟩ : Addr).add j) = some u := by
      intro j u hj
      rw [Addr.add_lit]
      exact (blk_cell (box_new wL _) _).trans (by simpa using hj)
    have hw2 : w.heap.size + 3 ≤ w2.heap.size := by omega
    have hs2 : w2.heap.size < wL.heap.size := (Array.getElem?_eq_some_iff.1 L).1
    go_region_held3 (fun w' => w'.cell? ⟨w.heap.size, 3, none⟩ = some (.slice none 0 0) ∧ w'.cell? ⟨w.heap.size + 1, 0, none⟩ = some (.int .i64 ek) ∧ w'.cell? ⟨w.heap.size + 1, 1, none⟩ = some (.int .i64 ed))
      (first | exact ⟨k3, e0, e1⟩ | exact ⟨below_al_cell k3 _, below_al_cell e0 _, below_al_cell e1 _⟩ | exact ⟨k33, e33, e34⟩ | (refine ⟨?_, ?_, ?_⟩ <;> (rw [World.cell?_setCell_far _ _ _ _ (by simp; omega)]; assumption)))
      (first | (refine step_append_grows rfl _ _ _ rfl 43 i0 (.agg #[.int .i64 0, .int .i64 0]) 2 16 Try.underlying24 hi hz0 hz1 hz2 rfl (by decide) _ 0 0 [] (by rfl) (fun _ => ⟨rfl, rfl⟩) (by simp) (fun _ _ j u h => by simp at h) ⟨wL.heap.size, 0, none⟩ 1 1 [.int .i64 ek, .int .i64 ed] (by rfl) rfl HNEWS (by simp [Value.oneCell']) (by omega) (by unfold maxLen; omega) (by omega) ?_; intro v3 w3 hown hgrow; have b3 := below_of_grow hgrow (Nat.le_refl _) (fun k h => by cases h); have k33 := cell_keptd (below_al_cell k3 _) b3; have e33 := cell_keptd (below_al_cell e0 _) b3; have e34 := cell_keptd (below_al_cell e1 _) b3; have L3 := box_kept (show (wL.alloc (.cells #[.int .i64 ek, .int .i64 ed] 43 (0, 0))).drew.heap[w2.heap.size]? = _ from box_al L _) b3; have l33 := box_cell L3 3 rfl; have fr3 := blk_frozen L3 3; obtain ⟨g, cap, rfl, hg1⟩ := own_form hown (by omega); have HOWN := Lib.hid hown; have HB3 := Lib.hid b3; clear hown hgrow b3))
    clear HNEWS k3 e0 e1 e33 e34
    go_wp2_with fail
    have b3 := HB3.out
    have Z3 := box_kept (show (wL.alloc (.cells #[.int .i64 ek, .int .i64 ed] 43 (0, 0))).drew.heap[w.heap.size + 1 + 1]? = _ from box_al Z _) b3
    have Z6 := (Below.heap_setCell w3 ⟨w2.heap.size, 3, none⟩ (.slice (some ⟨g, 0, none⟩) 1 cap) (w.heap.size + 1 + 1) (by simp; omega)).trans Z3
    clear Z Z3
    have bW3 := below_chain bA b3
    have b6' := bW3.setCell (p := ⟨w2.heap.size, 3, none⟩) (by simp; omega) (.slice (some ⟨g, 0, none⟩) 1 cap)
    have l0 := (setCell_other (w := w3) (.slice (some ⟨g, 0, none⟩) 1 cap) (by simp : (⟨w2.heap.size, 3, none⟩ : Addr) ≠ ⟨w2.heap.size, 0, none⟩)).trans (box_cell L3 0 rfl)
    have l1 := (setCell_other (w := w3) (.slice (some ⟨g, 0, none⟩) 1 cap) (by simp : (⟨w2.heap.size, 3, none⟩ : Addr) ≠ ⟨w2.heap.size, 1, none⟩)).trans (box_cell L3 1 rfl)
    have l2 := (setCell_other (w := w3) (.slice (some ⟨g, 0, none⟩) 1 cap) (by simp : (⟨w2.heap.size, 3, none⟩ : Addr) ≠ ⟨w2.heap.size, 2, none⟩)).trans (box_cell L3 2 rfl)
    have l3 := setCell_same (.slice (some ⟨g, 0, none⟩) 1 cap) l33
    have k36 := (World.cell?_setCell_far w3 ⟨w2.heap.size, 3, none⟩ ⟨w.heap.size, 3, none⟩ (.slice (some ⟨g, 0, none⟩) 1 cap) (by simp; omega)).trans k33
    have fr6 : (w3.setCell ⟨w2.heap.size, 3, none⟩ (.slice (some ⟨g, 0, none⟩) 1 cap)).frozen? ⟨w2.heap.size, 3, none⟩ = false := by rw [World.frozen?_setCell]; exact fr3
    have hAsz : w2.heap.size < (wL.alloc (.cells #[.int .i64 ek, .int .i64 ed] 43 (0, 0))).drew.heap.size := by simp; omega
    have ho6 := ownsRow_setCell_below HOWN.out (a := ⟨w2.heap.size, 3, none⟩) hAsz (.slice (some ⟨g, 0, none⟩) 1 cap)
    have ho6' := ownsRow_base_a' ho6 (base' := w2.heap.size + 1) (by simp; omega)
    have s6 : w2.heap.size + 1 ≤ (w3.setCell ⟨w2.heap.size, 3, none⟩ (.slice (some ⟨g, 0, none⟩) 1 cap)).heap.size := by have := b3.size; simp at this; simp; omega
    have HO6 := Lib.hid ho6'
    clear ho6 ho6' b3 bW3 fr3 k33 L3 l33 HB3 HOWN bA hAsz L bL hg1
    generalize w3.setCell ⟨w2.heap.size, 3, none⟩ (.slice (some ⟨g, 0, none⟩) 1 cap) = w6 at *
    go_region_law (first | (rw [if_pos (by rfl)]; refine wp_append_own_nil _ _ _ rfl (w2.heap.size + 1) 43 i0 2 Try.underlying24 hi _ 1 _ rfl (show w6.drew.ownsRow _ _ _ _ _ _ from HO6.out) (by rfl) ?_; intro v7 w7 hown7 hgrow7; have b7 : Below (w2.heap.size + 1) w6.drew w7 := below_of_grow hgrow7 s6 (fun k hk => (HO6.out.lt k hk).1); replace l0 := (b7.cell (p := ⟨w2.heap.size, 0, none⟩) (Nat.lt_succ_self _)).trans l0; replace l1 := (b7.cell (p := ⟨w2.heap.size, 1, none⟩) (Nat.lt_succ_self _)).trans l1; replace l2 := (b7.cell (p := ⟨w2.heap.size, 2, none⟩) (Nat.lt_succ_self _)).trans l2; replace l3 := (b7.cell (p := ⟨w2.heap.size, 3, none⟩) (Nat.lt_succ_self _)).trans l3; replace fr6 := (b7.frozen (p := ⟨w2.heap.size, 3, none⟩) (Nat.lt_succ_self _)).trans fr6; obtain ⟨g7, cap7, rfl, hg7⟩ := own_form hown7 (by omega); have HOWN7 := Lib.hid hown7; have HB7 := Lib.hid b7; clear hown7 hgrow7 b7))
    all_goals go_wp2_with fail
    all_goals
      have b7 := HB7.out
      have Z7 := (b7.block (w.heap.size + 1 + 1) (by omega)).trans Z6
      have Z8 := (Below.heap_setCell w7 ⟨w2.heap.size, 3, none⟩ (.slice (some ⟨g7, 0, none⟩) 1 cap7) (w.heap.size + 1 + 1) (by simp; omega)).trans Z7
      have m0 := (setCell_other (w := w7) (.slice (some ⟨g7, 0, none⟩) 1 cap7) (by simp : (⟨w2.heap.size, 3, none⟩ : Addr) ≠ ⟨w2.heap.size, 0, none⟩)).trans l0
      have m1 := (setCell_other (w := w7) (.slice (some ⟨g7, 0, none⟩) 1 cap7) (by simp : (⟨w2.heap.size, 3, none⟩ : Addr) ≠ ⟨w2.heap.size, 1, none⟩)).trans l1
      have m2 := (setCell_other (w := w7) (.slice (some ⟨g7, 0, none⟩) 1 cap7) (by simp : (⟨w2.heap.size, 3, none⟩ : Addr) ≠ ⟨w2.heap.size, 2, none⟩)).trans l2
      have m3 := setCell_same (.slice (some ⟨g7, 0, none⟩) 1 cap7) l3
      have ho8 := ownsRow_setCell_below HOWN7.out (a := ⟨w2.heap.size, 3, none⟩) (Nat.lt_succ_self _) (.slice (some ⟨g7, 0, none⟩) 1 cap7)
      have b8 := ((b6'.drew.trans (b7.mono (by omega))).setCell (p := ⟨w2.heap.size, 3, none⟩) (by simp; omega) (.slice (some ⟨g7, 0, none⟩) 1 cap7))
      have HO8 := Lib.hid ho8
      clear ho8 b7 Z7 Z6 l0 l1 l2 l3 fr6 HB7 HOWN7
      generalize w7.setCell ⟨w2.heap.size, 3, none⟩ (.slice (some ⟨g7, 0, none⟩) 1 cap7) = w8 at *
      have hown : Own (w2.heap.size + 1) 43 2 w8 (.slice (some ⟨g7, 0, none⟩) 1 cap7) (([(⟨ek, ed⟩ : Ev)]).map evC) := by
        refine ⟨?_, by simp [evC]⟩
        have := HO8.out
        simpa [evC] using this
      have hall : ∀ a ∈ [(⟨ek, ed⟩ : Ev)], a.ok := (by simpa using hek)
      have hevs : EvsO w.heap.size w8.heap.size w8 (.slice (some ⟨g7, 0, none⟩) 1 cap7) ([(⟨ek, ed⟩ : Ev)]) := ⟨hown.lower (by omega), hall, hown.under⟩
      have hrec : ∀ W', Below w8.heap.size w8 W' → RecO w.heap.size w8.heap.size W' (.agg #[.int .i64 id, .int .i64 series, .int .i64 made, .slice (some ⟨g7, 0, none⟩) 1 cap7]) ⟨id, series, made, [(⟨ek, ed⟩ : Ev)]⟩ := fun W' hb => ⟨_, rfl, hevs.below hb, ⟨HOK.out.1, HOK.out.2.1, HOK.out.2.2⟩⟩
      have HREC := Lib.hid hrec
      have HGE := Lib.hid hown
      clear hrec hevs hall hown
      refine (implIsRecord_any _ ⟨id, series, made, [(⟨ek, ed⟩ : Ev)]⟩ _ (HREC.out _ (Below.refl _ _)).toV).mono ?_
      rw [HO.out]
      rintro en w9 ⟨rfl, b9⟩
      have z := box_kept Z8 b9
      have z0 := box_cell z 0 rfl; have y0 := blk_frozen z 0; have z1 := box_cell z 1 rfl; have y1 := blk_frozen z 1; have z2 := box_cell z 2 rfl; have y2 := blk_frozen z 2; have z3 := box_cell z 3 rfl; have y3 := blk_frozen z 3
      replace m0 := cell_kept m0 b9
      replace m1 := cell_kept m1 b9
      replace m2 := cell_kept m2 b9
      replace m3 := cell_kept m3 b9
      have bw := b8.trans (b9.mono b8.size)
      have s28 := b8.size
      have s89 := b9.size
      simp at z0 z1 z2 z3 y0 y1 y2 y3
      clear z Z8
      cases bo
      · have hh := HRES.out
        rw [if_neg (by simp)] at hh
        obtain ⟨rfl, rfl⟩ := Prod.mk.inj hh
        clear hh HRES
        go_wp2_with fail
        refine bodyPost_ret (v := .tuple #[.agg #[.int .i64 0, .int .i64 0, .int .i64 0, .slice none 0 0], .bool false]) (by simp [results, Try.results76, go_sem, z0, z1, z2, z3]) rfl ⟨_, rfl, rec0 _ _ _, ?_⟩
        exact (((bw.setCell (by simp; omega) _).setCell (by simp; omega) _).setCell (by simp; omega) _).setCell (by simp; omega) _
      · have hh := HRES.out
        rw [if_pos (by simp)] at hh
        obtain ⟨rfl, rfl⟩ := Prod.mk.inj hh
        clear hh HRES
        go_wp2_with fail
        refine bodyPost_ret (v := .tuple #[.agg #[.int .i64 id, .int .i64 series, .int .i64 made, .slice (some ⟨g7, 0, none⟩) 1 cap7], .bool true]) (by simp [results, Try.results76, go_sem, z0, z1, z2, z3]) rfl ⟨_, rfl, ?_, ?_⟩
        · refine ⟨_, rfl, ?_, ⟨HOK.out.1, HOK.out.2.1, HOK.out.2.2⟩⟩
          have h9 : EvsO (w2.heap.size + 1) w9.heap.size w9 (.slice (some ⟨g7, 0, none⟩) 1 cap7) ([(⟨ek, ed⟩ : Ev)]) := ⟨HGE.out.below b9, ((by simpa using hek)), (HGE.out.below b9).under⟩
          exact ((((h9.far (by simp; omega) _).far (by simp; omega) _).far (by simp; omega) _).far (by simp; omega) _).wide (by omega) (by simp)
        · exact (((bw.setCell (by simp; omega) _).setCell (by simp; omega) _).setCell (by simp; omega) _).setCell (by simp; omega) _
  · go_enter Try.func76, Try.ntmps76
    go_wp2_with fail
    refine (implIsRecord_any _ ⟨id, series, made, []⟩ _ (HV.out _)).mono ?_
    rw [HR.out]
    rintro en w1 ⟨rfl, b1⟩
    have K := box_kept (box_al (box_al (box_new w _) _) _) b1
    have E := box_kept (box_al (box_new (w.alloc _) _) _) b1
    have Z := box_kept (box_new _ _) b1
    simp at E Z
    have k0 := box_cell K 0 rfl
    have k1 := box_cell K 1 rfl
    have k2 := box_cell K 2 rfl
    have k3 := box_cell K 3 rfl
    have e0 := box_cell E 0 rfl
    have e1 := box_cell E 1 rfl
    have b10 : w.heap.size + 3 ≤ w1.heap.size := by have := b1.size; simp at this; omega
    replace b1 := below_chain (below_al (below_al (below_al (Below.refl w.heap.size w) _) _) _) b1
    go_wp2_with fail
    refine (placeOfKind_any _ ([] : List Ev) ek _ (H1.out _) HS.out hek.1 (by simp)).mono ?_
    rw [HP.out]
    rintro en w2 ⟨rfl, b2⟩
    replace K := box_kept K b2
    replace E := box_kept E b2
    replace Z := box_kept Z b2
    replace k0 := cell_kept k0 b2
    replace k1 := cell_kept k1 b2
    replace k2 := cell_kept k2 b2
    replace k3 := cell_kept k3 b2
    replace e0 := cell_kept e0 b2
    replace e1 := cell_kept e1 b2
    replace b1 := below_chain b1 b2
    have b1' := b2.size
    go_wp2_with fail
    generalize hWL : w2.alloc (.cells #[.int .i64 id, .int .i64 series, .int .i64 made, .slice (some A1) 0 c1] 26 (0, 0)) = wL
    have bL : Below w2.heap.size w2 wL := by rw [← hWL]; exact below_al (Below.refl _ _) _
    have L : wL.heap[w2.heap.size]? = some (.cells #[.int .i64 id, .int .i64 series, .int .i64 made, .slice (some A1) 0 c1] 26 (0, 0)) := by rw [← hWL]; exact box_new _ _
    replace Z := box_kept Z bL
    replace k3 := cell_kept k3 bL
    replace e0 := cell_kept e0 bL
    replace e1 := cell_kept e1 bL
    have bA : Below w.heap.size w (wL.alloc (.cells #[.int .i64 ek, .int .i64 ed] 43 (0, 0))).drew := (below_al (below_chain b1 bL) _).drew
    have HNEWS : ∀ j u, [Value.int .i64 ek, .int .i64 ed][j]? = some u → (wL.alloc (.cells #[.int .i64 ek, .int .i64 ed] 43 (0, 0))).drew.cell? ((⟨wL.heap.size, 0, none⟩ : Addr).add j) = some u := by
      intro j u hj
      rw [Addr.add_lit]
      exact (blk_cell (box_new wL _) _).trans (by simpa using hj)
    have hw2 : w.heap.size + 3 ≤ w2.heap.size := by omega
    have hs2 : w2.heap.size < wL.heap.size := (Array.getElem?_eq_some_iff.1 L).1
    go_region_held3 (fun w' => w'.cell? ⟨w.heap.size, 3, none⟩ = some (.slice (some A1) 0 c1) ∧ w'.cell? ⟨w.heap.size + 1, 0, none⟩ = some (.int .i64 ek) ∧ w'.cell? ⟨w.heap.size + 1, 1, none⟩ = some (.int .i64 ed))
      (first | exact ⟨k3, e0, e1⟩ | exact ⟨below_al_cell k3 _, below_al_cell e0 _, below_al_cell e1 _⟩ | exact ⟨k33, e33, e34⟩ | (refine ⟨?_, ?_, ?_⟩ <;> (rw [World.cell?_setCell_far _ _ _ _ (by simp; omega)]; assumption)))
      (first | (refine step_append_grows rfl _ _ _ rfl 43 i0 (.agg #[.int .i64 0, .int .i64 0]) 2 16 Try.underlying24 hi hz0 hz1 hz2 rfl (by decide) _ 0 0 [] (by rfl) (fun _ => ⟨rfl, rfl⟩) (by simp) (fun _ _ j u h => by simp at h) ⟨wL.heap.size, 0, none⟩ 1 1 [.int .i64 ek, .int .i64 ed] (by rfl) rfl HNEWS (by simp [Value.oneCell']) (by omega) (by unfold maxLen; omega) (by omega) ?_; intro v3 w3 hown hgrow; have b3 := below_of_grow hgrow (Nat.le_refl _) (fun k h => by cases h); have k33 := cell_keptd (below_al_cell k3 _) b3; have e33 := cell_keptd (below_al_cell e0 _) b3; have e34 := cell_keptd (below_al_cell e1 _) b3; have L3 := box_kept (show (wL.alloc (.cells #[.int .i64 ek, .int .i64 ed] 43 (0, 0))).drew.heap[w2.heap.size]? = _ from box_al L _) b3; have l33 := box_cell L3 3 rfl; have fr3 := blk_frozen L3 3; obtain ⟨g, cap, rfl, hg1⟩ := own_form hown (by omega); have HOWN := Lib.hid hown; have HB3 := Lib.hid b3; clear hown hgrow b3))
    clear HNEWS k3 e0 e1 e33 e34
    go_wp2_with fail
    have b3 := HB3.out
    have Z3 := box_kept (show (wL.alloc (.cells #[.int .i64 ek, .int .i64 ed] 43 (0, 0))).drew.heap[w.heap.size + 1 + 1]? = _ from box_al Z _) b3
    have Z6 := (Below.heap_setCell w3 ⟨w2.heap.size, 3, none⟩ (.slice (some ⟨g, 0, none⟩) 1 cap) (w.heap.size + 1 + 1) (by simp; omega)).trans Z3
    clear Z Z3
    have bW3 := below_chain bA b3
    have b6' := bW3.setCell (p := ⟨w2.heap.size, 3, none⟩) (by simp; omega) (.slice (some ⟨g, 0, none⟩) 1 cap)
    have l0 := (setCell_other (w := w3) (.slice (some ⟨g, 0, none⟩) 1 cap) (by simp : (⟨w2.heap.size, 3, none⟩ : Addr) ≠ ⟨w2.heap.size, 0, none⟩)).trans (box_cell L3 0 rfl)
    have l1 := (setCell_other (w := w3) (.slice (some ⟨g, 0, none⟩) 1 cap) (by simp : (⟨w2.heap.size, 3, none⟩ : Addr) ≠ ⟨w2.heap.size, 1, none⟩)).trans (box_cell L3 1 rfl)
    have l2 := (setCell_other (w := w3) (.slice (some ⟨g, 0, none⟩) 1 cap) (by simp : (⟨w2.heap.size, 3, none⟩ : Addr) ≠ ⟨w2.heap.size, 2, none⟩)).trans (box_cell L3 2 rfl)
    have l3 := setCell_same (.slice (some ⟨g, 0, none⟩) 1 cap) l33
    have k36 := (World.cell?_setCell_far w3 ⟨w2.heap.size, 3, none⟩ ⟨w.heap.size, 3, none⟩ (.slice (some ⟨g, 0, none⟩) 1 cap) (by simp; omega)).trans k33
    have fr6 : (w3.setCell ⟨w2.heap.size, 3, none⟩ (.slice (some ⟨g, 0, none⟩) 1 cap)).frozen? ⟨w2.heap.size, 3, none⟩ = false := by rw [World.frozen?_setCell]; exact fr3
    have hAsz : w2.heap.size < (wL.alloc (.cells #[.int .i64 ek, .int .i64 ed] 43 (0, 0))).drew.heap.size := by simp; omega
    have ho6 := ownsRow_setCell_below HOWN.out (a := ⟨w2.heap.size, 3, none⟩) hAsz (.slice (some ⟨g, 0, none⟩) 1 cap)
    have ho6' := ownsRow_base_a' ho6 (base' := w2.heap.size + 1) (by simp; omega)
    have s6 : w2.heap.size + 1 ≤ (w3.setCell ⟨w2.heap.size, 3, none⟩ (.slice (some ⟨g, 0, none⟩) 1 cap)).heap.size := by have := b3.size; simp at this; simp; omega
    have HO6 := Lib.hid ho6'
    clear ho6 ho6' b3 bW3 fr3 k33 L3 l33 HB3 HOWN bA hAsz L bL hg1
    generalize w3.setCell ⟨w2.heap.size, 3, none⟩ (.slice (some ⟨g, 0, none⟩) 1 cap) = w6 at *
    go_region_law (first | (rw [if_pos (by rfl)]; refine wp_append_own _ _ _ _ rfl (w2.heap.size + 1) 43 i0 (.agg #[.int .i64 0, .int .i64 0]) 2 16 Try.underlying24 hi hz0 hz1 hz2 rfl (by decide) _ 1 _ rfl (show w6.drew.ownsRow _ _ _ _ _ _ from HO6.out) _ 0 _ [] (by rfl) (by simp) (fun j u h => by simp at h) (by simp) (by unfold maxLen; omega) (by omega) s6 ?_; intro v7 w7 hown7 hgrow7 _; have b7 : Below (w2.heap.size + 1) w6.drew w7 := below_of_grow hgrow7 s6 (fun k hk => (HO6.out.lt k hk).1); replace l0 := (b7.cell (p := ⟨w2.heap.size, 0, none⟩) (Nat.lt_succ_self _)).trans l0; replace l1 := (b7.cell (p := ⟨w2.heap.size, 1, none⟩) (Nat.lt_succ_self _)).trans l1; replace l2 := (b7.cell (p := ⟨w2.heap.size, 2, none⟩) (Nat.lt_succ_self _)).trans l2; replace l3 := (b7.cell (p := ⟨w2.heap.size, 3, none⟩) (Nat.lt_succ_self _)).trans l3; replace fr6 := (b7.frozen (p := ⟨w2.heap.size, 3, none⟩) (Nat.lt_succ_self _)).trans fr6; obtain ⟨g7, cap7, rfl, hg7⟩ := own_form hown7 (by omega); have HOWN7 := Lib.hid hown7; have HB7 := Lib.hid b7; clear hown7 hgrow7 b7))
    all_goals go_wp2_with fail
    all_goals
      have b7 := HB7.out
      have Z7 := (b7.block (w.heap.size + 1 + 1) (by omega)).trans Z6
      have Z8 := (Below.heap_setCell w7 ⟨w2.heap.size, 3, none⟩ (.slice (some ⟨g7, 0, none⟩) 1 cap7) (w.heap.size + 1 + 1) (by simp; omega)).trans Z7
      have m0 := (setCell_other (w := w7) (.slice (some ⟨g7, 0, none⟩) 1 cap7) (by simp : (⟨w2.heap.size, 3, none⟩ : Addr) ≠ ⟨w2.heap.size, 0, none⟩)).trans l0
      have m1 := (setCell_other (w := w7) (.slice (some ⟨g7, 0, none⟩) 1 cap7) (by simp : (⟨w2.heap.size, 3, none⟩ : Addr) ≠ ⟨w2.heap.size, 1, none⟩)).trans l1
      have m2 := (setCell_other (w := w7) (.slice (some ⟨g7, 0, none⟩) 1 cap7) (by simp : (⟨w2.heap.size, 3, none⟩ : Addr) ≠ ⟨w2.heap.size, 2, none⟩)).trans l2
      have m3 := setCell_same (.slice (some ⟨g7, 0, none⟩) 1 cap7) l3
      have ho8 := ownsRow_setCell_below HOWN7.out (a := ⟨w2.heap.size, 3, none⟩) (Nat.lt_succ_self _) (.slice (some ⟨g7, 0, none⟩) 1 cap7)
      have b8 := ((b6'.drew.trans (b7.mono (by omega))).setCell (p := ⟨w2.heap.size, 3, none⟩) (by simp; omega) (.slice (some ⟨g7, 0, none⟩) 1 cap7))
      have HO8 := Lib.hid ho8
      clear ho8 b7 Z7 Z6 l0 l1 l2 l3 fr6 HB7 HOWN7
      generalize w7.setCell ⟨w2.heap.size, 3, none⟩ (.slice (some ⟨g7, 0, none⟩) 1 cap7) = w8 at *
      have hown : Own (w2.heap.size + 1) 43 2 w8 (.slice (some ⟨g7, 0, none⟩) 1 cap7) (([(⟨ek, ed⟩ : Ev)]).map evC) := by
        refine ⟨?_, by simp [evC]⟩
        have := HO8.out
        simpa [evC] using this
      have hall : ∀ a ∈ [(⟨ek, ed⟩ : Ev)], a.ok := (by simpa using hek)
      have hevs : EvsO w.heap.size w8.heap.size w8 (.slice (some ⟨g7, 0, none⟩) 1 cap7) ([(⟨ek, ed⟩ : Ev)]) := ⟨hown.lower (by omega), hall, hown.under⟩
      have hrec : ∀ W', Below w8.heap.size w8 W' → RecO w.heap.size w8.heap.size W' (.agg #[.int .i64 id, .int .i64 series, .int .i64 made, .slice (some ⟨g7, 0, none⟩) 1 cap7]) ⟨id, series, made, [(⟨ek, ed⟩ : Ev)]⟩ := fun W' hb => ⟨_, rfl, hevs.below hb, ⟨HOK.out.1, HOK.out.2.1, HOK.out.2.2⟩⟩
      have HREC := Lib.hid hrec
      have HGE := Lib.hid hown
      clear hrec hevs hall hown
      refine (implIsRecord_any _ ⟨id, series, made, [(⟨ek, ed⟩ : Ev)]⟩ _ (HREC.out _ (Below.refl _ _)).toV).mono ?_
      rw [HO.out]
      rintro en w9 ⟨rfl, b9⟩
      have z := box_kept Z8 b9
      have z0 := box_cell z 0 rfl; have y0 := blk_frozen z 0; have z1 := box_cell z 1 rfl; have y1 := blk_frozen z 1; have z2 := box_cell z 2 rfl; have y2 := blk_frozen z 2; have z3 := box_cell z 3 rfl; have y3 := blk_frozen z 3
      replace m0 := cell_kept m0 b9
      replace m1 := cell_kept m1 b9
      replace m2 := cell_kept m2 b9
      replace m3 := cell_kept m3 b9
      have bw := b8.trans (b9.mono b8.size)
      have s28 := b8.size
      have s89 := b9.size
      simp at z0 z1 z2 z3 y0 y1 y2 y3
      clear z Z8
      cases bo
      · have hh := HRES.out
        rw [if_neg (by simp)] at hh
        obtain ⟨rfl, rfl⟩ := Prod.mk.inj hh
        clear hh HRES
        go_wp2_with fail
        refine bodyPost_ret (v := .tuple #[.agg #[.int .i64 0, .int .i64 0, .int .i64 0, .slice none 0 0], .bool false]) (by simp [results, Try.results76, go_sem, z0, z1, z2, z3]) rfl ⟨_, rfl, rec0 _ _ _, ?_⟩
        exact (((bw.setCell (by simp; omega) _).setCell (by simp; omega) _).setCell (by simp; omega) _).setCell (by simp; omega) _
      · have hh := HRES.out
        rw [if_pos (by simp)] at hh
        obtain ⟨rfl, rfl⟩ := Prod.mk.inj hh
        clear hh HRES
        go_wp2_with fail
        refine bodyPost_ret (v := .tuple #[.agg #[.int .i64 id, .int .i64 series, .int .i64 made, .slice (some ⟨g7, 0, none⟩) 1 cap7], .bool true]) (by simp [results, Try.results76, go_sem, z0, z1, z2, z3]) rfl ⟨_, rfl, ?_, ?_⟩
        · refine ⟨_, rfl, ?_, ⟨HOK.out.1, HOK.out.2.1, HOK.out.2.2⟩⟩
          have h9 : EvsO (w2.heap.size + 1) w9.heap.size w9 (.slice (some ⟨g7, 0, none⟩) 1 cap7) ([(⟨ek, ed⟩ : Ev)]) := ⟨HGE.out.below b9, ((by simpa using hek)), (HGE.out.below b9).under⟩
          exact ((((h9.far (by simp; omega) _).far (by simp; omega) _).far (by simp; omega) _).far (by simp; omega) _).wide (by omega) (by simp)
        · exact (((bw.setCell (by simp; omega) _).setCell (by simp; omega) _).setCell (by simp; omega) _).setCell (by simp; omega) _

set_option maxRecDepth 20000 in
set_option maxHeartbeats 2000000 in
theorem implAddEvent_any (v : Value) (r : Rec) (e : Ev) (w : World) (lo0 hi0 : Nat) (h : RecO lo0 hi0 w v r) (hek : e.ok) (out : Rec) (b : Bool) (hres : addRes r e = (out, b)) :
    Calls Try.prog 76 #[v, .agg #[.int .i64 e.kind, .int .i64 e.day]] w fun en w' => ∃ v', en = .returned (.tuple #[v', .bool b]) ∧ RecO w.heap.size w'.heap.size w' v' out ∧ Below w.heap.size w w' := by
  obtain ⟨i0, hi, hz0, hz1, hz2⟩ := info_parts Try.info_event
  have hnil : ∀ n c x0 x1 x2, v = .agg #[x0, x1, x2, .slice none n c] → c = 0 := by
    obtain ⟨s, rfl, h1, _⟩ := h
    intro n c x0 x1 x2 hv
    rcases h1.1.form with ⟨rfl, _⟩ | ⟨g, cap, rfl, _⟩
    · simp at hv; exact hv.2.2.2.2.symm
    · simp at hv
  have HNIL := Lib.hid hnil
  obtain ⟨s, rfl, h1, hok⟩ := h.toV
  clear h hnil
  have hV : ∀ W, Below w.heap.size w W → RecV W (.agg #[.int .i64 r.id, .int .i64 r.series, .int .i64 r.made, s]) r := fun W hb => ⟨s, rfl, h1.below rEv_stable hb, hok⟩
  have HV := Lib.hid hV
  obtain ⟨a1, c1, rfl, hl1, hm1, r1⟩ := h1.evs
  have R1 := Lib.hid r1
  have H1 := Lib.hid h1
  have HOK := Lib.hid hok
  clear hV hok h1 r1
  unfold maxLen at hm1
  obtain ⟨ek, ed⟩ := e
  obtain ⟨br, hr⟩ : ∃ b, isRec r = b := ⟨_, rfl⟩
  unfold addRes at hres
  rw [hr] at hres
  have HR := Lib.hid hr
  have c00 := fun (W : World) (t : TypeId) => cell_new W #[.int .i64 r.id, .int .i64 r.series, .int .i64 r.made, .slice a1 r.evs.length c1] t 3 (v := .slice a1 r.evs.length c1) rfl
  cases br
  · rw [if_neg (by simp)] at hres
    obtain ⟨rfl, rfl⟩ := Prod.mk.inj hres
    clear hres hr
    go_enter Try.func76, Try.ntmps76
    go_wp2_with fail
    refine (implIsRecord_any _ r _ (HV.out _ (below_al (below_al (below_al (Below.refl _ _) _) _) _))).mono ?_
    rw [HR.out]
    rintro en w1 ⟨rfl, b1⟩
    have z := box_kept (box_new _ _) b1
    have z0 := box_cell z 0 rfl
    have z1 := box_cell z 1 rfl
    have z2 := box_cell z 2 rfl
    have z3 := box_cell z 3 rfl
    have y0 := blk_frozen z 0
    have y1 := blk_frozen z 1
    have y2 := blk_frozen z 2
    have y3 := blk_frozen z 3
    simp at z0 z1 z2 z3 y0 y1 y2 y3
    clear z
    go_wp2_with fail
    refine bodyPost_ret (v := .tuple #[.agg #[.int .i64 0, .int .i64 0, .int .i64 0, .slice none 0 0], .bool false]) (by simp [results, Try.results76, go_sem, z0, z1, z2, z3]) rfl ⟨_, rfl, rec0 _ _ _, ?_⟩
    have hb := below_chain (below_al (below_al (below_al (Below.refl w.heap.size w) _) _) _) b1
    exact (((hb.setCell (by simp; omega) _).setCell (by simp; omega) _).setCell (by simp; omega) _).setCell (by simp; omega) _
  by_cases hne : r.evs = []
  · obtain ⟨id, series, made, evs⟩ := r
    obtain rfl : evs = [] := hne
    exact implAddEvent_nil a1 c1 id series made ek ed w hm1 (fun h => HNIL.out 0 c1 _ _ _ (by rw [h]; rfl)) HOK.out hek hr out b (by unfold addRes; rw [hr]; exact hres)
  · clear HNIL
    obtain ⟨bo, ho⟩ : ∃ b, isRec { r with evs := insEv r.evs ⟨ek, ed⟩ } = b := ⟨_, rfl⟩
    rw [ho] at hres
    have hsn := isRec_sorted hr
    have hlen := (isRec_iff.1 hr).2.2.2.1
    have hpl := placeK_le r.evs ek
    have HS := Lib.hid hsn
    have HO := Lib.hid ho
    have HRES := Lib.hid hres
    obtain ⟨p, hp⟩ : ∃ p, placeK r.evs ek = p := ⟨_, rfl⟩
    rw [hp] at hpl
    have HP := Lib.hid hp
    clear hr hsn ho hres hp
    go_enter Try.func76, Try.ntmps76
    go_wp2_with fail
    refine (implIsRecord_any _ r _ (HV.out _ (below_al (below_al (below_al (Below.refl _ _) _) _) _))).mono ?_
    rw [HR.out]
    rintro en w1 ⟨rfl, b1⟩
    have K := box_kept (box_al (box_al (box_new w _) _) _) b1
    have E := box_kept (box_al (box_new (w.alloc _) _) _) b1
    have Z := box_kept (box_new _ _) b1
    simp at E Z
    have k0 := box_cell K 0 rfl
    have k1 := box_cell K 1 rfl
    have k2 := box_cell K 2 rfl
    have k3 := box_cell K 3 rfl
    have e0 := box_cell E 0 rfl
    have e1 := box_cell E 1 rfl
    have b10 : w.heap.size + 3 ≤ w1.heap.size := by have := b1.size; simp at this; omega
    replace b1 := below_chain (below_al (below_al (below_al (Below.refl w.heap.size w) _) _) _) b1
    go_wp2_with fail
    refine (placeOfKind_any _ r.evs ek _ (H1.out.below rEv_stable b1) HS.out hek.1 (by omega)).mono ?_
    rw [HP.out]
    rintro en w2 ⟨rfl, b2⟩
    replace K := box_kept K b2
    replace E := box_kept E b2
    replace Z := box_kept Z b2
    replace k0 := cell_kept k0 b2
    replace k1 := cell_kept k1 b2
    replace k2 := cell_kept k2 b2
    replace k3 := cell_kept k3 b2
    replace e0 := cell_kept e0 b2
    replace e1 := cell_kept e1 b2
    replace b1 := below_chain b1 b2
    have b1' := b2.size
    have gp0 : (0 : Int) ≤ (p : Int) := by omega
    have gp1 : (p : Int) ≤ (r.evs.length : Int) := by omega
    have gp2 : (p : Int) ≤ (c1 : Int) := by omega
    · obtain ⟨b0, o0, hb0, rfl, hcs⟩ := R1.out.resolve_left hne
      go_wp2_with fail
      generalize hWL : w2.alloc (.cells #[.int .i64 r.id, .int .i64 r.series, .int .i64 r.made, .slice (some ⟨b0, o0, none⟩) r.evs.length c1] 26 (0, 0)) = wL
      have bL : Below w2.heap.size w2 wL := by rw [← hWL]; exact below_al (Below.refl _ _) _
      have L : wL.heap[w2.heap.size]? = some (.cells #[.int .i64 r.id, .int .i64 r.series, .int .i64 r.made, .slice (some ⟨b0, o0, none⟩) r.evs.length c1] 26 (0, 0)) := by rw [← hWL]; exact box_new _ _
      replace Z := box_kept Z bL
      replace k3 := cell_kept k3 bL
      replace e0 := cell_kept e0 bL
      replace e1 := cell_kept e1 bL
      have bA : Below w.heap.size w (wL.alloc (.cells #[.int .i64 ek, .int .i64 ed] 43 (0, 0))).drew := (below_al (below_chain b1 bL) _).drew
      have hfl : ∀ j u, ((r.evs.take p).map evC).flatten[j]? = some u → w.cell? ⟨b0, o0 + j, none⟩ = some u := cells_flat fun i hi => by
        rw [List.length_take] at hi
        rw [getD_take (by omega)]
        have := hcs i (by omega)
        exact ⟨this.1, this.2.1⟩
      have hfd : ∀ j u, ((r.evs.drop p).map evC).flatten[j]? = some u → w.cell? ⟨b0, o0 + p * 2 + j, none⟩ = some u := cells_flat fun i hi => by
        rw [List.length_drop] at hi
        rw [getD_drop]
        have := hcs (p + i) (by omega)
        rw [show o0 + p * 2 + i * 2 = o0 + (p + i) * 2 by omega]
        exact ⟨this.1, this.2.1⟩
      have HOLDS : ∀ bb, some (⟨b0, o0, none⟩ : Addr) = some bb → ∀ j u, ((r.evs.take p).map evC).flatten[j]? = some u → (wL.alloc (.cells #[.int .i64 ek, .int .i64 ed] 43 (0, 0))).drew.cell? (bb.add j) = some u := by
        intro bb hbb j u hj
        obtain rfl := Option.some.inj hbb
        rw [Addr.add_lit]
        exact (bA.cell (p := ⟨b0, o0 + j, none⟩) hb0).trans (hfl j u hj)
      have HNEWS : ∀ j u, [Value.int .i64 ek, .int .i64 ed][j]? = some u → (wL.alloc (.cells #[.int .i64 ek, .int .i64 ed] 43 (0, 0))).drew.cell? ((⟨wL.heap.size, 0, none⟩ : Addr).add j) = some u := by
        intro j u hj
        rw [Addr.add_lit]
        exact (blk_cell (box_new wL _) _).trans (by simpa using hj)
      have hlt : ((r.evs.take p).map evC).flatten.length = p * 2 := by rw [flat_evs_len, List.length_take]; congr 1; omega
      have hw2 : w.heap.size + 3 ≤ w2.heap.size := by omega
      have hs2 : w2.heap.size < wL.heap.size := (Array.getElem?_eq_some_iff.1 L).1
      have HFD := Lib.hid hfd
      clear hfl hfd
      go_region_held3 (fun w' => w'.cell? ⟨w.heap.size, 3, none⟩ = some (.slice (some ⟨b0, o0, none⟩) r.evs.length c1) ∧ w'.cell? ⟨w.heap.size + 1, 0, none⟩ = some (.int .i64 ek) ∧ w'.cell? ⟨w.heap.size + 1, 1, none⟩ = some (.int .i64 ed))
        (first | exact ⟨k3, e0, e1⟩ | exact ⟨below_al_cell k3 _, below_al_cell e0 _, below_al_cell e1 _⟩ | exact ⟨k33, e33, e34⟩ | (refine ⟨?_, ?_, ?_⟩ <;> (rw [World.cell?_setCell_far _ _ _ _ (by simp; omega)]; assumption)))
        (first | (refine step_append_grows rfl _ _ _ rfl 43 i0 (.agg #[.int .i64 0, .int .i64 0]) 2 16 Try.underlying24 hi hz0 hz1 hz2 rfl (by decide) (some ⟨b0, o0, none⟩) p p ((r.evs.take p).map evC).flatten (by rfl) (fun h => by cases h) hlt HOLDS ⟨wL.heap.size, 0, none⟩ 1 1 [.int .i64 ek, .int .i64 ed] (by rfl) rfl HNEWS (by simp [Value.oneCell']) (by omega) (by unfold maxLen; omega) (by omega) ?_; intro v3 w3 hown hgrow; have b3 := below_of_grow hgrow (Nat.le_refl _) (fun k h => by cases h); have k33 := cell_keptd (below_al_cell k3 _) b3; have e33 := cell_keptd (below_al_cell e0 _) b3; have e34 := cell_keptd (below_al_cell e1 _) b3; have L3 := box_kept (show (wL.alloc (.cells #[.int .i64 ek, .int .i64 ed] 43 (0, 0))).drew.heap[w2.heap.size]? = _ from box_al L _) b3; have l33 := box_cell L3 3 rfl; have fr3 := blk_frozen L3 3; obtain ⟨g, cap, rfl, hg1⟩ := own_form hown (by omega); have HOWN := Lib.hid hown; have HB3 := Lib.hid b3; clear hown hgrow b3))
      clear HOLDS HNEWS k3 e0 e1 e33 e34
      go_wp2_with fail
      have b3 := HB3.out
      have Z3 := box_kept (show (wL.alloc (.cells #[.int .i64 ek, .int .i64 ed] 43 (0, 0))).drew.heap[w.heap.size + 1 + 1]? = _ from box_al Z _) b3
      have Z6 := (Below.heap_setCell w3 ⟨w2.heap.size, 3, none⟩ (.slice (some ⟨g, 0, none⟩) (p + 1) cap) (w.heap.size + 1 + 1) (by simp; omega)).trans Z3
      clear Z Z3
      have bW3 := below_chain bA b3
      have b6' := bW3.setCell (p := ⟨w2.heap.size, 3, none⟩) (by simp; omega) (.slice (some ⟨g, 0, none⟩) (p + 1) cap)
      have l0 := (setCell_other (w := w3) (.slice (some ⟨g, 0, none⟩) (p + 1) cap) (by simp : (⟨w2.heap.size, 3, none⟩ : Addr) ≠ ⟨w2.heap.size, 0, none⟩)).trans (box_cell L3 0 rfl)
      have l1 := (setCell_other (w := w3) (.slice (some ⟨g, 0, none⟩) (p + 1) cap) (by simp : (⟨w2.heap.size, 3, none⟩ : Addr) ≠ ⟨w2.heap.size, 1, none⟩)).trans (box_cell L3 1 rfl)
      have l2 := (setCell_other (w := w3) (.slice (some ⟨g, 0, none⟩) (p + 1) cap) (by simp : (⟨w2.heap.size, 3, none⟩ : Addr) ≠ ⟨w2.heap.size, 2, none⟩)).trans (box_cell L3 2 rfl)
      have l3 := setCell_same (.slice (some ⟨g, 0, none⟩) (p + 1) cap) l33
      have k36 := (World.cell?_setCell_far w3 ⟨w2.heap.size, 3, none⟩ ⟨w.heap.size, 3, none⟩ (.slice (some ⟨g, 0, none⟩) (p + 1) cap) (by simp; omega)).trans k33
      have fr6 : (w3.setCell ⟨w2.heap.size, 3, none⟩ (.slice (some ⟨g, 0, none⟩) (p + 1) cap)).frozen? ⟨w2.heap.size, 3, none⟩ = false := by rw [World.frozen?_setCell]; exact fr3
      have hAsz : w2.heap.size < (wL.alloc (.cells #[.int .i64 ek, .int .i64 ed] 43 (0, 0))).drew.heap.size := by simp; omega
      have ho6 := ownsRow_setCell_below HOWN.out (a := ⟨w2.heap.size, 3, none⟩) hAsz (.slice (some ⟨g, 0, none⟩) (p + 1) cap)
      have ho6' := ownsRow_base_a' ho6 (base' := w2.heap.size + 1) (by simp; omega)
      have s6 : w2.heap.size + 1 ≤ (w3.setCell ⟨w2.heap.size, 3, none⟩ (.slice (some ⟨g, 0, none⟩) (p + 1) cap)).heap.size := by have := b3.size; simp at this; simp; omega
      have HO6 := Lib.hid ho6'
      clear ho6 ho6' b3 bW3 fr3 k33 L3 l33 HB3 HOWN hlt bA hAsz L bL hg1
      generalize w3.setCell ⟨w2.heap.size, 3, none⟩ (.slice (some ⟨g, 0, none⟩) (p + 1) cap) = w6 at *
      obtain ⟨ad, hAD, hfd6⟩ : ∃ ad : Addr, (if c1 = p then some (⟨b0, o0, none⟩ : Addr) else some ⟨b0, o0 + p * 2, none⟩) = some ad ∧ ∀ j u, ((r.evs.drop p).map evC).flatten[j]? = some u → w6.drew.cell? (ad.add j) = some u := by
        by_cases hcp : c1 = p
        · refine ⟨_, if_pos hcp, fun j u hj => ?_⟩
          rw [List.drop_eq_nil_of_le (by omega)] at hj
          simp at hj
        · refine ⟨_, if_neg hcp, fun j u hj => ?_⟩
          rw [Addr.add_lit]
          exact (b6'.drew.cell (p := ⟨b0, o0 + p * 2 + j, none⟩) hb0).trans (HFD.out j u hj)
      have hx6 : Value.slice (if c1 = p then some (⟨b0, o0, none⟩ : Addr) else some ⟨b0, o0 + p * 2, none⟩) (r.evs.length - p) (c1 - p) = .slice (some ad) (r.evs.length - p) (c1 - p) := by rw [hAD]
      have hld : ((r.evs.drop p).map evC).flatten.length = (r.evs.length - p) * 2 := by rw [flat_evs_len, List.length_drop]
      have hone : ∀ u ∈ ((r.evs.drop p).map evC).flatten, u.oneCell' = true := evs_one _
      have HX6 := Lib.hid hx6
      have HFD6 := Lib.hid hfd6
      clear HFD hx6 hAD hfd6
      go_region_law (first | (rw [if_pos (by rfl)]; refine wp_append_own _ _ _ _ rfl (w2.heap.size + 1) 43 i0 (.agg #[.int .i64 0, .int .i64 0]) 2 16 Try.underlying24 hi hz0 hz1 hz2 rfl (by decide) _ (p + 1) _ rfl (show w6.drew.ownsRow _ _ _ _ _ _ from HO6.out) ad (r.evs.length - p) (c1 - p) _ HX6.out hld HFD6.out hone (by unfold maxLen; omega) (by omega) s6 ?_; intro v7 w7 hown7 hgrow7 _; have b7 : Below (w2.heap.size + 1) w6.drew w7 := below_of_grow hgrow7 s6 (fun k hk => (HO6.out.lt k hk).1); replace l0 := (b7.cell (p := ⟨w2.heap.size, 0, none⟩) (Nat.lt_succ_self _)).trans l0; replace l1 := (b7.cell (p := ⟨w2.heap.size, 1, none⟩) (Nat.lt_succ_self _)).trans l1; replace l2 := (b7.cell (p := ⟨w2.heap.size, 2, none⟩) (Nat.lt_succ_self _)).trans l2; replace l3 := (b7.cell (p := ⟨w2.heap.size, 3, none⟩) (Nat.lt_succ_self _)).trans l3; replace fr6 := (b7.frozen (p := ⟨w2.heap.size, 3, none⟩) (Nat.lt_succ_self _)).trans fr6; obtain ⟨g7, cap7, rfl, hg7⟩ := own_form hown7 (by omega); have HOWN7 := Lib.hid hown7; have HB7 := Lib.hid b7; clear hown7 hgrow7 b7))
      all_goals go_wp2_with fail
      all_goals
        have b7 := HB7.out
        have Z7 := (b7.block (w.heap.size + 1 + 1) (by omega)).trans Z6
        have Z8 := (Below.heap_setCell w7 ⟨w2.heap.size, 3, none⟩ (.slice (some ⟨g7, 0, none⟩) (p + 1 + (r.evs.length - p)) cap7) (w.heap.size + 1 + 1) (by simp; omega)).trans Z7
        have m0 := (setCell_other (w := w7) (.slice (some ⟨g7, 0, none⟩) (p + 1 + (r.evs.length - p)) cap7) (by simp : (⟨w2.heap.size, 3, none⟩ : Addr) ≠ ⟨w2.heap.size, 0, none⟩)).trans l0
        have m1 := (setCell_other (w := w7) (.slice (some ⟨g7, 0, none⟩) (p + 1 + (r.evs.length - p)) cap7) (by simp : (⟨w2.heap.size, 3, none⟩ : Addr) ≠ ⟨w2.heap.size, 1, none⟩)).trans l1
        have m2 := (setCell_other (w := w7) (.slice (some ⟨g7, 0, none⟩) (p + 1 + (r.evs.length - p)) cap7) (by simp : (⟨w2.heap.size, 3, none⟩ : Addr) ≠ ⟨w2.heap.size, 2, none⟩)).trans l2
        have m3 := setCell_same (.slice (some ⟨g7, 0, none⟩) (p + 1 + (r.evs.length - p)) cap7) l3
        have ho8 := ownsRow_setCell_below HOWN7.out (a := ⟨w2.heap.size, 3, none⟩) (Nat.lt_succ_self _) (.slice (some ⟨g7, 0, none⟩) (p + 1 + (r.evs.length - p)) cap7)
        have b8 := ((b6'.drew.trans (b7.mono (by omega))).setCell (p := ⟨w2.heap.size, 3, none⟩) (by simp; omega) (.slice (some ⟨g7, 0, none⟩) (p + 1 + (r.evs.length - p)) cap7))
        have HO8 := Lib.hid ho8
        clear ho8 b7 Z7 Z6 l0 l1 l2 l3 fr6 HB7 HOWN7
        generalize w7.setCell ⟨w2.heap.size, 3, none⟩ (.slice (some ⟨g7, 0, none⟩) (p + 1 + (r.evs.length - p)) cap7) = w8 at *
        have hins : insEv r.evs ⟨ek, ed⟩ = r.evs.take p ++ (⟨ek, ed⟩ : Ev) :: r.evs.drop p := by unfold insEv; rw [HP.out]
        have hil : (insEv r.evs ⟨ek, ed⟩).length = p + 1 + (r.evs.length - p) := by rw [insEv_len]; omega
        have hown : Own (w2.heap.size + 1) 43 2 w8 (.slice (some ⟨g7, 0, none⟩) (p + 1 + (r.evs.length - p)) cap7) ((insEv r.evs ⟨ek, ed⟩).map evC) := by
          refine ⟨?_, by simp [evC]⟩
          have := HO8.out
          rw [List.length_map, hil, hins]
          simpa [evC] using this
        have hall : ∀ a ∈ insEv r.evs ⟨ek, ed⟩, a.ok := ins_all H1.out.evs_ok hek
        have hevs : EvsO w.heap.size w8.heap.size w8 (.slice (some ⟨g7, 0, none⟩) (p + 1 + (r.evs.length - p)) cap7) (insEv r.evs ⟨ek, ed⟩) := ⟨hown.lower (by omega), hall, hown.under⟩
        have hrec : ∀ W', Below w8.heap.size w8 W' → RecO w.heap.size w8.heap.size W' (.agg #[.int .i64 r.id, .int .i64 r.series, .int .i64 r.made, .slice (some ⟨g7, 0, none⟩) (p + 1 + (r.evs.length - p)) cap7]) { r with evs := insEv r.evs ⟨ek, ed⟩ } := fun W' hb => ⟨_, rfl, hevs.below hb, HOK.out⟩
        have HREC := Lib.hid hrec
        have HGE := Lib.hid hown
        clear hrec hevs hall hown hil hins
        refine (implIsRecord_any _ { r with evs := insEv r.evs ⟨ek, ed⟩ } _ (HREC.out _ (Below.refl _ _)).toV).mono ?_
        rw [HO.out]
        rintro en w9 ⟨rfl, b9⟩
        have z := box_kept Z8 b9
        have z0 := box_cell z 0 rfl; have y0 := blk_frozen z 0; have z1 := box_cell z 1 rfl; have y1 := blk_frozen z 1; have z2 := box_cell z 2 rfl; have y2 := blk_frozen z 2; have z3 := box_cell z 3 rfl; have y3 := blk_frozen z 3
        replace m0 := cell_kept m0 b9
        replace m1 := cell_kept m1 b9
        replace m2 := cell_kept m2 b9
        replace m3 := cell_kept m3 b9
        have bw := b8.trans (b9.mono b8.size)
        have s28 := b8.size
        have s89 := b9.size
        simp at z0 z1 z2 z3 y0 y1 y2 y3
        clear z Z8
        cases bo
        · have hh := HRES.out
          rw [if_neg (by simp)] at hh
          obtain ⟨rfl, rfl⟩ := Prod.mk.inj hh
          clear hh HRES
          go_wp2_with fail
          refine bodyPost_ret (v := .tuple #[.agg #[.int .i64 0, .int .i64 0, .int .i64 0, .slice none 0 0], .bool false]) (by simp [results, Try.results76, go_sem, z0, z1, z2, z3]) rfl ⟨_, rfl, rec0 _ _ _, ?_⟩
          exact (((bw.setCell (by simp; omega) _).setCell (by simp; omega) _).setCell (by simp; omega) _).setCell (by simp; omega) _
        · have hh := HRES.out
          rw [if_pos (by simp)] at hh
          obtain ⟨rfl, rfl⟩ := Prod.mk.inj hh
          clear hh HRES
          go_wp2_with fail
          refine bodyPost_ret (v := .tuple #[.agg #[.int .i64 r.id, .int .i64 r.series, .int .i64 r.made, .slice (some ⟨g7, 0, none⟩) (p + 1 + (r.evs.length - p)) cap7], .bool true]) (by simp [results, Try.results76, go_sem, z0, z1, z2, z3]) rfl ⟨_, rfl, ?_, ?_⟩
          · refine ⟨_, rfl, ?_, HOK.out⟩
            have h9 : EvsO (w2.heap.size + 1) w9.heap.size w9 (.slice (some ⟨g7, 0, none⟩) (p + 1 + (r.evs.length - p)) cap7) (insEv r.evs ⟨ek, ed⟩) := ⟨HGE.out.below b9, (ins_all H1.out.evs_ok hek), (HGE.out.below b9).under⟩
            exact ((((h9.far (by simp; omega) _).far (by simp; omega) _).far (by simp; omega) _).far (by simp; omega) _).wide (by omega) (by simp)
          · exact (((bw.setCell (by simp; omega) _).setCell (by simp; omega) _).setCell (by simp; omega) _).setCell (by simp; omega) _
end Go.Proofs.Ytnfcfinecjgakaa
