/- DropEvent, the program's: the record without an event, in memory of its own. -/
import Derived.Test.YtkhhkgjjhnplcaaAdd
namespace Go.Proofs.Ytkhhkgjjhnplcaa
set_option linter.unusedVariables false
open Go.RowKit Go.Sort

theorem own_slice {lo e size n : Nat} {w : World} {v : Value} {xs : List Value} (h : w.ownsRow lo e size v n xs) : ∃ a m c, v = .slice a m c := by
  rcases h.2 with ⟨rfl, _⟩ | ⟨g, cap, cur, rfl, _⟩
  · exact ⟨_, _, _, rfl⟩
  · exact ⟨_, _, _, rfl⟩

/-- What DropEvent answers. -/
def dropRes (r : Rec) (k : Int) : Rec × Bool := if isRec r = true ∧ foundK r.evs k = true then ({ r with evs := delEv r.evs k }, true) else (recD, false)

set_option maxHeartbeats 2000000 in
theorem implDropEvent_any (v : Value) (r : Rec) (kd : Int) (w : World) (h : RecV w v r) (hkd : inI kd) (out : Rec) (b : Bool) (hres : dropRes r kd = (out, b)) :
    Calls Try.prog 31 #[v, .int .i64 kd] w fun en w' => ∃ v', en = .returned (.tuple #[v', .bool b]) ∧ RecO w.heap.size w'.heap.size w' v' out ∧ Below w.heap.size w w' := by
  obtain ⟨i0, hi, hz0, hz1, hz2⟩ := info_parts Try.info_event
  obtain ⟨s, rfl, h1, hok⟩ := h
  have hV : ∀ W, Below w.heap.size w W → RecV W (.agg #[.int .i64 r.id, .int .i64 r.series, .int .i64 r.made, s]) r := fun W hb => ⟨s, rfl, h1.below rEv_stable hb, hok⟩
  have HV := Lib.hid hV
  obtain ⟨a1, c1, rfl, hl1, hm1, r1⟩ := h1.evs
  have R1 := Lib.hid r1
  have H1 := Lib.hid h1
  have HOK := Lib.hid hok
  clear hV hok h1 r1
  unfold maxLen at hm1
  obtain ⟨br, hr⟩ : ∃ b, isRec r = b := ⟨_, rfl⟩
  unfold dropRes at hres
  rw [hr] at hres
  have HR := Lib.hid hr
  cases br
  · rw [if_neg (by simp)] at hres
    obtain ⟨rfl, rfl⟩ := Prod.mk.inj hres
    clear hres hr
    go_enter Try.func31, Try.ntmps31
    go_wp2_with fail
    refine (implIsRecord_any _ r _ (HV.out _ (below_al (below_al (Below.refl _ _) _) _))).mono ?_
    rw [HR.out]
    rintro en w1 ⟨rfl, b1⟩
    have z := box_kept (box_new _ _) b1
    have z0 := box_cell z 0 rfl
    have y0 := blk_frozen z 0
    have z1 := box_cell z 1 rfl
    have y1 := blk_frozen z 1
    have z2 := box_cell z 2 rfl
    have y2 := blk_frozen z 2
    have z3 := box_cell z 3 rfl
    have y3 := blk_frozen z 3
    simp at z0 z1 z2 z3 y0 y1 y2 y3
    clear z
    go_wp2_with fail
    have bw := below_chain (below_al (below_al (Below.refl w.heap.size w) _) _) b1
    refine bodyPost_ret (v := .tuple #[.agg #[.int .i64 0, .int .i64 0, .int .i64 0, .slice none 0 0], .bool false]) (by simp [results, Try.results31, go_sem, z0, z1, z2, z3]) rfl ⟨_, rfl, rec0 _ _ _, ?_⟩
    exact (((bw.setCell (by simp <;> omega) _).setCell (by simp <;> omega) _).setCell (by simp <;> omega) _).setCell (by simp <;> omega) _
  · have hsn := isRec_sorted hr
    have hlen := (isRec_iff.1 hr).2.2.2.1
    have HS := Lib.hid hsn
    obtain ⟨f, hf⟩ : ∃ f, foundK r.evs kd = f := ⟨_, rfl⟩
    obtain ⟨p, hp⟩ : ∃ p, placeK r.evs kd = p := ⟨_, rfl⟩
    rw [hf] at hres
    have hpf : foundK r.evs kd = (decide (p < r.evs.length) && decide ((r.evs.getD p evD).kind = kd)) := by unfold foundK; rw [hp]
    rw [hf] at hpf
    have HF := Lib.hid hf
    have HP := Lib.hid hp
    clear hr hsn hf hp
    have hstart : True := trivial
    cases f
    · rw [if_neg (by simp)] at hres
      obtain ⟨rfl, rfl⟩ := Prod.mk.inj hres
      clear hres hpf
      go_enter Try.func31, Try.ntmps31
      go_wp2_with fail
      refine (implIsRecord_any _ r _ (HV.out _ (below_al (below_al (Below.refl _ _) _) _))).mono ?_
      rw [HR.out]
      rintro en w1 ⟨rfl, b1⟩
      have K := box_kept (box_al (box_new w _) _) b1
      have z := box_kept (box_new _ _) b1
      simp at z
      have k0 := box_cell K 0 rfl
      have k1 := box_cell K 1 rfl
      have k2 := box_cell K 2 rfl
      have k3 := box_cell K 3 rfl
      have b10 : w.heap.size + 2 ≤ w1.heap.size := by have := b1.size; simp at this; omega
      replace b1 := below_chain (below_al (below_al (Below.refl w.heap.size w) _) _) b1
      clear K
      go_wp2_with fail
      refine (placeOfKind_any _ r.evs kd _ (H1.out.below rEv_stable b1) HS.out hkd (by omega)).mono ?_
      rw [HP.out, HF.out]
      rintro en w2 ⟨rfl, b2⟩
      replace z := box_kept z b2
      replace k0 := cell_kept k0 b2
      replace k1 := cell_kept k1 b2
      replace k2 := cell_kept k2 b2
      replace k3 := cell_kept k3 b2
      replace b10 := Nat.le_trans b10 b2.size
      replace b1 := below_chain b1 b2
      have z0 := box_cell z 0 rfl
      have y0 := blk_frozen z 0
      have z1 := box_cell z 1 rfl
      have y1 := blk_frozen z 1
      have z2 := box_cell z 2 rfl
      have y2 := blk_frozen z 2
      have z3 := box_cell z 3 rfl
      have y3 := blk_frozen z 3
      clear z
      go_wp2_with fail
      have bw := b1
      refine bodyPost_ret (v := .tuple #[.agg #[.int .i64 0, .int .i64 0, .int .i64 0, .slice none 0 0], .bool false]) (by simp [results, Try.results31, go_sem, z0, z1, z2, z3]) rfl ⟨_, rfl, rec0 _ _ _, ?_⟩
      exact (((bw.setCell (by simp <;> omega) _).setCell (by simp <;> omega) _).setCell (by simp <;> omega) _).setCell (by simp <;> omega) _
    · rw [if_pos (by simp)] at hres
      obtain ⟨rfl, rfl⟩ := Prod.mk.inj hres
      have hlt : p < r.evs.length := by have := hpf.symm; simp at this; exact this.1
      have hne : r.evs ≠ [] := fun h => by rw [h] at hlt; simp at hlt
      have gp0 : (0 : Int) ≤ (p : Int) := by omega
      have gp1 : (p : Int) ≤ (r.evs.length : Int) := by omega
      have gp2 : (p : Int) ≤ (c1 : Int) := by omega
      have gp3 : (p : Int) + 1 ≤ (r.evs.length : Int) := by omega
      have gp4 : (p : Int) + 1 ≤ (c1 : Int) := by omega
      have gpw : IntKind.i64.wrap ((p : Int) + 1) = (p : Int) + 1 := Go.IntWalk.i64_in _ (by omega)
      have gp5 : (0 : Int) ≤ (p : Int) + 1 := by omega
      have gp6 : ((p : Int) + 1).toNat = p + 1 := by omega
      clear hres hpf
      obtain ⟨b0, o0, hb0, rfl, hcs⟩ := R1.out.resolve_left hne
      clear hne
      have hfl : ∀ W, Below w.heap.size w W → ∀ j u, ((r.evs.take p).map evC).flatten[j]? = some u → W.cell? ((⟨b0, o0, none⟩ : Addr).add j) = some u := by
        intro W hb j u hj
        rw [Addr.add_lit]
        refine cell_kept (cells_flat (b := b0) (o := o0) (fun i hi => ?_) j u hj) hb
        rw [List.length_take] at hi
        rw [getD_take (by omega)]
        have := hcs i (by omega)
        exact ⟨this.1, this.2.1⟩
      obtain ⟨ad, hAD, hfd⟩ : ∃ ad : Addr, (if c1 = p + 1 then some (⟨b0, o0, none⟩ : Addr) else some ⟨b0, o0 + (p + 1) * 2, none⟩) = some ad ∧ ∀ W, Below w.heap.size w W → ∀ j u, ((r.evs.drop (p + 1)).map evC).flatten[j]? = some u → W.cell? (ad.add j) = some u := by
        by_cases hcp : c1 = p + 1
        · refine ⟨_, if_pos hcp, fun W _ j u hj => ?_⟩
          rw [List.drop_eq_nil_of_le (by omega)] at hj
          simp at hj
        · refine ⟨_, if_neg hcp, fun W hb j u hj => ?_⟩
          rw [Addr.add_lit]
          refine cell_kept (cells_flat (b := b0) (o := o0 + (p + 1) * 2) (fun i hi => ?_) j u hj) hb
          rw [List.length_drop] at hi
          rw [getD_drop]
          have := hcs (p + 1 + i) (by omega)
          rw [show o0 + (p + 1) * 2 + i * 2 = o0 + (p + 1 + i) * 2 by omega]
          exact ⟨this.1, this.2.1⟩
      have hx6 : Value.slice (if c1 = p + 1 then some (⟨b0, o0, none⟩ : Addr) else some ⟨b0, o0 + (p + 1) * 2, none⟩) (r.evs.length - (p + 1)) (c1 - (p + 1)) = .slice (some ad) (r.evs.length - (p + 1)) (c1 - (p + 1)) := by rw [hAD]
      have hltk : ((r.evs.take p).map evC).flatten.length = p * 2 := by rw [flat_evs_len, List.length_take]; congr 1; omega
      have hld : ((r.evs.drop (p + 1)).map evC).flatten.length = (r.evs.length - (p + 1)) * 2 := by rw [flat_evs_len, List.length_drop]
      have HX6 := Lib.hid hx6
      have HFL := Lib.hid hfl
      have HFD := Lib.hid hfd
      have HCS := Lib.hid hcs
      clear hx6 hAD hfl hfd hcs
      by_cases hp0 : p = 0
      · have HP0 := Lib.hid hp0
        clear hp0
        go_enter Try.func31, Try.ntmps31
        go_wp2_with fail
        refine (implIsRecord_any _ r _ (HV.out _ (below_al (below_al (Below.refl _ _) _) _))).mono ?_
        rw [HR.out]
        rintro en w1 ⟨rfl, b1⟩
        have K := box_kept (box_al (box_new w _) _) b1
        have z := box_kept (box_new _ _) b1
        simp at z
        have k0 := box_cell K 0 rfl
        have k1 := box_cell K 1 rfl
        have k2 := box_cell K 2 rfl
        have k3 := box_cell K 3 rfl
        have b10 : w.heap.size + 2 ≤ w1.heap.size := by have := b1.size; simp at this; omega
        replace b1 := below_chain (below_al (below_al (Below.refl w.heap.size w) _) _) b1
        clear K
        go_wp2_with fail
        refine (placeOfKind_any _ r.evs kd _ (H1.out.below rEv_stable b1) HS.out hkd (by omega)).mono ?_
        rw [HP.out, HF.out]
        rintro en w2 ⟨rfl, b2⟩
        replace z := box_kept z b2
        replace k0 := cell_kept k0 b2
        replace k1 := cell_kept k1 b2
        replace k2 := cell_kept k2 b2
        replace k3 := cell_kept k3 b2
        replace b10 := Nat.le_trans b10 b2.size
        replace b1 := below_chain b1 b2
        have k3a : ∀ o, (w2.alloc o).cell? ⟨w.heap.size, 3, none⟩ = some (.slice (some ⟨b0, o0, none⟩) r.evs.length c1) := fun o => below_al_cell k3 o
        have bL : Below w2.heap.size w2 (w2.alloc (.cells #[.int .i64 r.id, .int .i64 r.series, .int .i64 r.made, .slice (some ⟨b0, o0, none⟩) r.evs.length c1] 35 (0, 0))) := below_al (Below.refl _ _) _
        have L : (w2.alloc (.cells #[.int .i64 r.id, .int .i64 r.series, .int .i64 r.made, .slice (some ⟨b0, o0, none⟩) r.evs.length c1] 35 (0, 0))).heap[w2.heap.size]? = some (.cells #[.int .i64 r.id, .int .i64 r.series, .int .i64 r.made, .slice (some ⟨b0, o0, none⟩) r.evs.length c1] 35 (0, 0)) := box_new _ _
        have k3L := k3a (.cells #[.int .i64 r.id, .int .i64 r.series, .int .i64 r.made, .slice (some ⟨b0, o0, none⟩) r.evs.length c1] 35 (0, 0))
        have zL := box_kept z bL
        have bA := below_chain b1 bL
        have hs2 : w2.heap.size < (w2.alloc (.cells #[.int .i64 r.id, .int .i64 r.series, .int .i64 r.made, .slice (some ⟨b0, o0, none⟩) r.evs.length c1] 35 (0, 0))).heap.size := (Array.getElem?_eq_some_iff.1 L).1
        have ZL := Lib.hid zL
        have LL := Lib.hid L
        have KL := Lib.hid k3L
        clear L zL k3L z
        go_wp2_with (first | (at_builtin; refine wpList_append_own _ rfl _ _ 33 rfl (w2.heap.size + 1) 25 i0 (.agg #[.int .i64 0, .int .i64 0]) 2 16 Try.underlying33 hi hz0 hz1 hz2 rfl (by decide) (.slice none 0 0) 0 [] (by rfl) (World.ownsRow_nil _ _ _ _) ⟨b0, o0, none⟩ p c1 _ (by rfl) hltk (HFL.out _ bA) (evs_one _) (by unfold maxLen; omega) (by omega) (by omega) ?_; intro v3 w3 hown hgrow hiff; have b3 := below_of_grow hgrow (Nat.le_refl _) (fun k h => by cases h); have k33 := cell_kept KL.out b3; have L3 := box_kept LL.out b3; have l33 := box_cell L3 3 rfl; have fr3 := blk_frozen L3 3; rw [Nat.zero_add, List.nil_append] at hown; obtain rfl : v3 = .slice none 0 0 := hiff.2 ⟨rfl, HP0.out⟩; have HOWN := Lib.hid hown; have HB3 := Lib.hid b3; clear hown hgrow b3 hiff))
        clear k3a
        have b3 := HB3.out
        have Z3 := box_kept ZL.out b3
        have Z6 := (Below.heap_setCell w3 ⟨w2.heap.size, 3, none⟩ (.slice none 0 0) (w.heap.size + 1) (by simp; omega)).trans Z3
        clear ZL Z3
        have bW3 := below_chain bA b3
        have b6' := bW3.setCell (p := ⟨w2.heap.size, 3, none⟩) (by simp; omega) (.slice none 0 0)
        have l0 := (setCell_other (w := w3) (.slice none 0 0) (by simp : (⟨w2.heap.size, 3, none⟩ : Addr) ≠ ⟨w2.heap.size, 0, none⟩)).trans (box_cell L3 0 rfl)
        have l1 := (setCell_other (w := w3) (.slice none 0 0) (by simp : (⟨w2.heap.size, 3, none⟩ : Addr) ≠ ⟨w2.heap.size, 1, none⟩)).trans (box_cell L3 1 rfl)
        have l2 := (setCell_other (w := w3) (.slice none 0 0) (by simp : (⟨w2.heap.size, 3, none⟩ : Addr) ≠ ⟨w2.heap.size, 2, none⟩)).trans (box_cell L3 2 rfl)
        have l3 := setCell_same (.slice none 0 0) l33
        have k36 := (World.cell?_setCell_far w3 ⟨w2.heap.size, 3, none⟩ ⟨w.heap.size, 3, none⟩ (.slice none 0 0) (by simp; omega)).trans k33
        have fr6 : (w3.setCell ⟨w2.heap.size, 3, none⟩ (.slice none 0 0)).frozen? ⟨w2.heap.size, 3, none⟩ = false := by rw [World.frozen?_setCell]; exact fr3
        have ho6' := ownsRow_setCell_below HOWN.out (a := ⟨w2.heap.size, 3, none⟩) (Nat.lt_succ_self _) (.slice none 0 0)
        have s6 : w2.heap.size + 1 ≤ (w3.setCell ⟨w2.heap.size, 3, none⟩ (.slice none 0 0)).heap.size := by have := b3.size; simp at this; simp; omega
        have HO6 := Lib.hid ho6'
        clear ho6' b3 bW3 fr3 k33 L3 l33 HB3 HOWN hltk bA LL KL bL hs2
        generalize w3.setCell ⟨w2.heap.size, 3, none⟩ (.slice none 0 0) = w6 at *
        go_region_law (first | (rw [if_pos (by rfl)]; refine wp_append_own _ _ _ _ rfl (w2.heap.size + 1) 25 i0 (.agg #[.int .i64 0, .int .i64 0]) 2 16 Try.underlying33 hi hz0 hz1 hz2 rfl (by decide) _ p _ rfl (show w6.drew.ownsRow _ _ _ _ _ _ from HO6.out) ad (r.evs.length - (p + 1)) (c1 - (p + 1)) _ HX6.out hld (HFD.out _ b6'.drew) (evs_one _) (by unfold maxLen; omega) (by omega) s6 ?_; intro v7 w7 hown7 hgrow7 hiff7; have b7 : Below (w2.heap.size + 1) w6.drew w7 := below_of_grow hgrow7 s6 (fun k hk => (HO6.out.lt k hk).1); replace l0 := (b7.cell (p := ⟨w2.heap.size, 0, none⟩) (Nat.lt_succ_self _)).trans l0; replace l1 := (b7.cell (p := ⟨w2.heap.size, 1, none⟩) (Nat.lt_succ_self _)).trans l1; replace l2 := (b7.cell (p := ⟨w2.heap.size, 2, none⟩) (Nat.lt_succ_self _)).trans l2; replace l3 := (b7.cell (p := ⟨w2.heap.size, 3, none⟩) (Nat.lt_succ_self _)).trans l3; replace fr6 := (b7.frozen (p := ⟨w2.heap.size, 3, none⟩) (Nat.lt_succ_self _)).trans fr6; obtain ⟨va, vn, vc, rfl⟩ := own_slice hown7; have HOWN7 := Lib.hid hown7; have HB7 := Lib.hid b7; clear hown7 hgrow7 b7 hiff7))
        all_goals
          have b7 := HB7.out
          have Z7 := (b7.block (w.heap.size + 1) (by omega)).trans Z6
          have Z8 := (Below.heap_setCell w7 ⟨w2.heap.size, 3, none⟩ (.slice va vn vc) (w.heap.size + 1) (by simp; omega)).trans Z7
          have m0 := (setCell_other (w := w7) (.slice va vn vc) (by simp : (⟨w2.heap.size, 3, none⟩ : Addr) ≠ ⟨w2.heap.size, 0, none⟩)).trans l0
          have m1 := (setCell_other (w := w7) (.slice va vn vc) (by simp : (⟨w2.heap.size, 3, none⟩ : Addr) ≠ ⟨w2.heap.size, 1, none⟩)).trans l1
          have m2 := (setCell_other (w := w7) (.slice va vn vc) (by simp : (⟨w2.heap.size, 3, none⟩ : Addr) ≠ ⟨w2.heap.size, 2, none⟩)).trans l2
          have m3 := setCell_same (.slice va vn vc) l3
          have ho8 := ownsRow_setCell_below HOWN7.out (a := ⟨w2.heap.size, 3, none⟩) (Nat.lt_succ_self _) (.slice va vn vc)
          have bw := ((b6'.drew.trans (b7.mono (by omega))).setCell (p := ⟨w2.heap.size, 3, none⟩) (by simp; omega) (.slice va vn vc))
          have s28 : w2.heap.size + 1 ≤ (w7.setCell ⟨w2.heap.size, 3, none⟩ (.slice va vn vc)).heap.size := by have := b7.size; simp at this ⊢; omega
          have z0 := box_cell Z8 0 rfl
          have z1 := box_cell Z8 1 rfl
          have z2 := box_cell Z8 2 rfl
          have z3 := box_cell Z8 3 rfl
          have y0 := blk_frozen Z8 0
          have y1 := blk_frozen Z8 1
          have y2 := blk_frozen Z8 2
          have y3 := blk_frozen Z8 3
          have HO8 := Lib.hid ho8
          clear ho8 b7 Z7 Z6 Z8 l0 l1 l2 l3 fr6 HB7 HOWN7
          generalize w7.setCell ⟨w2.heap.size, 3, none⟩ (.slice va vn vc) = w8 at *
          simp at z0 z1 z2 z3 y0 y1 y2 y3 m0 m1 m2 m3
          have hdl : (delEv r.evs kd).length = p + (r.evs.length - (p + 1)) := by unfold delEv; rw [HP.out, List.length_append, List.length_take, List.length_drop]; omega
          have hdel : delEv r.evs kd = r.evs.take p ++ r.evs.drop (p + 1) := by unfold delEv; rw [HP.out]
          have hown : Own (w2.heap.size + 1) 25 2 w8 (.slice va vn vc) ((delEv r.evs kd).map evC) := by
            refine ⟨?_, by simp [evC]⟩
            have := HO8.out
            rw [List.length_map, hdl, hdel]
            simpa [evC] using this
          have hall : ∀ a ∈ delEv r.evs kd, a.ok := del_all (r := r) kd H1.out.evs_ok
          have hevs : EvsO (w2.heap.size + 1) w8.heap.size w8 (.slice va vn vc) (delEv r.evs kd) := ⟨hown, hall, hown.under⟩
          have HEV := Lib.hid hevs
          clear hevs hall hown hdl hdel HO8
          go_wp2_with fail
          all_goals
            refine bodyPost_ret (v := .tuple #[.agg #[.int .i64 r.id, .int .i64 r.series, .int .i64 r.made, .slice va vn vc], .bool true]) (by simp [results, Try.results31, go_sem, z0, z1, z2, z3]) rfl ⟨_, rfl, ⟨_, rfl, ?_, HOK.out⟩, ?_⟩
            · exact ((((HEV.out.far (by simp; omega) _).far (by simp; omega) _).far (by simp; omega) _).far (by simp; omega) _).wide (by omega) (by simp)
            · exact (((bw.setCell (by simp) _).setCell (by simp) _).setCell (by simp) _).setCell (by simp) _
      · have hp1 : 0 < p := by omega
        go_enter Try.func31, Try.ntmps31
        go_wp2_with fail
        refine (implIsRecord_any _ r _ (HV.out _ (below_al (below_al (Below.refl _ _) _) _))).mono ?_
        rw [HR.out]
        rintro en w1 ⟨rfl, b1⟩
        have K := box_kept (box_al (box_new w _) _) b1
        have z := box_kept (box_new _ _) b1
        simp at z
        have k0 := box_cell K 0 rfl
        have k1 := box_cell K 1 rfl
        have k2 := box_cell K 2 rfl
        have k3 := box_cell K 3 rfl
        have b10 : w.heap.size + 2 ≤ w1.heap.size := by have := b1.size; simp at this; omega
        replace b1 := below_chain (below_al (below_al (Below.refl w.heap.size w) _) _) b1
        clear K
        go_wp2_with fail
        refine (placeOfKind_any _ r.evs kd _ (H1.out.below rEv_stable b1) HS.out hkd (by omega)).mono ?_
        rw [HP.out, HF.out]
        rintro en w2 ⟨rfl, b2⟩
        replace z := box_kept z b2
        replace k0 := cell_kept k0 b2
        replace k1 := cell_kept k1 b2
        replace k2 := cell_kept k2 b2
        replace k3 := cell_kept k3 b2
        replace b10 := Nat.le_trans b10 b2.size
        replace b1 := below_chain b1 b2
        have k3a : ∀ o, (w2.alloc o).cell? ⟨w.heap.size, 3, none⟩ = some (.slice (some ⟨b0, o0, none⟩) r.evs.length c1) := fun o => below_al_cell k3 o
        have bL : Below w2.heap.size w2 (w2.alloc (.cells #[.int .i64 r.id, .int .i64 r.series, .int .i64 r.made, .slice (some ⟨b0, o0, none⟩) r.evs.length c1] 35 (0, 0))) := below_al (Below.refl _ _) _
        have L : (w2.alloc (.cells #[.int .i64 r.id, .int .i64 r.series, .int .i64 r.made, .slice (some ⟨b0, o0, none⟩) r.evs.length c1] 35 (0, 0))).heap[w2.heap.size]? = some (.cells #[.int .i64 r.id, .int .i64 r.series, .int .i64 r.made, .slice (some ⟨b0, o0, none⟩) r.evs.length c1] 35 (0, 0)) := box_new _ _
        have k3L := k3a (.cells #[.int .i64 r.id, .int .i64 r.series, .int .i64 r.made, .slice (some ⟨b0, o0, none⟩) r.evs.length c1] 35 (0, 0))
        have zL := box_kept z bL
        have bA := below_chain b1 bL
        have hs2 : w2.heap.size < (w2.alloc (.cells #[.int .i64 r.id, .int .i64 r.series, .int .i64 r.made, .slice (some ⟨b0, o0, none⟩) r.evs.length c1] 35 (0, 0))).heap.size := (Array.getElem?_eq_some_iff.1 L).1
        have ZL := Lib.hid zL
        have LL := Lib.hid L
        have KL := Lib.hid k3L
        clear L zL k3L z
        go_wp2_with (first | (at_builtin; refine wpList_append_own _ rfl _ _ 33 rfl (w2.heap.size + 1) 25 i0 (.agg #[.int .i64 0, .int .i64 0]) 2 16 Try.underlying33 hi hz0 hz1 hz2 rfl (by decide) (.slice none 0 0) 0 [] (by rfl) (World.ownsRow_nil _ _ _ _) ⟨b0, o0, none⟩ p c1 _ (by rfl) hltk (HFL.out _ bA) (evs_one _) (by unfold maxLen; omega) (by omega) (by omega) ?_; intro v3 w3 hown hgrow hiff; have b3 := below_of_grow hgrow (Nat.le_refl _) (fun k h => by cases h); have k33 := cell_kept KL.out b3; have L3 := box_kept LL.out b3; have l33 := box_cell L3 3 rfl; have fr3 := blk_frozen L3 3; rw [Nat.zero_add, List.nil_append] at hown; obtain ⟨g, cap, rfl, hg1⟩ := own_form hown (by omega); have HOWN := Lib.hid hown; have HB3 := Lib.hid b3; clear hown hgrow b3 hiff))
        clear k3a
        have b3 := HB3.out
        have Z3 := box_kept ZL.out b3
        have Z6 := (Below.heap_setCell w3 ⟨w2.heap.size, 3, none⟩ (.slice (some ⟨g, 0, none⟩) p cap) (w.heap.size + 1) (by simp; omega)).trans Z3
        clear ZL Z3
        have bW3 := below_chain bA b3
        have b6' := bW3.setCell (p := ⟨w2.heap.size, 3, none⟩) (by simp; omega) (.slice (some ⟨g, 0, none⟩) p cap)
        have l0 := (setCell_other (w := w3) (.slice (some ⟨g, 0, none⟩) p cap) (by simp : (⟨w2.heap.size, 3, none⟩ : Addr) ≠ ⟨w2.heap.size, 0, none⟩)).trans (box_cell L3 0 rfl)
        have l1 := (setCell_other (w := w3) (.slice (some ⟨g, 0, none⟩) p cap) (by simp : (⟨w2.heap.size, 3, none⟩ : Addr) ≠ ⟨w2.heap.size, 1, none⟩)).trans (box_cell L3 1 rfl)
        have l2 := (setCell_other (w := w3) (.slice (some ⟨g, 0, none⟩) p cap) (by simp : (⟨w2.heap.size, 3, none⟩ : Addr) ≠ ⟨w2.heap.size, 2, none⟩)).trans (box_cell L3 2 rfl)
        have l3 := setCell_same (.slice (some ⟨g, 0, none⟩) p cap) l33
        have k36 := (World.cell?_setCell_far w3 ⟨w2.heap.size, 3, none⟩ ⟨w.heap.size, 3, none⟩ (.slice (some ⟨g, 0, none⟩) p cap) (by simp; omega)).trans k33
        have fr6 : (w3.setCell ⟨w2.heap.size, 3, none⟩ (.slice (some ⟨g, 0, none⟩) p cap)).frozen? ⟨w2.heap.size, 3, none⟩ = false := by rw [World.frozen?_setCell]; exact fr3
        have ho6' := ownsRow_setCell_below HOWN.out (a := ⟨w2.heap.size, 3, none⟩) (Nat.lt_succ_self _) (.slice (some ⟨g, 0, none⟩) p cap)
        have s6 : w2.heap.size + 1 ≤ (w3.setCell ⟨w2.heap.size, 3, none⟩ (.slice (some ⟨g, 0, none⟩) p cap)).heap.size := by have := b3.size; simp at this; simp; omega
        have HO6 := Lib.hid ho6'
        clear ho6' b3 bW3 fr3 k33 L3 l33 HB3 HOWN hltk bA LL KL bL hs2
        generalize w3.setCell ⟨w2.heap.size, 3, none⟩ (.slice (some ⟨g, 0, none⟩) p cap) = w6 at *
        go_region_law (first | (rw [if_pos (by rfl)]; refine wp_append_own _ _ _ _ rfl (w2.heap.size + 1) 25 i0 (.agg #[.int .i64 0, .int .i64 0]) 2 16 Try.underlying33 hi hz0 hz1 hz2 rfl (by decide) _ p _ rfl (show w6.drew.ownsRow _ _ _ _ _ _ from HO6.out) ad (r.evs.length - (p + 1)) (c1 - (p + 1)) _ HX6.out hld (HFD.out _ b6'.drew) (evs_one _) (by unfold maxLen; omega) (by omega) s6 ?_; intro v7 w7 hown7 hgrow7 hiff7; have b7 : Below (w2.heap.size + 1) w6.drew w7 := below_of_grow hgrow7 s6 (fun k hk => (HO6.out.lt k hk).1); replace l0 := (b7.cell (p := ⟨w2.heap.size, 0, none⟩) (Nat.lt_succ_self _)).trans l0; replace l1 := (b7.cell (p := ⟨w2.heap.size, 1, none⟩) (Nat.lt_succ_self _)).trans l1; replace l2 := (b7.cell (p := ⟨w2.heap.size, 2, none⟩) (Nat.lt_succ_self _)).trans l2; replace l3 := (b7.cell (p := ⟨w2.heap.size, 3, none⟩) (Nat.lt_succ_self _)).trans l3; replace fr6 := (b7.frozen (p := ⟨w2.heap.size, 3, none⟩) (Nat.lt_succ_self _)).trans fr6; obtain ⟨va, vn, vc, rfl⟩ := own_slice hown7; have HOWN7 := Lib.hid hown7; have HB7 := Lib.hid b7; clear hown7 hgrow7 b7 hiff7))
        all_goals
          have b7 := HB7.out
          have Z7 := (b7.block (w.heap.size + 1) (by omega)).trans Z6
          have Z8 := (Below.heap_setCell w7 ⟨w2.heap.size, 3, none⟩ (.slice va vn vc) (w.heap.size + 1) (by simp; omega)).trans Z7
          have m0 := (setCell_other (w := w7) (.slice va vn vc) (by simp : (⟨w2.heap.size, 3, none⟩ : Addr) ≠ ⟨w2.heap.size, 0, none⟩)).trans l0
          have m1 := (setCell_other (w := w7) (.slice va vn vc) (by simp : (⟨w2.heap.size, 3, none⟩ : Addr) ≠ ⟨w2.heap.size, 1, none⟩)).trans l1
          have m2 := (setCell_other (w := w7) (.slice va vn vc) (by simp : (⟨w2.heap.size, 3, none⟩ : Addr) ≠ ⟨w2.heap.size, 2, none⟩)).trans l2
          have m3 := setCell_same (.slice va vn vc) l3
          have ho8 := ownsRow_setCell_below HOWN7.out (a := ⟨w2.heap.size, 3, none⟩) (Nat.lt_succ_self _) (.slice va vn vc)
          have bw := ((b6'.drew.trans (b7.mono (by omega))).setCell (p := ⟨w2.heap.size, 3, none⟩) (by simp; omega) (.slice va vn vc))
          have s28 : w2.heap.size + 1 ≤ (w7.setCell ⟨w2.heap.size, 3, none⟩ (.slice va vn vc)).heap.size := by have := b7.size; simp at this ⊢; omega
          have z0 := box_cell Z8 0 rfl
          have z1 := box_cell Z8 1 rfl
          have z2 := box_cell Z8 2 rfl
          have z3 := box_cell Z8 3 rfl
          have y0 := blk_frozen Z8 0
          have y1 := blk_frozen Z8 1
          have y2 := blk_frozen Z8 2
          have y3 := blk_frozen Z8 3
          have HO8 := Lib.hid ho8
          clear ho8 b7 Z7 Z6 Z8 l0 l1 l2 l3 fr6 HB7 HOWN7
          generalize w7.setCell ⟨w2.heap.size, 3, none⟩ (.slice va vn vc) = w8 at *
          simp at z0 z1 z2 z3 y0 y1 y2 y3 m0 m1 m2 m3
          have hdl : (delEv r.evs kd).length = p + (r.evs.length - (p + 1)) := by unfold delEv; rw [HP.out, List.length_append, List.length_take, List.length_drop]; omega
          have hdel : delEv r.evs kd = r.evs.take p ++ r.evs.drop (p + 1) := by unfold delEv; rw [HP.out]
          have hown : Own (w2.heap.size + 1) 25 2 w8 (.slice va vn vc) ((delEv r.evs kd).map evC) := by
            refine ⟨?_, by simp [evC]⟩
            have := HO8.out
            rw [List.length_map, hdl, hdel]
            simpa [evC] using this
          have hall : ∀ a ∈ delEv r.evs kd, a.ok := del_all (r := r) kd H1.out.evs_ok
          have hevs : EvsO (w2.heap.size + 1) w8.heap.size w8 (.slice va vn vc) (delEv r.evs kd) := ⟨hown, hall, hown.under⟩
          have HEV := Lib.hid hevs
          clear hevs hall hown hdl hdel HO8
          go_wp2_with fail
          all_goals
            refine bodyPost_ret (v := .tuple #[.agg #[.int .i64 r.id, .int .i64 r.series, .int .i64 r.made, .slice va vn vc], .bool true]) (by simp [results, Try.results31, go_sem, z0, z1, z2, z3]) rfl ⟨_, rfl, ⟨_, rfl, ?_, HOK.out⟩, ?_⟩
            · exact ((((HEV.out.far (by simp; omega) _).far (by simp; omega) _).far (by simp; omega) _).far (by simp; omega) _).wide (by omega) (by simp)
            · exact (((bw.setCell (by simp) _).setCell (by simp) _).setCell (by simp) _).setCell (by simp) _
end Go.Proofs.Ytkhhkgjjhnplcaa
