/- Formats, the model's: LongestLived. -/
import Derived.Test.YtcfghigmijibeaaFo5W
import Derived.StillTailTactics
import Derived.Deep.DeepCutAuto
namespace Go.Proofs.Ytcfghigmijibeaa
set_option linter.unusedVariables false
open Go.RowKit Go.Sort

theorem place_of {t : List Fo} (ht : areFo t = true) {f : Fo} (hf : f ∈ t) : ∃ p : Nat, foI t f.id = (p : Int) ∧ p < t.length ∧ t.getD p foD = f := by
  obtain ⟨i, hi, rfl⟩ := List.getElem_of_mem hf
  obtain ⟨p, h1, h2, h3⟩ := foI_at (t := t) (x := t[i].id) (hasId_mem.2 (List.mem_map.2 ⟨_, hf, rfl⟩))
  have := ids_ne ht h2 hi (by rw [h3, getFo_lt hi])
  subst this
  exact ⟨p, h1, h2, by rw [getFo_lt hi]⟩
theorem wayL_len (t : List Fo) (x d : Int) : (wayL t x d).length = (wayF t x d).length := by simp [wayF]
theorem wayF_at {t : List Fo} {x d : Int} {k : Nat} (h : k < (wayF t x d).length) : (wayF t x d)[k] = ((wayL t x d).getD k foD).id := by
  rw [getFo_lt (by rw [wayL_len]; exact h)]
  simp [wayF]

set_option maxRecDepth 20000 in
set_option maxHeartbeats 4000000 in
theorem specLongestLived_any (v : Value) (t : List Fo) (x d : Int) (w : World) (h : RowR 4 rFo w v t) (n : Int) (b : Bool) (hres : llRes t x d = (n, b)) :
    Calls Try.prog 36 #[v, .int .i64 x, .int .i64 d] w fun e w' => e = .returned (.tuple #[.int .i64 n, .bool b]) ∧ Below w.heap.size w w' := by
  have H := Lib.hid h
  have hcap := h.cap
  obtain ⟨ws, bw, hwr⟩ : ∃ xs b, wayRes t x d = (xs, b) := ⟨_, _, rfl⟩
  have HWR := Lib.hid hwr
  by_cases hn : areFo t = true ∧ hasId t x = true ∧ dayB d = true
  · obtain ⟨rfl, rfl⟩ := llRes_yes hres hn
    obtain ⟨rfl, rfl⟩ := wayRes_yes hwr hn
    obtain ⟨ht, hin, _⟩ := hn
    have HT := Lib.hid ht
    obtain ⟨L, hL⟩ : ∃ L, wayL t x d = L := ⟨_, rfl⟩
    have hLl : (wayF t x d).length = L.length := by rw [← hL, wayL_len]
    have hpos : 0 < L.length := by rw [← hLl]; exact wayF_pos ht hin
    have hsub : ∀ f ∈ L, f ∈ t := by intro f hf; rw [← hL] at hf; exact (List.mem_filter.1 hf).1
    have HSUB := Lib.hid hsub
    have hfin : t.foldl (llStepC (pathsF t x d)) foM = bestL L L.length := by
      rw [ll_all, show t.filter (fun f => hasK (pathsF t x d) f.id) = L from hL]
      unfold bestL
      rw [List.take_length]
    have hat : ∀ (k : Nat) (h : k < (wayF t x d).length), (wayF t x d)[k] = (L.getD k foD).id := fun k h => by rw [wayF_at h, hL]
    have h10 : L.length ≤ 10 := by rw [← hLl]; exact Nat.le_trans (wayF_len t x d) (fo_iff.1 ht).1
    have htil : ∀ f ∈ L, 0 ≤ f.til := fun f hf => (fo_til ht (hsub f hf)).1
    have HTIL := Lib.hid htil
    have HFIN := Lib.hid hfin
    have HAT := Lib.hid hat
    obtain ⟨a1, c1, rfl, hl1, hm1, r1⟩ := h.fos
    have R1 := Lib.hid r1
    unfold maxLen at hm1
    have hfirst : (bestL L 1).id = (L.getD 0 foD).id := by rw [bestL_one hpos (by rw [getFo_lt hpos]; exact htil _ (List.getElem_mem hpos))]
    have HF1 := Lib.hid hfirst
    clear h hwr hres ht hin hsub hfin hat htil r1 hfirst hL
    go_enter Try.func36, Try.ntmps36
    go_upto_region 2 with (first | (go_at_call 32; refine (specWaysTo_any _ t x d _ H.out _ true HWR.out).mono ?_; rintro e w4 ⟨v4, rfl, ho4, b4⟩; have HO4 := Lib.hid ho4; clear ho4))
    obtain ⟨a2, c2, rfl, hl2, hm2, r2⟩ := HO4.out.row
    unfold maxLen at hm2
    obtain ⟨bW, oW, hbW, rfl, eW⟩ := r2.resolve_left (fun e => by rw [e] at hLl; simp at hLl; omega)
    have EW : Hid (∀ k, k < L.length → w4.cell? ⟨bW, oW + k, none⟩ = some (.int .i64 (L.getD k foD).id)) := Lib.hid (fun k hk => by
      have := eW k (by omega)
      rw [HAT.out k (by omega)] at this
      exact this)
    have c0 := EW.out 0 hpos
    rw [hLl] at hl2
    have p0 : (0 : Int) < (L.length : Int) := by omega
    have s4 := b4.size
    obtain ⟨z0, hz0⟩ : ∃ z, (L.getD 0 foD).id = z := ⟨_, rfl⟩
    rw [hz0] at c0
    have HF1' : Hid ((bestL L 1).id = z0) := Lib.hid (by rw [HF1.out, hz0])
    clear r2 eW hz0 HF1
    simp only [hLl, Nat.add_zero] at c0 ⊢
    go_wp2_with fail
    go_loopw [10, 11] (fun o i wr => ∃ k : Nat, 1 ≤ k ∧ k ≤ L.length ∧ i = .int .i64 k ∧ o = .int .i64 (bestL L k).id ∧ Below w4.heap.size w4 wr) (fun _ i _ => L.length - (Go.RowKit.intOf i).toNat)
    case atStart => exact ⟨1, by omega, hpos, rfl, by rw [HF1'.out], Below.refl _ _⟩
    case round =>
      obtain ⟨k, hk1, hk, rfl, rfl, hb⟩ := hrel
      have hwr := hb.size
      by_cases hlt : k < L.length
      · obtain ⟨f, hf⟩ : ∃ f, L.getD k foD = f := ⟨_, rfl⟩
        obtain ⟨g, hg⟩ : ∃ g, bestL L k = g := ⟨_, rfl⟩
        have kc0 := EW.out k hlt
        rw [hf] at kc0
        have kc := cell_kept kc0 hb
        have hfm : f ∈ t := HSUB.out f (by rw [← hf, getFo_lt hlt]; exact List.getElem_mem hlt)
        have hgm : g ∈ t := HSUB.out g (by rw [← hg]; exact bestL_mem HTIL.out k (by omega) hk)
        obtain ⟨pa, ha1, ha2, ha3⟩ := place_of HT.out hfm
        obtain ⟨pb, hb1, hb2, hb3⟩ := place_of HT.out hgm
        obtain ⟨bR, oR, hbR, rfl, e1⟩ := R1.out.resolve_left (fun e => by rw [e] at ha2; simp at ha2)
        obtain ⟨_, _, _, ra, _⟩ := e1 pa ha2
        obtain ⟨_, _, _, rb, _⟩ := e1 pb hb2
        rw [ha3] at ra
        rw [hb3] at rb
        have hbw := b4.trans (hb.mono s4)
        have fa := cell_kept ra hbw
        have fb := cell_kept rb hbw
        have hsu := bestL_succ hlt
        rw [hf, hg] at hsu
        have HA1 := Lib.hid ha1
        have HB1 := Lib.hid hb1
        have hcA : Calls Try.prog 57 #[.slice (some ⟨bR, oR, none⟩) t.length c1, .int .i64 f.id] wr.drew fun e w'' => e = .returned (.int .i64 (pa : Int)) ∧ w'' = wr.drew := (l7Find_any _ t f.id wr.drew ((H.out.below rFo_stable hbw).below rFo_stable (Below.refl _ _).drew)).mono (by rintro e w2 ⟨rfl, h2⟩; exact ⟨by rw [HA1.out], h2⟩)
        have hcB : Calls Try.prog 57 #[.slice (some ⟨bR, oR, none⟩) t.length c1, .int .i64 g.id] wr.drew fun e w'' => e = .returned (.int .i64 (pb : Int)) ∧ w'' = wr.drew := (l7Find_any _ t g.id wr.drew ((H.out.below rFo_stable hbw).below rFo_stable (Below.refl _ _).drew)).mono (by rintro e w2 ⟨rfl, h2⟩; exact ⟨by rw [HB1.out], h2⟩)
        have g0 : (0 : Int) ≤ (k : Int) := by omega
        have g1 : (k : Int) < (L.length : Int) := by omega
        have a0 : (0 : Int) ≤ (pa : Int) := by omega
        have a1 : (pa : Int) < (t.length : Int) := by omega
        have b0 : (0 : Int) ≤ (pb : Int) := by omega
        have b1 : (pb : Int) < (t.length : Int) := by omega
        obtain ⟨fi, ft, hfi, hft⟩ : ∃ i m, f.id = i ∧ f.til = m := ⟨_, _, rfl, rfl⟩
        obtain ⟨gi, gt, hgi, hgt⟩ : ∃ i m, g.id = i ∧ g.til = m := ⟨_, _, rfl, rfl⟩
        rw [hft] at fa
        rw [hgt] at fb
        have HSU := Lib.hid hsu
        rw [hg, hgi]
        simp only [hfi] at kc hcA
        simp only [hgi] at hcB
        clear kc0 e1 ra rb ha1 hb1 ha3 hb3 hf hg hsu hfm hgm
        by_cases hd : gt < ft
        · have hd1 : decide (gt < ft) = true := decide_eq_true hd
          have HB2 : Hid ((bestL L (k + 1)).id = fi) := Lib.hid (by rw [HSU.out]; unfold llStep; rw [if_pos (by omega)]; exact hfi)
          clear hd
          go_wp2_with fail
          go_still_tail 17, (by kernel_rfl)
          still_call hcA
          repeat still_step
          still_call hcB
          repeat still_step
          try refine wpStill_nil ?_
          change wpList _ _ _ _ _ wr.drew
          generalize hW6 : wr.drew = w6
          have bq : Below wr.heap.size wr w6 := by rw [← hW6]; exact (Below.refl _ _).drew
          clear hcA hcB hW6
          replace kc := cell_kept kc bq
          go_wp2_with fail
          go_roundw
          case rel => exact ⟨k + 1, by omega, by omega, by go_num, by rw [HB2.out], hb.trans (bq.mono hwr)⟩
          case measure => simp [Go.RowKit.intOf]; omega
        · have hd1 : decide (gt < ft) = false := decide_eq_false hd
          have HB2 : Hid ((bestL L (k + 1)).id = gi) := Lib.hid (by rw [HSU.out]; unfold llStep; rw [if_neg (by omega)]; exact hgi)
          clear hd
          go_wp2_with fail
          go_still_tail 17, (by kernel_rfl)
          still_call hcA
          repeat still_step
          still_call hcB
          repeat still_step
          try refine wpStill_nil ?_
          change wpList _ _ _ _ _ wr.drew
          generalize hW6 : wr.drew = w6
          have bq : Below wr.heap.size wr w6 := by rw [← hW6]; exact (Below.refl _ _).drew
          clear hcA hcB hW6
          replace kc := cell_kept kc bq
          go_wp2_with fail
          go_roundw
          case rel => exact ⟨k + 1, by omega, by omega, by go_num, by rw [HB2.out], hb.trans (bq.mono hwr)⟩
          case measure => simp [Go.RowKit.intOf]; omega
      · obtain rfl : k = L.length := by omega
        go_wp2_with fail
        go_ret2
        exact ⟨by rw [HFIN.out]; rfl, b4.trans (hb.mono s4)⟩
  · obtain ⟨rfl, rfl⟩ := llRes_no hres hn
    obtain ⟨rfl, rfl⟩ := wayRes_no hwr hn
    clear h hwr hres hn
    go_enter Try.func36, Try.ntmps36
    go_wp2_with (first | (go_at_call 32; refine (specWaysTo_any _ t x d _ H.out _ false HWR.out).mono ?_; rintro e w4 ⟨v4, rfl, ho4, b4⟩; have HO4 := Lib.hid ho4; clear ho4))
    go_ret2
    exact ⟨rfl, b4⟩
end Go.Proofs.Ytcfghigmijibeaa
