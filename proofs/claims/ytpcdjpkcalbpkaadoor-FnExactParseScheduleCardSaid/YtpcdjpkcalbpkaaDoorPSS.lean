/- The model's ParseSchedule. -/
import Derived.Test.YtpcdjpkcalbpkaaDoorPSR
import Derived.Test.YtpcdjpkcalbpkaaDoorPSP
import Derived.Maps.AppendAt
namespace Go.Proofs.YtpcdjpkcalbpkaaDoor
set_option linter.unusedVariables false
open Go.RowKit Go.Sort

theorem rdS_ok (p : ByteArray) : (rdS p).ok := by
  unfold rdS
  split
  · refine ⟨?_, ?_, ?_, ?_⟩ <;> (unfold inI ruD; simp)
  · simp only
    split
    · refine ⟨numV_in _, numV_in _, numV_in _, ?_⟩
      unfold inI actOf
      simp only
      repeat' split
      all_goals omega
    · refine ⟨?_, ?_, ?_, ?_⟩ <;> (unfold inI ruD; simp)

theorem heap_old (w : World) (o : Obj) (g : Nat) (h : g < w.heap.size) : (w.alloc o).heap[g]? = w.heap[g]? := (below_al (Below.refl w.heap.size w) o).block g h

set_option maxRecDepth 20000 in
set_option maxHeartbeats 4000000 in
theorem specParseSchedule_any (s : ByteArray) (w : World) (hs : s.size ≤ 1099511627) (xs : List Ru) (b : Bool) (hres : psRes s = (xs, b)) :
    Calls Tryd.prog 19 #[.string s] w fun e w' => ∃ v', e = .returned (.tuple #[v', .bool b]) ∧ RusO w.heap.size w'.heap.size w' v' xs ∧ Below w.heap.size w w' := by
  by_cases h0 : s.size = 0
  · have hl : s.data.toList = [] := List.length_eq_zero_iff.1 (by rw [Array.length_toList]; exact h0)
    have hs0 : s = ⟨#[]⟩ := ByteArray.ext (Array.toList_inj.1 hl)
    subst hs0
    unfold psRes at hres
    rw [if_pos h0] at hres
    obtain ⟨rfl, rfl⟩ := Prod.mk.inj hres
    clear hres
    go_enter Tryd.func19, Tryd.ntmps19
    go_wp2_with fail
    go_ret2
    exact ⟨_, rfl, RusO.empty _ (Nat.le_refl _), below_al (Below.refl _ _) _⟩
  · obtain ⟨i0, hi, hz0, hz1, hz2⟩ := info_parts Tryd.info_ru
    have hne : (s.toList == ([] : List UInt8)) = false := by
      have := beq_bytes_nos (a := s) (b := ⟨#[]⟩) (fun e => h0 (by rw [e]; rfl))
      first | exact this | simpa using this
    have hr := (psRes_model h0).symm.trans hres
    have hsp := fun W => specSplitIn_any s 32 W (by omega)
    have hle := fun p (hp : p ∈ spAll s 32) => spAll_le hp
    have hnn := spAll_len s 32
    have hwn := spAll_ne s 32
    unfold psOut at hr
    obtain ⟨ws, hws⟩ : ∃ ws, spAll s 32 = ws := ⟨_, rfl⟩
    rw [hws] at hr hsp hle hnn hwn
    have hwl : 1 ≤ ws.length := List.length_pos_iff.2 hwn
    clear hwn
    have HR := Lib.hid hr
    have HSP := Lib.hid hsp
    have HZ := Lib.hid hle
    clear hres hr hsp hle hws
    go_enter Tryd.func19, Tryd.ntmps19
    go_wp2_with fail
    refine (HSP.out _).mono ?_
    rintro e w1 ⟨v1, rfl, hown, b1⟩
    have hO0 := ownsRow_below (World.ownsRow_made (base := w.heap.size) (e := 30) (size := 4) w #[] 0 (Nat.le_refl _) (Nat.zero_le _) (by simp)) b1
    replace b1 := below_chain (below_al (Below.refl w.heap.size w) _) b1
    rcases hown.2 with ⟨_, hx⟩ | ⟨gw, cw, cur, rfl, hgw, hgs, hnc, hcm, hcs, htw⟩
    · omega
    clear hcs htw
    have qc := hown.cells (g := gw) rfl
    have hgl := (Array.getElem?_eq_some_iff.1 hgs).1
    simp only [World.size_alloc] at hgw
    have hcell : ∀ i (h : i < ws.length) (W : World), W.heap[gw]? = w1.heap[gw]? → W.cell? ⟨gw, i, none⟩ = some (.string ws[i]) := fun i h W hW => by
      have := qc i (.string ws[i]) (by rw [List.getElem?_map, List.getElem?_eq_getElem h]; rfl)
      rw [Addr.add_lit, Nat.zero_add] at this
      exact (World.cell?_of_block (w := w1) hW).trans this
    have HCELL := Lib.hid hcell
    unfold maxLen at hcm
    clear hown HSP qc hcell hgs
    go_wp2_with fail
    go_loopw [4, 6] (fun o i wr => ∃ k : Nat, k ≤ ws.length ∧ k ≤ 9 ∧ i = .int .i64 k ∧ wr.ownsRow w.heap.size 30 4 o k (((ws.take k).map rdS).map ruC).flatten ∧ Below w.heap.size w wr ∧ w1.heap.size ≤ wr.heap.size ∧ Hid (wr.heap[gw]? = w1.heap[gw]? ∧ o.ownBlock ≠ some gw)) (fun _ i _ => ws.length - (intOf i).toNat)
    case atStart => exact ⟨0, Nat.zero_le _, by omega, rfl, by simpa using hO0, b1, Nat.le_refl _, Lib.hid ⟨rfl, by simp [Value.ownBlock]; omega⟩⟩
    case round =>
      clear b1 hO0
      obtain ⟨k, hk, hk9, rfl, hO, hb, hws1, HG⟩ := hrel
      by_cases hgo : k < ws.length ∧ k ≤ 8
      · obtain ⟨hlt, hk8⟩ := hgo
        have q0 := HCELL.out k hlt wr HG.out.1
        obtain ⟨p, hp⟩ : ∃ p, ws[k] = p := ⟨_, rfl⟩
        rw [hp] at q0
        have hpz := HZ.out p (by rw [← hp]; exact List.getElem_mem hlt)
        have htk : ws.take (k + 1) = ws.take k ++ [p] := by rw [take_succ_snoc ws k hlt, hp]
        obtain ⟨⟨x0, x1, x2, x3⟩, hx⟩ : ∃ r, rdS p = r := ⟨_, rfl⟩
        have hsn : (((ws.take (k + 1)).map rdS).map ruC).flatten = (((ws.take k).map rdS).map ruC).flatten ++ [.int .i64 x0, .int .i64 x1, .int .i64 x2, .int .i64 x3] := by
          rw [htk, List.map_append, List.map_append, List.flatten_append]
          simp [hx, ruC]
        have hcon := fun W => l4Read_any p W (by omega)
        rw [hx] at hcon
        have HC := Lib.hid hcon
        have HSN := Lib.hid hsn
        have HO := Lib.hid hO
        have g0 : (0 : Int) ≤ (k : Int) := by omega
        have g1 : (k : Int) < (ws.length : Int) := by omega
        have g8 : (k : Int) ≤ 8 := by omega
        have hsz := hb.size
        clear hp htk hx hsn hcon hO
        go_wp2_with fail
        refine (HC.out _).mono ?_
        rintro e w2 ⟨rfl, b2⟩
        have hb2 := below_chain hb b2
        have hg2 := (b2.block gw (by omega)).trans HG.out.1
        have HG2 := Lib.hid hg2
        have hO2 := ownsRow_below HO.out b2
        have hs2 := b2.size
        clear b2 hg2
        go_wp2_with (first | (at_builtin; refine wpList_append_own_at _ rfl _ _ 26 rfl w.heap.size 30 i0 (.agg #[.int .i64 0, .int .i64 0, .int .i64 0, .int .i64 0]) 4 32 Tryd.underlying26 hi hz0 hz1 hz2 rfl (by decide) _ _ _ rfl (hO2.alloc _) ⟨w2.heap.size, 0, none⟩ 1 1 [.int .i64 x0, .int .i64 x1, .int .i64 x2, .int .i64 x3] rfl rfl (cells4_new' _ _ _ _ _ _ (by simp)) (by simp [Value.oneCell']) (by unfold maxLen; omega) (by omega) (by simp; omega) ?_; intro v' w3 hown' hgrow _ hat))
        have HOWN := Lib.hid hown'
        have HBB := Lib.hid (below_app hb2 (Nat.le_refl _) hO2 hgrow)
        have HG3 : Hid (w3.heap[gw]? = w1.heap[gw]? ∧ v'.ownBlock ≠ some gw) := Lib.hid ⟨(hgrow.block gw (by simp; omega) (fun e => HG.out.2 e.symm)).trans ((heap_old w2 _ gw (by omega)).trans HG2.out), fun e => by
          rcases hat with a | a
          · exact HG.out.2 (a ▸ e)
          · rw [a] at e
            have := Option.some.inj e
            simp at this
            omega⟩
        have hz3 : w1.heap.size ≤ w3.heap.size := by have := hgrow.size; simp at this; omega
        clear hown' hgrow hO2 hat
        go_roundw
        case rel => exact ⟨k + 1, by omega, by omega, by go_num, (by rw [HSN.out]; exact HOWN.out), HBB.out, hz3, HG3⟩
        case measure => simp [intOf]; omega
      · have hg : (decide ((k : Int) < (ws.length : Int)) && decide ((k : Int) ≤ 8)) = false := by
          rw [Bool.and_eq_false_iff]
          by_cases h1 : k < ws.length
          · right; exact decide_eq_false (by omega)
          · left; exact decide_eq_false (by omega)
        have htk : ws.take k = ws.take 9 := by
          by_cases h1 : k < ws.length
          · have : k = 9 := by omega
            rw [this]
          · rw [List.take_of_length_le (by omega), List.take_of_length_le (by omega)]
        rw [htk] at hO
        have hlen : k = ((ws.take 9).map rdS).length := by rw [← htk, List.length_map, List.length_take]; omega
        have hF := RusO.of_row hO hlen (fun f hf => by obtain ⟨p, hp, rfl⟩ := List.mem_map.1 hf; exact rdS_ok _)
        obtain ⟨t, ht⟩ : ∃ t, (ws.take 9).map rdS = t := ⟨_, rfl⟩
        have hR := HR.out
        rw [ht] at hR hF
        have HF := Lib.hid hF
        have HRR := Lib.hid hR
        obtain ⟨bs, hbs⟩ : ∃ q, isSch t = q := ⟨_, rfl⟩
        have HS := Lib.hid hbs
        have hsz := hb.size
        clear hO hR hF ht hbs htk hlen
        obtain ⟨fa, fn, fc, rfl⟩ := HF.out.1.slice
        have hcase : (k < ws.length ∧ (8 : Int) < (k : Int)) ∨ ¬ k < ws.length := by omega
        clear hg hgo
        rcases hcase with ⟨cc1, cc2⟩ | cc1
        all_goals
          cases bs
          · have hh := HRR.out
            rw [HS.out, if_neg (by simp)] at hh
            obtain ⟨rfl, rfl⟩ := Prod.mk.inj hh
            clear hh
            go_wp2_with (first | (go_at_call 21; refine (l4Good_any _ t _ HF.out.row).mono ?_; rw [HS.out]; rintro e w4 ⟨rfl, b4⟩))
            go_ret2
            exact ⟨_, rfl, RusO.empty _ (Nat.le_trans hsz b4.size), below_al (below_chain hb b4) _⟩
          · obtain ⟨TX, hTX⟩ : ∃ q, schAt t t.length = q := ⟨_, rfl⟩
            have HTX := Lib.hid hTX
            have hh := HRR.out
            rw [hTX, HS.out] at hh
            have hsc := fun W (hb' : Below wr.heap.size wr W) => l4Text_any _ t W (HF.out.row.below rRu_stable hb') HS.out
            rw [hTX] at hsc
            have HSC := Lib.hid hsc
            clear hTX hsc
            by_cases he : TX = s
            · subst he
              rw [if_pos ⟨rfl, rfl⟩] at hh
              obtain ⟨rfl, rfl⟩ := Prod.mk.inj hh
              clear hh
              go_wp2_with (first | (go_at_call 21; refine (l4Good_any _ t _ HF.out.row).mono ?_; rw [HS.out]; rintro e w4 ⟨rfl, b4⟩) | (go_at_call 33; refine (HSC.out _ b4).mono ?_; rintro e w5 ⟨rfl, b5⟩))
              go_ret2
              exact ⟨_, rfl, (HF.out.below (below_chain b4 b5)).wide (Nat.le_refl _) (below_chain b4 b5).size, below_chain hb (below_chain b4 b5)⟩
            · have hns : (TX.toList == s.toList) = false := beq_bytes_nos he
              rw [if_neg (fun h => he h.2)] at hh
              obtain ⟨rfl, rfl⟩ := Prod.mk.inj hh
              clear hh he
              go_wp2_with (first | (go_at_call 21; refine (l4Good_any _ t _ HF.out.row).mono ?_; rw [HS.out]; rintro e w4 ⟨rfl, b4⟩) | (go_at_call 33; refine (HSC.out _ b4).mono ?_; rintro e w5 ⟨rfl, b5⟩))
              go_ret2
              exact ⟨_, rfl, RusO.empty _ (Nat.le_trans hsz (below_chain b4 b5).size), below_al (below_chain hb (below_chain b4 b5)) _⟩
end Go.Proofs.YtpcdjpkcalbpkaaDoor
