/- The program's ParseRecord. -/
import Derived.Test.YtapbajficopnlaaDoorPRM
import Derived.Test.YtapbajficopnlaaDoorPair
import Derived.Test.YtapbajficopnlaaDoorSplitImpl
import Derived.Test.YtapbajficopnlaaDoorIsRecI
import Derived.Maps.AppendAt
namespace Go.Proofs.YtapbajficopnlaaDoor
set_option linter.unusedVariables false
open Go.RowKit Go.Sort

theorem le_szr {p : ByteArray} : ∀ {ss : List ByteArray}, p ∈ ss → p.size ≤ sz ss
  | q :: ss, h => by
    have e : sz (q :: ss) = q.size + sz ss := by simp [sz]
    rw [e]
    rcases List.mem_cons.1 h with rfl | h
    · omega
    · have := le_szr h; omega
theorem spAll_ler {s p : ByteArray} {c : UInt8} (h : p ∈ spAll s c) : p.size ≤ s.size := by
  have h1 := le_szr h
  have h2 := sj_len (spAll s c) c (spAll_ne s c)
  rw [(spAll_sj s c).1, Array.length_toList] at h2
  have h3 : s.data.size = s.size := rfl
  have h4 := List.length_pos_iff.2 (spAll_ne s c)
  omega
theorem prRes_long {s : ByteArray} (h : 80 < s.size) : prRes s = (recD, false) := by
  rw [prRes_model, if_neg (by omega)]
theorem evR_ok (l : List UInt8) : (evR l).ok := ⟨numV_in _, numV_in _⟩
theorem own_slice {w : World} {base e size n : Nat} {v : Value} {xs : List Value} (h : w.ownsRow base e size v n xs) : ∃ a m c, v = .slice a m c := by
  rcases h.2 with ⟨rfl, _⟩ | ⟨g, cap, cur, rfl, _⟩
  · exact ⟨_, _, _, rfl⟩
  · exact ⟨_, _, _, rfl⟩
theorem two_newr {W : World} {a b : Value} {t : TypeId} {h : Nat} (hh : W.heap.size = h) : ∀ j u, [a, b][j]? = some u → (W.alloc (.cells #[a, b] t (0, 0))).cell? ((⟨h, 0, none⟩ : Addr).add j) = some u := by
  subst hh
  intro j u hj
  rw [Addr.add_lit]
  exact (blk_cell (heap_alloc_new W _) _).trans (by simpa using hj)
theorem rec_zero (lo hi : Nat) (w : World) : RecO lo hi w (.agg #[.int .i64 0, .int .i64 0, .int .i64 0, .slice none 0 0]) recD :=
  ⟨_, rfl, ⟨Own.nil _ _ _ _, by simp [recD], Under.nil _ _ _⟩, by simp [recD, Rec.ok, inI]⟩
theorem ownsRow_base_r {W : World} {base base' : Nat} {e : TypeId} {size : Nat} {v : Value} {k : Nat} {xs : List Value} (h : W.ownsRow base e size v k xs) (hb : base' ≤ base) : W.ownsRow base' e size v k xs := ownsRow_base_a' h hb

theorem cs_other' {w : World} {a b : Addr} (v : Value) (h : a ≠ b) : (w.setCell a v).cell? b = w.cell? b := by
  apply World.cell?_setCell_other
  exact h
theorem cs_same' {w : World} {a : Addr} {u : Value} (v : Value) (h : w.cell? a = some u) : (w.setCell a v).cell? a = some v := by
  apply World.cell?_setCell_same
  exact h

set_option maxRecDepth 20000 in
set_option maxHeartbeats 8000000 in
theorem implParseRecord_any (s : ByteArray) (w : World) (hs : s.size ≤ maxLen) (he : EnvR w) (r : Rec) (b : Bool) (hres : prRes s = (r, b)) :
    Calls Tryd.prog 10 #[.string s] w fun e w' => ∃ v', e = .returned (.tuple #[v', .bool b]) ∧ RecO w.heap.size w'.heap.size w' v' r ∧ Below w.heap.size w w' := by
  have b0 := below_al (Below.refl w.heap.size w) (.cells #[.int .i64 0, .int .i64 0, .int .i64 0, .slice none 0 0] 24 (0, 0))
  by_cases hbig : 4000 < s.size
  · have hh := (prRes_long (s := s) (by omega)).symm.trans hres
    obtain ⟨rfl, rfl⟩ := Prod.mk.inj hh
    clear hh hres he
    have HSP := Lib.hid (fun W => implSplit_bad s ⟨#[32]⟩ W hs (by unfold maxLen; decide) (.inl hbig))
    unfold maxLen at hs
    go_enter Tryd.func10, Tryd.ntmps10
    go_wp2_with fail
    refine (HSP.out _).mono ?_
    rintro e w1 ⟨v1, rfl, hown, b1⟩
    have Z := box_kept (heap_alloc_new w _) b1
    replace b1 := below_chain b0 b1
    obtain ⟨va, vn, vc, rfl⟩ := own_slice hown
    clear hown
    have z0 := box_cell Z 0 rfl
    have z1 := box_cell Z 1 rfl
    have z2 := box_cell Z 2 rfl
    have z3 := box_cell Z 3 rfl
    have y0 := blk_frozen Z 0
    have y1 := blk_frozen Z 1
    have y2 := blk_frozen Z 2
    have y3 := blk_frozen Z 3
    simp at z0 z1 z2 z3 y0 y1 y2 y3
    go_wp2_with fail
    refine bodyPost_ret (v := .tuple #[.agg #[.int .i64 0, .int .i64 0, .int .i64 0, .slice none 0 0], .bool false]) (by simp [results, Tryd.results10, go_sem, z0, z1, z2, z3]) rfl ⟨_, rfl, rec_zero _ _ _, ?_⟩
    exact (((b1.setCell (by simp) _).setCell (by simp) _).setCell (by simp) _).setCell (by simp) _
  · obtain ⟨i0, hi, hz0, hz1, hz2⟩ := info_parts (show (Tryd.prog.info? 51).map (fun i => (i.zero, i.size, i.bytes)) = some (some (.agg #[.int .i64 0, .int .i64 0]), 2, 16) by kernel_rfl)
    have hsp := fun W => implSplit_one s 32 W (by omega)
    have hle := fun p (hp : p ∈ spAll s 32) => Nat.le_trans (spAll_ler hp) (show s.size ≤ 4000 by omega)
    have hln := spAll_len s 32
    have hr := hres
    unfold prRes prOk prRec at hr
    rw [pr_pieces] at hsp hle hln
    obtain ⟨hd, hhd⟩ : ∃ p, prHead s = p := ⟨_, rfl⟩
    obtain ⟨tl, htl⟩ : ∃ p, prTail s = p := ⟨_, rfl⟩
    rw [hhd, htl] at hsp hle hln
    rw [hhd, htl] at hr
    have hhs := hle hd (by simp)
    have hph := fun W (hW : EnvR W) => parseHead_any hd W (by omega) hW
    obtain ⟨⟨h1, h2, h3, h4⟩, hh⟩ : ∃ q, headR hd.data.toList = q := ⟨_, rfl⟩
    have hh4 : h4 = [] := by have := congrArg Rec.evs hh; unfold headR at this; exact this.symm
    subst hh4
    obtain ⟨bh, hbh⟩ : ∃ q, headB hd.data.toList = q := ⟨_, rfl⟩
    rw [hh, hbh] at hph hr
    simp only at hph hr
    have hok3 : Rec.ok ⟨h1, h2, h3, []⟩ := by rw [← hh]; exact ⟨numV_in _, numV_in _, numV_in _⟩
    obtain ⟨NT, hNT⟩ : ∃ n, tl.length = n := ⟨_, rfl⟩
    have HR := Lib.hid hr
    have HSP := Lib.hid hsp
    have HLE := Lib.hid hle
    have HPH := Lib.hid hph
    have HE := Lib.hid he
    have HOK := Lib.hid hok3
    have HNT := Lib.hid hNT
    simp only [List.length_cons] at hln
    rw [hNT] at hln
    unfold maxLen at hs
    clear hr hres hsp hle hph he hhd htl hh hbh hok3 hNT
    go_enter Tryd.func10, Tryd.ntmps10
    go_wp2_with fail
    refine (HSP.out _).mono ?_
    rintro e w1 ⟨v1, rfl, hown, b1⟩
    have Z := box_kept (heap_alloc_new w _) b1
    replace b1 := below_chain b0 b1
    rcases hown.2 with ⟨_, hx⟩ | ⟨g1, cp1, cur1, rfl, hg1, hgs1, hnc1, hcm1, hx1, hx2⟩
    · simp at hx
    have q1 := hown.cells (g := g1) rfl
    have c0 := q1 0 (.string hd) rfl
    simp only [Addr.add_lit, Nat.add_zero] at c0
    have hcl : ∀ i (hi : i < tl.length), w1.cell? ⟨g1, 1 + i, none⟩ = some (.string tl[i]) := fun i hi => by
      have := q1 (i + 1) (.string tl[i]) (by simp [List.getElem?_eq_getElem hi])
      rw [Addr.add_lit] at this
      rw [show 1 + i = 0 + (i + 1) by omega]
      exact this
    simp only [List.length_cons] at hnc1
    rw [HNT.out] at hnc1
    obtain ⟨gb, go, hAD, hcl2⟩ : ∃ gb go, (if cp1 = 1 then some (⟨g1, 0, none⟩ : Addr) else some ⟨g1, 1, none⟩) = some ⟨gb, go, none⟩ ∧ ∀ i (hi : i < tl.length), w1.cell? ⟨gb, go + i, none⟩ = some (.string tl[i]) := by
      by_cases hc : cp1 = 1
      · exact ⟨g1, 0, by rw [if_pos hc], fun i hi => by have := HNT.out; omega⟩
      · exact ⟨g1, 1, by rw [if_neg hc], hcl⟩
    have HCL := Lib.hid hcl2
    have hlen1 : (hd :: tl).length = NT + 1 := by rw [List.length_cons, HNT.out]
    rw [hlen1]
    unfold maxLen at hcm1
    clear hown q1 hcl hcl2 hx1 hx2 hgs1 hlen1
    have hb1s := b1.size
    go_wp2_with fail
    refine (HPH.out _ (HE.out.later b1)).mono ?_
    rintro e w2 ⟨rfl, b2⟩
    replace Z := box_kept Z b2
    have bw2 := below_chain b1 b2
    have hb2s := bw2.size
    have HZ := Lib.hid Z
    have sZ := (Array.getElem?_eq_some_iff.1 Z).1
    clear Z c0
    have k1 : (1 : Int) ≤ ((NT + 1 : Nat) : Int) := by omega
    have k2 : (1 : Int) ≤ (cp1 : Int) := by omega
    go_wp2_with fail
    have bB := below_al (Below.refl w2.heap.size w2) (.cells #[.int .i64 h1, .int .i64 h2, .int .i64 h3, .slice none 0 0] 24 (0, 0))
    have gw := HE.out.later bw2
    have GS := heap_alloc_new w2 (.cells #[.int .i64 h1, .int .i64 h2, .int .i64 h3, .slice none 0 0] 24 (0, 0))
    have g0 := box_cell GS 0 rfl
    have g1' := box_cell GS 1 rfl
    have g2' := box_cell GS 2 rfl
    have g3' := box_cell GS 3 rfl
    go_loopw [5, 30] (fun f i wr => ∃ (k : Nat) (bk : Bool) (va : Option Addr) (vn vc : Nat), k ≤ NT ∧ i = .int .i64 k ∧ f = .bool bk ∧ Hid ((bh && (tl.take k).all fun p => evB p.data.toList) = bk) ∧ Hid (wr.ownsRow (w2.heap.size + 1) 51 2 (.slice va vn vc) k (((tl.take k).map fun p => evR p.data.toList).map evC).flatten) ∧ Below w2.heap.size w2 wr ∧ w2.heap.size + 1 ≤ wr.heap.size ∧
        wr.cell? ⟨w2.heap.size, 0, none⟩ = some (.int .i64 h1) ∧ wr.cell? ⟨w2.heap.size, 1, none⟩ = some (.int .i64 h2) ∧ wr.cell? ⟨w2.heap.size, 2, none⟩ = some (.int .i64 h3) ∧ wr.cell? ⟨w2.heap.size, 3, none⟩ = some (.slice va vn vc) ∧ wr.frozen? ⟨w2.heap.size, 3, none⟩ = false) (fun _ i _ => NT - (intOf i).toNat)
    case atStart => exact ⟨0, bh, none, 0, 0, Nat.zero_le _, rfl, rfl, Lib.hid (by simp), Lib.hid (World.ownsRow_nil _ _ _ _), bB, by simp, g0, g1', g2', g3', (by simp)⟩
    case round =>
      clear bB GS g0 g1' g2' g3' gw
      obtain ⟨k, bk, va, vn, vc, hk, rfl, rfl, HB, HO, bb, hsz, g0, g1', g2', g3', gf⟩ := hrel
      by_cases hlt : k < NT
      · have hlt' : k < tl.length := by rw [HNT.out]; exact hlt
        have q0 := cell_kept (cell_kept (HCL.out k hlt') b2) bb
        obtain ⟨p, hp⟩ : ∃ p, tl[k] = p := ⟨_, rfl⟩
        rw [hp] at q0
        have hpz := HLE.out p (by rw [← hp]; exact List.mem_cons_of_mem _ (List.getElem_mem hlt'))
        have htk : tl.take (k + 1) = tl.take k ++ [p] := by rw [take_succ_snoc tl k hlt', hp]
        obtain ⟨⟨x, y⟩, hx⟩ : ∃ q, evR p.data.toList = q := ⟨_, rfl⟩
        obtain ⟨bf, hbf⟩ : ∃ q, (numB (cutL p.data.toList 64) && numB (cutR p.data.toList 64)) = q := ⟨_, rfl⟩
        have hx1 : numV (cutL p.data.toList 64) = x := congrArg Ev.kind hx
        have hx2 : numV (cutR p.data.toList 64) = y := congrArg Ev.day hx
        have hsn : (((tl.take (k + 1)).map fun p => evR p.data.toList).map evC).flatten = (((tl.take k).map fun p => evR p.data.toList).map evC).flatten ++ [.int .i64 x, .int .i64 y] := by
          rw [htk, List.map_append, List.map_append, List.flatten_append]
          simp [hx, evC]
        have hfl : (bh && (tl.take (k + 1)).all fun p => evB p.data.toList) = (bk && bf) := by
          rw [htk, List.all_append, ← Bool.and_assoc, HB.out]
          simp [evB, hbf]
        have hcon := fun W (hW : EnvR W) => parsePair_any p 64 W (by omega) hW
        rw [hx1, hx2, hbf] at hcon
        have HC := Lib.hid hcon
        have HSN := Lib.hid hsn
        have HFL := Lib.hid hfl
        have i0' : (0 : Int) ≤ (k : Int) := by omega
        have i1' : (k : Int) < (NT : Int) := by omega
        clear hp htk hx hx1 hx2 hbf hsn hfl hcon hlt'
        cases bk
        all_goals
          go_wp2_with fail
          refine (HC.out _ (HE.out.later (bw2.trans (bb.mono hb2s)))).mono ?_
          rintro e w3 ⟨rfl, b3⟩
          have hs3 := b3.size
          have hO3 := ownsRow_below HO.out b3
          have HO3 := Lib.hid (hO3.alloc (.cells #[.int .i64 x, .int .i64 y] 51 (0, 0)))
          have bb3 := bb.trans (b3.mono (by omega))
          replace g0 := cell_kept g0 b3
          replace g1' := cell_kept g1' b3
          replace g2' := cell_kept g2' b3
          replace g3' := cell_kept g3' b3
          replace gf := (b3.frozen (p := ⟨w2.heap.size, 3, none⟩) (by simp; omega)).trans gf
          have HO3b := Lib.hid hO3
          clear hO3 b3
          go_wp2_with (first | (at_builtin; refine wpList_append_own _ rfl _ _ 22 rfl (w2.heap.size + 1) 51 i0 (.agg #[.int .i64 0, .int .i64 0]) 2 16 Tryd.underlying22 hi hz0 hz1 hz2 rfl (by decide) (.slice va vn vc) _ _ rfl HO3.out ⟨w3.heap.size, 0, none⟩ 1 1 [.int .i64 x, .int .i64 y] rfl rfl (two_newr rfl) (by simp [Value.oneCell']) (by unfold maxLen; omega) (by omega) (by simp; omega) ?_; intro v' w4 hown' hgrow _; obtain ⟨va', vn', vc', rfl⟩ := own_slice hown'; have b34 := below_app (Below.refl (w2.heap.size + 1) w3) (by omega) HO3b.out hgrow; have g3x := (b34.cell (p := ⟨w2.heap.size, 3, none⟩) (Nat.lt_succ_self _)).trans g3'; have gfx := (b34.frozen (p := ⟨w2.heap.size, 3, none⟩) (Nat.lt_succ_self _)).trans gf; have HOWN := Lib.hid hown'; have HB34 := Lib.hid b34; clear hown' hgrow b34))
          have e0 := (cs_other' (.slice va' vn' vc') (by simp : (⟨w2.heap.size, 3, none⟩ : Addr) ≠ ⟨w2.heap.size, 0, none⟩)).trans ((HB34.out.cell (p := ⟨w2.heap.size, 0, none⟩) (Nat.lt_succ_self _)).trans g0)
          have e1 := (cs_other' (.slice va' vn' vc') (by simp : (⟨w2.heap.size, 3, none⟩ : Addr) ≠ ⟨w2.heap.size, 1, none⟩)).trans ((HB34.out.cell (p := ⟨w2.heap.size, 1, none⟩) (Nat.lt_succ_self _)).trans g1')
          have e2 := (cs_other' (.slice va' vn' vc') (by simp : (⟨w2.heap.size, 3, none⟩ : Addr) ≠ ⟨w2.heap.size, 2, none⟩)).trans ((HB34.out.cell (p := ⟨w2.heap.size, 2, none⟩) (Nat.lt_succ_self _)).trans g2')
          have e3 := cs_same' (.slice va' vn' vc') g3x
          have hs4 := HB34.out.size
          go_roundw
          case rel => exact ⟨k + 1, _, va', vn', vc', by omega, by go_num, rfl, Lib.hid (by rw [HFL.out]; rfl), Lib.hid (by rw [HSN.out]; exact ownsRow_setCell_below HOWN.out (Nat.lt_succ_self _) _), (bb3.trans (HB34.out.mono (Nat.le_succ _))).setCell (p := ⟨w2.heap.size, 3, none⟩) (Nat.le_refl _) _, (by simp; omega), e0, e1, e2, e3, (by rw [World.frozen?_setCell]; exact gfx)⟩
          case measure => simp [intOf]; omega
      · obtain rfl : k = NT := by omega
        have htk : tl.take k = tl := by rw [← HNT.out]; exact List.take_length
        have hB := HB.out
        have hO := HO.out
        have hR := HR.out
        rw [htk] at hB hO
        obtain ⟨evs, hev⟩ : ∃ q, (tl.map fun p => evR p.data.toList) = q := ⟨_, rfl⟩
        rw [hB, hev] at hR
        rw [hev] at hO
        have hevok : ∀ e ∈ evs, e.ok := fun e he => by
          rw [← hev] at he
          obtain ⟨p, _, rfl⟩ := List.mem_map.1 he
          exact evR_ok _
        have hln : k = (evs.map evC).length := by rw [List.length_map, ← hev, List.length_map, HNT.out]
        obtain ⟨br, hbr⟩ : ∃ q, isRec ⟨h1, h2, h3, evs⟩ = q := ⟨_, rfl⟩
        rw [hbr] at hR
        have hown : Own (w2.heap.size + 1) 51 2 wr (.slice va vn vc) (evs.map evC) := ⟨by rw [← hln]; exact hO, by simp [evC]⟩
        have hEV : EvsO (w2.heap.size + 1) wr.heap.size wr (.slice va vn vc) evs := ⟨hown, hevok, hown.under⟩
        have hrec : ∀ W', Below wr.heap.size wr W' → RecO (w2.heap.size + 1) wr.heap.size W' (.agg #[.int .i64 h1, .int .i64 h2, .int .i64 h3, .slice va vn vc]) ⟨h1, h2, h3, evs⟩ := fun W' hb => ⟨_, rfl, hEV.below hb, HOK.out⟩
        have HREC := Lib.hid hrec
        have HEV := Lib.hid hEV
        have HRR := Lib.hid hR
        have HBR := Lib.hid hbr
        have bW : Below w.heap.size w wr := bw2.trans (bb.mono hb2s)
        have ZR := box_kept HZ.out bb
        have sw : w.heap.size < w2.heap.size := sZ
        clear htk hB hO hR hev hevok hbr hown hEV hrec hln HO HB HCL
        cases bk
        · have hh := HRR.out
          rw [if_neg (by simp)] at hh
          obtain ⟨rfl, rfl⟩ := Prod.mk.inj hh
          clear hh
          have z0 := box_cell ZR 0 rfl
          have y0 := blk_frozen ZR 0
          have z1 := box_cell ZR 1 rfl
          have y1 := blk_frozen ZR 1
          have z2 := box_cell ZR 2 rfl
          have y2 := blk_frozen ZR 2
          have z3 := box_cell ZR 3 rfl
          have y3 := blk_frozen ZR 3
          simp at z0 z1 z2 z3 y0 y1 y2 y3
          clear ZR
          go_wp2_with fail
          refine bodyPost_ret (v := .tuple #[.agg #[.int .i64 0, .int .i64 0, .int .i64 0, .slice none 0 0], .bool false]) (by simp [results, Tryd.results10, go_sem, z0, z1, z2, z3]) rfl ⟨_, rfl, rec_zero _ _ _, ?_⟩
          exact (((bW.setCell (by simp) _).setCell (by simp) _).setCell (by simp) _).setCell (by simp) _
        · go_wp2_with fail
          refine (implIsRecord_any _ ⟨h1, h2, h3, evs⟩ _ (HREC.out _ (Below.refl _ _)).toV).mono ?_
          rw [HBR.out]
          rintro e w5 ⟨rfl, b5⟩
          replace ZR := box_kept ZR b5
          replace g0 := cell_kept g0 b5
          replace g1' := cell_kept g1' b5
          replace g2' := cell_kept g2' b5
          replace g3' := cell_kept g3' b5
          have bW5 := below_chain bW b5
          have s5 := b5.size
          have z0 := box_cell ZR 0 rfl
          have y0 := blk_frozen ZR 0
          have z1 := box_cell ZR 1 rfl
          have y1 := blk_frozen ZR 1
          have z2 := box_cell ZR 2 rfl
          have y2 := blk_frozen ZR 2
          have z3 := box_cell ZR 3 rfl
          have y3 := blk_frozen ZR 3
          simp at z0 z1 z2 z3 y0 y1 y2 y3
          clear ZR
          have hh := HRR.out
          cases br
          · rw [if_neg (by simp)] at hh
            obtain ⟨rfl, rfl⟩ := Prod.mk.inj hh
            clear hh
            go_wp2_with fail
            refine bodyPost_ret (v := .tuple #[.agg #[.int .i64 0, .int .i64 0, .int .i64 0, .slice none 0 0], .bool false]) (by simp [results, Tryd.results10, go_sem, z0, z1, z2, z3]) rfl ⟨_, rfl, rec_zero _ _ _, ?_⟩
            exact (((bW5.setCell (by simp) _).setCell (by simp) _).setCell (by simp) _).setCell (by simp) _
          · rw [if_pos (by simp)] at hh
            obtain ⟨rfl, rfl⟩ := Prod.mk.inj hh
            clear hh
            go_wp2_with fail
            refine bodyPost_ret (v := .tuple #[.agg #[.int .i64 h1, .int .i64 h2, .int .i64 h3, .slice va vn vc], .bool true]) (by simp [results, Tryd.results10, go_sem, z0, z1, z2, z3]) rfl ⟨_, rfl, ?_, ?_⟩
            · refine ⟨.slice va vn vc, rfl, ?_, HOK.out⟩
              exact (((((HEV.out.below b5).far (by simp; omega) _).far (by simp; omega) _).far (by simp; omega) _).far (by simp; omega) _).wide (by omega) (by simp; exact s5)
            · exact (((bW5.setCell (by simp) _).setCell (by simp) _).setCell (by simp) _).setCell (by simp) _
end Go.Proofs.YtapbajficopnlaaDoor
