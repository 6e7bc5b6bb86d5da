/- The draw of a list of files. -/
import Derived.Test.YtpbjddiopfkgbaaDoorFile5
import Derived.Test.YtpbjddiopfkgbaaDoorAreFiS
import Derived.Test.YtpbjddiopfkgbaaDoorSinceC
namespace Go.Proofs.YtpbjddiopfkgbaaDoor
set_option linter.unusedVariables false
open Go.RowKit

/-- The cursor, the files drawn so far. -/
structure DrF (w0 w : World) (B K : Nat) (o : Value) (t : List Fi) : Prop where
  cur : Cur w B K
  out : FisO (B + 1) w.heap.size w o t
  gr : w0.grownBy w (some B)
theorem DrF.step {w0 w w' : World} {B K K' : Nat} {o : Value} {t : List Fi} (h : DrF w0 w B K o t) (hc : Cur w' B K') (hg : w.grownBy w' (some B)) : DrF w0 w' B K' o t :=
  ⟨hc, (h.out.grown hg (by omega)).wide (Nat.le_refl _) hg.size, grownBy_trans h.gr hg⟩
theorem DrF.al {w0 w : World} {B K : Nat} {o : Value} {t : List Fi} (h : DrF w0 w B K o t) (ob : Obj) : DrF w0 (w.alloc ob) B K o t :=
  h.step (h.cur.later (Below.alloc (Below.refl (B + 1) w) h.cur.lt ob)) (World.grownBy_alloc w ob _)
theorem DrF.below {w0 w w' : World} {B K : Nat} {o : Value} {t : List Fi} (h : DrF w0 w B K o t) (hb : Below w.heap.size w w') : DrF w0 w' B K o t :=
  h.step (h.cur.later (hb.mono h.cur.lt)) ⟨hb.os, hb.tape, hb.output, hb.size, fun k hk _ => hb.block k hk⟩
theorem gr_appF {w w3 w4 : World} {B : Nat} {ob : Obj} {v : Value} (h : w.grownBy w3 (some B)) (hg : (w3.alloc ob).grownBy w4 v.ownBlock) (hv : ∀ k, v.ownBlock = some k → w.heap.size ≤ k) : w.grownBy w4 (some B) := by
  have h2 := grownBy_trans h (World.grownBy_alloc w3 ob (some B))
  have hs := h2.size
  refine ⟨hg.os.trans h2.os, hg.tape.trans h2.tape, hg.output.trans h2.output, Nat.le_trans hs hg.size, fun k hk hr => ?_⟩
  exact (hg.block k (Nat.lt_of_lt_of_le hk hs) (fun e => by have := hv k e.symm; omega)).trans (h2.block k hk hr)

theorem lit_okF (k : Nat) (h : k ≤ 16) : (⟨(k : Int) + 1, (k : Int) + 1, ⟨#[120]⟩, 0, 0, 0, 9⟩ : Fi).ok :=
  ⟨by simp only [inI]; omega, by simp only [inI]; omega, (by decide : (1 : Nat) ≤ maxLen), by simp [inI], by simp [inI], by simp [inI], by simp [inI]⟩

set_option maxRecDepth 20000 in
set_option maxHeartbeats 2000000 in
theorem files5_any (B K : Nat) (w : World) (h : Cur w B K) (hK : K ≤ 1000) :
    Calls Tryd.prog 48 #[.pointer (some ⟨B, 0, none⟩)] w fun e w' => ∃ v t, e = .returned v ∧ t.length ≤ 12 ∧ (∃ ad c, v = .slice (some ad) t.length c) ∧ DrF w w' B (K + 1000) v t := by
  obtain ⟨i0, hi, hz0, hz1, hz2⟩ := info_parts Tryd.info_fi
  have hlt := h.lt
  have H0 : Hid (DrF w (w.alloc (.cells #[] 43 (0, 0))) B K (.slice (some ⟨w.heap.size, 0, none⟩) 0 0) []) := Lib.hid ⟨h.later (Below.alloc (Below.refl (B + 1) w) hlt _), FisO.empty (lo := B + 1) w hlt, World.grownBy_alloc w _ _⟩
  clear h
  go_enter Tryd.func48, Tryd.ntmps48
  go_wp2_with fail
  refine (pick_any B K 8 _ H0.out.cur (by omega) (by omega) (by omega)).mono ?_
  rintro e w1 ⟨n0, rfl, hn0, hn1, hc1, hg1⟩
  obtain ⟨N, rfl⟩ := Int.eq_ofNat_of_zero_le hn0
  have hN : N ≤ 7 := by omega
  have H1 := Lib.hid (H0.out.step hc1 hg1)
  clear hc1 hg1 hn0 hn1 H0
  go_wp2_with fail
  go_loopw [3, 4, 5] (fun o d n wr => ∃ (ob : Nat) (oc : Nat) (t : List Fi) (id : Int) (k : Nat), k ≤ N ∧ n = .int .i64 k ∧ d = .int .i64 id ∧ 0 ≤ id ∧ id ≤ 3 * ((N : Int) - k) ∧ o = .slice (some ⟨ob, 0, none⟩) t.length oc ∧ t.length + k ≤ N ∧ Hid (DrF w wr B (K + 2 + 40 * (N - k)) (.slice (some ⟨ob, 0, none⟩) t.length oc) t)) (fun _ _ n _ => (intOf n).toNat)
  case atStart => exact ⟨_, _, [], 0, N, Nat.le_refl _, rfl, rfl, by omega, by omega, rfl, by simp, Lib.hid ⟨H1.out.cur.le_K (by omega), H1.out.out, H1.out.gr⟩⟩
  case round =>
    clear H1
    obtain ⟨ob, oc, t, id, k, hk, rfl, rfl, hi0, hi1, rfl, htl, HD⟩ := hrel
    obtain ⟨M, hM⟩ : ∃ M, K + 2 + 40 * (N - k) = M := ⟨_, rfl⟩
    rw [hM] at HD
    by_cases hpos : 0 < k
    · have gk : (0 : Int) < (k : Int) := by omega
      have gk2 : decide ((0 : Int) < (k : Int)) = true := decide_eq_true gk
      have hid0 : IntKind.i64.wrap (id + 1) = id + 1 := Go.IntWalk.i64_in _ (by omega)
      go_wp2_with fail
      refine (pick_any B M 3 _ HD.out.cur (by omega) (by omega) (by omega)).mono ?_
      rintro e w2 ⟨d, rfl, hd0, hd1, hc2, hg2⟩
      have HD2 := Lib.hid (HD.out.step hc2 hg2)
      have hl2 : B < w2.heap.size := hc2.lt
      clear hc2 hg2 HD
      have hid2 : IntKind.i64.wrap (id + 1 + d) = id + 1 + d := Go.IntWalk.i64_in _ (by omega)
      obtain ⟨I, hI⟩ : ∃ I, id + 1 + d = I := ⟨_, rfl⟩
      have hI9 : 0 ≤ I ∧ I ≤ 3 * ((N : Int) - k) + 3 := by omega
      have hII : inI I := by unfold inI; omega
      have HS2 : w.heap.size ≤ w2.heap.size := HD2.out.gr.size
      have hob : ob < w2.heap.size := HD2.out.out.2.2 ob rfl
      have hcells := fis_cells HD2.out.out.row
      obtain ⟨NEWS, hN2⟩ : ∃ N, (t.map fiC).flatten = N := ⟨_, rfl⟩
      have HL : Hid (NEWS.length = t.length * 7) := Lib.hid (by rw [← hN2]; exact flat_map_len fiC_len t)
      have HO : Hid (∀ u ∈ NEWS, u.oneCell' = true) := Lib.hid (by rw [← hN2]; exact flat_one fiC_one _)
      have HC : Hid (∀ W, Below w2.heap.size w2 W → ∀ j u, NEWS[j]? = some u → W.cell? ((⟨ob, 0, none⟩ : Addr).add j) = some u) := Lib.hid (by rw [← hN2]; exact hcells)
      have HNE := Lib.hid hN2
      have hkw : IntKind.i64.wrap ((k : Int) - 1) = ((k - 1 : Nat) : Int) := by
        rw [Go.IntWalk.i64_in _ (by omega)]
        omega
      clear hN2 hcells
      go_wp2_with (first | (at_builtin; refine wpList_append_own _ rfl _ _ 24 rfl w2.heap.size 43 i0 (.agg #[.int .i64 0, .int .i64 0, .string ⟨#[]⟩, .int .i64 0, .int .i64 0, .int .i64 0, .int .i64 0]) 7 64 Tryd.underlying24 hi hz0 hz1 hz2 rfl (by decide) (.slice (some ⟨w2.heap.size, 0, none⟩) 0 0) 0 [] rfl (World.ownsRow_made w2 #[] 0 (Nat.le_refl _) (Nat.zero_le _) rfl) ⟨ob, 0, none⟩ t.length oc NEWS rfl HL.out (HC.out _ (below_al (Below.refl _ w2) _)) HO.out (by unfold maxLen; omega) (by omega) (by simp) ?_; intro v3 w3 hown3 hgrow3 _))
      have b3 : Below w2.heap.size w2 w3 := (below_al (Below.refl _ w2) _).grown hgrow3 (by simp) (fun k hk => Nat.le_of_eq (by simpa [Value.ownBlock] using hk))
      have HD3 := Lib.hid (HD2.out.below b3)
      have HO3 : Hid (w3.ownsRow w2.heap.size 43 7 v3 t.length NEWS) := Lib.hid (by simpa using hown3)
      have s3 := b3.size
      clear hown3 hgrow3 b3 HD2 HC HO
      go_wp2_with fail
      try rw [hid2]
      try rw [hI]
      refine (file5_any B (M + 2) I _ HD3.out.cur (by omega) hII).mono ?_
      rintro e w4 ⟨⟨x0, x1, x2, x3, x4, x5, x6⟩, rfl, hok, hc4, hg4⟩
      have HD4 := Lib.hid (HD3.out.step hc4 hg4)
      have HO4 : Hid (w4.ownsRow w2.heap.size 43 7 v3 t.length NEWS) := Lib.hid (HO3.out.kept hg4 (by
        rcases hv : v3.ownBlock with _ | kk
        · exact .inl rfl
        · exact .inr fun e => by have := (HO3.out.lt kk hv).1; cases e; omega))
      have s4 := hg4.size
      have HOK := Lib.hid hok
      clear hc4 hg4 HD3 HO3 hok
      simp only
      go_wp2_with (first | (at_builtin; refine wpList_append_own _ rfl _ _ 24 rfl w2.heap.size 43 i0 (.agg #[.int .i64 0, .int .i64 0, .string ⟨#[]⟩, .int .i64 0, .int .i64 0, .int .i64 0, .int .i64 0]) 7 64 Tryd.underlying24 hi hz0 hz1 hz2 rfl (by decide) v3 t.length NEWS rfl (HO4.out.alloc _) ⟨w4.heap.size, 0, none⟩ 1 1 [.int .i64 x0, .int .i64 x1, .string x2, .int .i64 x3, .int .i64 x4, .int .i64 x5, .int .i64 x6] rfl rfl (cells7_new' _ _ _ _ _ _ _ _ _ rfl) (by simp [Value.oneCell']) (by unfold maxLen; omega) (by omega) (by simp; omega) ?_; intro v5 w5 hown5 hgrow5 _))
      have hlo5 := fun kk hk => (HO4.out.lt kk hk).1
      have hb5 : Below (B + 1) w4 w5 := Below.grown (Below.alloc (Below.refl (B + 1) w4) HD4.out.cur.lt _) hgrow5 (by simp; have := HD4.out.cur.lt; omega) (fun kk hk => by have := hlo5 kk hk; omega)
      have HD5 : Hid (DrF w w5 B (M + 32) (.slice (some ⟨ob, 0, none⟩) t.length oc) t) := Lib.hid ⟨HD4.out.cur.later hb5, ⟨⟨(World.ownsRow.alloc HD4.out.out.1.1 _).kept hgrow5 (.inr fun e => by have := hlo5 ob e.symm; omega), HD4.out.out.1.2⟩, HD4.out.out.2.1, fun g hg => by have e : ob = g := (by simpa [Value.ownBlock] using hg); have := hb5.size; omega⟩, gr_appF HD4.out.gr hgrow5 (fun kk hk => by have := hlo5 kk hk; have := HD4.out.gr.size; omega)⟩
      have HX5 : Hid (FisO (B + 1) w5.heap.size w5 v5 (t ++ [⟨x0, x1, x2, x3, x4, x5, x6⟩])) := Lib.hid (FisO.of_row (n := t.length + 1) (by
        have e : ((t ++ [(⟨x0, x1, x2, x3, x4, x5, x6⟩ : Fi)]).map fiC).flatten = (NEWS ++ [.int .i64 x0, .int .i64 x1, .string x2, .int .i64 x3, .int .i64 x4, .int .i64 x5, .int .i64 x6] : List Value) := by
          rw [List.map_append, List.flatten_append, HNE.out]
          simp [fiC]
        rw [e]; exact ownsRow_base_a' hown5 (by omega)) (by simp) (fun f hf => by
        rcases List.mem_append.1 hf with h | h
        · exact HD4.out.out.2.1 f h
        · rw [List.mem_singleton.1 h]; exact HOK.out))
      obtain ⟨na, nc, rfl⟩ := own_formF hown5 (Nat.succ_pos _)
      obtain ⟨bA, hbA⟩ : ∃ b, areFi (t ++ [⟨x0, x1, x2, x3, x4, x5, x6⟩]) = b := ⟨_, rfl⟩
      have HBA := Lib.hid hbA
      clear hbA hown5 hgrow5 hlo5 hb5 HD4 HO4 HL HNE HOK
      go_wp2_with fail
      refine (l5Good_any _ (t ++ [⟨x0, x1, x2, x3, x4, x5, x6⟩]) _ HX5.out.row).mono ?_
      rw [HBA.out]
      rintro e w13 ⟨rfl, b13⟩
      have HD13 := Lib.hid (HD5.out.below b13)
      have HX13 := Lib.hid ((HX5.out.below b13).wide (Nat.le_refl _) b13.size)
      clear b13 HD5 HX5
      have hM2 : M = K + 2 + 40 * (N - k) := hM.symm
      clear hM
      cases bA
      · go_wp2_with fail
        refine (one_any B (M + 32) 40 _ HD13.out.cur (by omega) (by omega) (by omega)).mono ?_
        rintro e w14 ⟨r, rfl, hc14, hg14⟩
        have HD14 := Lib.hid (HD13.out.step hc14 hg14)
        have HX14 := Lib.hid ((HX13.out.grown hg14 (by omega)).wide (Nat.le_refl _) hg14.size)
        clear hc14 hg14 HD13 HX13
        have HE14 : Hid (DrF w w14 B (M + 34) (.slice (some ⟨na, 0, none⟩) (t.length + 1) nc) (t ++ [⟨x0, x1, x2, x3, x4, x5, x6⟩])) := Lib.hid ⟨HD14.out.cur, HX14.out, HD14.out.gr⟩
        cases r
        · go_wp2_with fail
          go_roundw
          case rel => exact ⟨ob, oc, t, I, k - 1, by omega, rfl, rfl, hI9.1, by omega, rfl, by omega, Lib.hid ⟨HD14.out.cur.le_K (by omega), HD14.out.out, HD14.out.gr⟩⟩
          case measure => simp [intOf]; omega
        · go_wp2_with fail
          go_roundw
          case rel => exact ⟨na, nc, t ++ [⟨x0, x1, x2, x3, x4, x5, x6⟩], I, k - 1, by omega, rfl, rfl, hI9.1, by omega, by simp, (by simp only [List.length_append, List.length_singleton]; omega), Lib.hid (by simp only [List.length_append, List.length_singleton]; exact ⟨HE14.out.cur.le_K (by omega), HE14.out.out, HE14.out.gr⟩)⟩
          case measure => simp [intOf]; omega
      · have HE13 : Hid (DrF w w13 B (M + 32) (.slice (some ⟨na, 0, none⟩) (t.length + 1) nc) (t ++ [⟨x0, x1, x2, x3, x4, x5, x6⟩])) := Lib.hid ⟨HD13.out.cur, HX13.out, HD13.out.gr⟩
        go_wp2_with fail
        go_roundw
        case rel => exact ⟨na, nc, t ++ [⟨x0, x1, x2, x3, x4, x5, x6⟩], I, k - 1, by omega, rfl, rfl, hI9.1, by omega, by simp, (by simp only [List.length_append, List.length_singleton]; omega), Lib.hid (by simp only [List.length_append, List.length_singleton]; exact ⟨HE13.out.cur.le_K (by omega), HE13.out.out, HE13.out.gr⟩)⟩
        case measure => simp [intOf]; omega
    · obtain rfl : k = 0 := by omega
      clear hpos
      have HL := Lib.hid htl
      clear hk
      go_wp2_with fail
      refine (one_any B M 24 _ HD.out.cur (by omega) (by omega) (by omega)).mono ?_
      rintro e w2 ⟨r, rfl, hc2, hg2⟩
      have HD2 := Lib.hid (HD.out.step hc2 hg2)
      clear hc2 hg2 HD
      have hM2 : M ≤ K + 362 := by omega
      clear hM
      cases r
      · go_wp2_with fail
        go_ret
        exact ⟨_, t, rfl, by omega, ⟨⟨ob, 0, none⟩, oc, rfl⟩, HD2.out.cur.le_K (by omega), HD2.out.out, HD2.out.gr⟩
      · have HD3 : Hid (DrF w (w2.alloc (.cells #[] 43 (0, 0))) B (M + 2) (.slice (some ⟨w2.heap.size, 0, none⟩) 0 0) []) := Lib.hid ⟨(HD2.out.al _).cur, FisO.empty (lo := B + 1) w2 HD2.out.cur.lt, (HD2.out.al _).gr⟩
        have HF3 : Hid (FisO w.heap.size (w2.alloc (.cells #[] 43 (0, 0))).heap.size (w2.alloc (.cells #[] 43 (0, 0))) (.slice (some ⟨w2.heap.size, 0, none⟩) 0 0) []) := Lib.hid (FisO.empty (lo := w.heap.size) w2 HD2.out.gr.size)
        clear HD2 htl HL
        go_wp2_with fail
        obtain ⟨wo, hwo⟩ : ∃ x, x = wr := ⟨_, rfl⟩
        subst hwo
        go_loopw [3, 7] (fun o n wr => ∃ (v : Value) (k : Nat) (t : List Fi), k ≤ 11 ∧ n = .int .i64 k ∧ v = o ∧ t.length = k ∧ Hid (FisO w.heap.size wr.heap.size wr v t) ∧ Hid (DrF w wr B (M + 2 + 2 * k) v t)) (fun _ n _ => 12 - (intOf n).toNat)
        case atStart => exact ⟨_, 0, [], by omega, rfl, rfl, rfl, HF3, HD3⟩
        case round =>
          clear HD3 HF3
          obtain ⟨v, k, t, hk, rfl, rfl, htk, HF, HD⟩ := hrel
          have hkp : IntKind.i64.wrap ((k : Int) + 1) = (k : Int) + 1 := Go.IntWalk.i64_in _ (by omega)
          go_wp2_with fail
          refine (pick_any B (M + 2 + 2 * k) 2 _ HD.out.cur (by omega) (by omega) (by omega)).mono ?_
          rintro e w3 ⟨d, rfl, hd0, hd1, hc3, hg3⟩
          have HD3 := Lib.hid (HD.out.step hc3 hg3)
          have HF3 := Lib.hid ((HF.out.grown hg3 hlt).wide (Nat.le_refl _) hg3.size)
          clear hc3 hg3 HD HF
          have hw : IntKind.i64.wrap (10 + d) = 10 + d := Go.IntWalk.i64_in _ (by omega)
          by_cases hq : (k : Int) < 10 + d
          · have hO : w3.ownsRow w.heap.size 43 7 v k ((t.map fiC).flatten) := by
              have := HF3.out.1.1
              rw [List.length_map, htk] at this
              exact this
            have hlt2 : decide ((k : Int) < 10 + d) = true := decide_eq_true hq
            have HOK := Lib.hid HD3.out.out.2.1
            have hl3 := HD3.out.cur.lt
            go_wp2_with (first | (at_builtin; refine wpList_append_own _ rfl _ _ 24 rfl w.heap.size 43 i0 (.agg #[.int .i64 0, .int .i64 0, .string ⟨#[]⟩, .int .i64 0, .int .i64 0, .int .i64 0, .int .i64 0]) 7 64 Tryd.underlying24 hi hz0 hz1 hz2 rfl (by decide) v k ((t.map fiC).flatten) rfl (hO.alloc _) ⟨w3.heap.size, 0, none⟩ 1 1 [.int .i64 ((k : Int) + 1), .int .i64 ((k : Int) + 1), .string ⟨#[120]⟩, .int .i64 0, .int .i64 0, .int .i64 0, .int .i64 9] rfl rfl (cells7_new' _ _ _ _ _ _ _ _ _ rfl) (by simp [Value.oneCell']) (by unfold maxLen; omega) (by omega) (by simp; have := HD3.out.gr.size; omega) ?_; intro v' w4 hown' hgrow _))
            have HX : Hid (FisO w.heap.size w4.heap.size w4 v' (t ++ [⟨(k : Int) + 1, (k : Int) + 1, ⟨#[120]⟩, 0, 0, 0, 9⟩])) := Lib.hid (FisO.of_row (n := k + 1) (by
              have e : ((t ++ [(⟨(k : Int) + 1, (k : Int) + 1, ⟨#[120]⟩, 0, 0, 0, 9⟩ : Fi)]).map fiC).flatten = ((t.map fiC).flatten ++ [.int .i64 ((k : Int) + 1), .int .i64 ((k : Int) + 1), .string ⟨#[120]⟩, .int .i64 0, .int .i64 0, .int .i64 0, .int .i64 9] : List Value) := by
                rw [List.map_append, List.flatten_append]
                simp [fiC]
              rw [e]; exact hown') (by simp [htk]) (fun f hf => by
              rcases List.mem_append.1 hf with h | h
              · exact HOK.out f h
              · rw [List.mem_singleton.1 h]; exact lit_okF k (by omega)))
            have hb4 : Below (B + 1) w3 w4 := Below.grown (Below.alloc (Below.refl (B + 1) w3) hl3 _) hgrow (by simp; omega) (fun kk hk => by have := (hO.lt kk hk).1; omega)
            have hb5 : w.grownBy w4 (some B) := gr_appF HD3.out.gr hgrow (fun kk hk => (hO.lt kk hk).1)
            have HE : Hid (DrF w w4 B (M + 2 + 2 * k + 2) v' (t ++ [⟨(k : Int) + 1, (k : Int) + 1, ⟨#[120]⟩, 0, 0, 0, 9⟩])) := Lib.hid ⟨HD3.out.cur.later hb4, HX.out.wide hlt (Nat.le_refl _), hb5⟩
            clear hown' hgrow hO hb4 hb5 HD3 HF3 HOK
            go_wp2_with fail
            go_roundw
            case rel => exact ⟨v', k + 1, t ++ [⟨(k : Int) + 1, (k : Int) + 1, ⟨#[120]⟩, 0, 0, 0, 9⟩], by omega, by go_num, rfl, by simp [htk], HX, Lib.hid ⟨HE.out.cur.le_K (by omega), HE.out.out, HE.out.gr⟩⟩
            case measure => simp [intOf]; omega
          · have hlt2 : decide ((k : Int) < 10 + d) = false := decide_eq_false hq
            go_wp2_with fail
            go_ret
            exact ⟨_, t, rfl, by omega, (by obtain ⟨g, c, hg⟩ := own_formF HD3.out.out.1.1 (by rw [List.length_map]; omega); exact ⟨_, c, by rw [List.length_map] at hg; exact hg⟩), HD3.out.cur.le_K (by omega), HD3.out.out, HD3.out.gr⟩
end Go.Proofs.YtpbjddiopfkgbaaDoor
