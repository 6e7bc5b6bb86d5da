/- The draw of a schedule that is mostly for a record's series. -/
import Derived.Test.YtdbomnhakikmfaaDrawSc
import Derived.Test.YtdbomnhakikmfaaGen
namespace Go.Proofs.Ytdbomnhakikmfaa
set_option linter.unusedVariables false
set_option linter.unusedSimpArgs false
open Go.RowKit Go.Sort

theorem RusO.setOther {lo hi G j : Nat} {w : World} {v x : Value} {t : List Ru} (h : RusO lo hi w v t) (hn : ∀ k, v.ownBlock = some k → k ≠ G) : RusO lo hi (w.setCell ⟨G, j, none⟩ x) v t := by
  refine ⟨⟨h.1.1.kept (row := some G) ⟨rfl, rfl, rfl, by simp, fun k _ hk => Below.heap_setCell w ⟨G, j, none⟩ x k (fun e => hk (by rw [e]))⟩ ?_, h.1.2⟩, h.2⟩
  rcases hv : v.ownBlock with _ | k
  · exact .inl rfl
  · exact .inr fun e => hn k hv (Option.some.inj e)
/-- What the loop carries: the cursor, the record's box, its events, the list. -/
structure SSt (w wx : World) (B K F lo hi : Nat) (x0 x1 x2 : Int) (g c : Nat) (xs : List Ev) (l : Value) (t : List Ru) (u : Nat) : Prop where
  dk : Dk w wx B K
  box : BxV wx F [.int .i64 x0, .int .i64 x1, .int .i64 x2, .slice (some ⟨g, 0, none⟩) xs.length c]
  evs : EvsO lo hi wx (.slice (some ⟨g, 0, none⟩) xs.length c) xs
  rus : RusO w.heap.size u wx l t
section
variable {w wx w9 : World} {B K K9 F lo hi u u9 : Nat} {x0 x1 x2 : Int} {g c : Nat} {xs : List Ev} {l l9 : Value} {t t9 : List Ru}
theorem SSt.step (h : SSt w wx B K F lo hi x0 x1 x2 g c xs l t u) (hB : B < w.heap.size) (hF : w.heap.size ≤ F) (hlo : B < lo) (hc : Cur w9 B K9) (hg : wx.grownBy w9 (some B)) : SSt w w9 B K9 F lo hi x0 x1 x2 g c xs l t u :=
  ⟨h.dk.step hc hg, h.box.grown hg (by simp; omega), h.evs.grown hg hlo, h.rus.grown hg hB⟩
theorem SSt.below (h : SSt w wx B K F lo hi x0 x1 x2 g c xs l t u) (hb : Below wx.heap.size wx w9) : SSt w w9 B K F lo hi x0 x1 x2 g c xs l t u := ⟨h.dk.below hb, h.box.below hb, h.evs.below hb, h.rus.below hb⟩
theorem SSt.al (h : SSt w wx B K F lo hi x0 x1 x2 g c xs l t u) (o : Obj) : SSt w (wx.alloc o) B K F lo hi x0 x1 x2 g c xs l t u := h.below (below_al (Below.refl _ _) o)
theorem SSt.drew (h : SSt w wx B K F lo hi x0 x1 x2 g c xs l t u) : SSt w wx.drew B K F lo hi x0 x1 x2 g c xs l t u := h.below (Below.refl _ _).drew
theorem SSt.le (h : SSt w wx B K F lo hi x0 x1 x2 g c xs l t u) (hk : K ≤ K9) (hu : u ≤ u9) : SSt w wx B K9 F lo hi x0 x1 x2 g c xs l t u9 := ⟨h.dk.le hk, h.box, h.evs, h.rus.wide (Nat.le_refl _) hu⟩
theorem SSt.lst (h : SSt w wx B K F lo hi x0 x1 x2 g c xs l t u) (hr : RusO w.heap.size u9 wx l9 t9) : SSt w wx B K F lo hi x0 x1 x2 g c xs l9 t9 u9 := ⟨h.dk, h.box, h.evs, hr⟩
theorem SSt.put {G j : Nat} {x : Value} (h : SSt w wx B K F lo hi x0 x1 x2 g c xs l t u) (hG : w.heap.size ≤ G) (hB : B < w.heap.size) (hF : F < G) (hg : g ≠ G) (hu : u ≤ G) : SSt w (wx.setCell ⟨G, j, none⟩ x) B K F lo hi x0 x1 x2 g c xs l t u :=
  ⟨h.dk.set hG (by omega), h.box.other (by omega), h.evs.setOther (fun k hk => by simp [Value.ownBlock] at hk; omega), h.rus.setOther (fun k hk => by have := h.rus.2.2 k hk; omega)⟩
end
theorem SSt.f1 {w wx : World} {B K F lo hi u : Nat} {x0 x1 x2 : Int} {g c : Nat} {xs : List Ev} {l : Value} {t : List Ru} (h : SSt w wx B K F lo hi x0 x1 x2 g c xs l t u) : wx.cell? ⟨F, 1, none⟩ = some (.int .i64 x1) := by have := h.box.cell 1; simpa using this
set_option maxRecDepth 20000 in
set_option maxHeartbeats 8000000 in
theorem suited_any (B K lo hi : Nat) (x0 x1 x2 : Int) (g c : Nat) (xs : List Ev) (w : World) (h : Cur w B K) (hK : K ≤ 40000) (he : EvsO lo hi w (.slice (some ⟨g, 0, none⟩) xs.length c) xs) (hBlo : B < lo) (hhi : hi ≤ w.heap.size) (ix1 : inI x1) (hxl : xs.length ≤ 16) :
    Calls Try.prog 53 #[.pointer (some ⟨B, 0, none⟩), .agg #[.int .i64 x0, .int .i64 x1, .int .i64 x2, .slice (some ⟨g, 0, none⟩) xs.length c]] w (SchDrawn w B (K + 500)) := by
  have hlt := h.lt
  obtain ⟨F, hF⟩ : ∃ F, w.heap.size = F := ⟨_, rfl⟩
  have hwF : w.heap.size ≤ F := by omega
  have hgF : g < F := by have := he.2.2 g rfl; omega
  have HD0 : Hid (Dk w (w.alloc (.cells #[.int .i64 x0, .int .i64 x1, .int .i64 x2, .slice (some ⟨g, 0, none⟩) xs.length c] 27 (0, 0))) B K) := Lib.hid ((Dk.start h).al _)
  have HB0 : Hid (BxV (w.alloc (.cells #[.int .i64 x0, .int .i64 x1, .int .i64 x2, .slice (some ⟨g, 0, none⟩) xs.length c] 27 (0, 0))) F [.int .i64 x0, .int .i64 x1, .int .i64 x2, .slice (some ⟨g, 0, none⟩) xs.length c]) := Lib.hid (BxV.new' hF _ _)
  have HE0 := Lib.hid (he.below (below_al (Below.refl _ _) (.cells #[.int .i64 x0, .int .i64 x1, .int .i64 x2, .slice (some ⟨g, 0, none⟩) xs.length c] 27 (0, 0))))
  clear h he
  go_enter Try.func53, Try.ntmps53
  go_wp2_with fail
  refine (schedule_any B K _ HD0.out.cur (by omega)).mono ?_
  rintro e w1 ⟨l0, t0, rfl, htl0, hr0, hc, hg⟩
  have HS1 : Hid (SSt w w1 B (K + 400) F lo hi x0 x1 x2 g c xs l0 t0 w1.heap.size) := Lib.hid ⟨HD0.out.step hc hg, HB0.out.grown hg (by simp; omega), HE0.out.grown hg hBlo, hr0.wide (by simp) (Nat.le_refl _)⟩
  clear hc hg hr0 HD0 HB0 HE0
  try rw [hF]
  have HF := Lib.hid hF
  clear hF
  go_wp2_with fail
  refine (pick_any B (K + 400) 4 _ HS1.out.dk.cur (by omega) (by omega) (by omega)).mono ?_
  rintro e w2 ⟨n0, rfl, hn0, hn1, hc, hg⟩
  obtain ⟨N, rfl⟩ := Int.eq_ofNat_of_zero_le hn0
  have hN : N ≤ 3 := by omega
  have HS2 := Lib.hid ((HS1.out.step hlt hwF hBlo hc hg).le (Nat.le_refl _) hg.size)
  clear hc hg hn0 hn1 HS1
  go_wp2_with fail
  go_loopw [5, 6] (fun l n wr => ∃ (k : Nat) (t : List Ru), k ≤ N ∧ n = .int .i64 k ∧ t.length ≤ 16 ∧ Hid (SSt w wr B (K + 402 + 20 * (N - k)) F lo hi x0 x1 x2 g c xs l t wr.heap.size)) (fun _ n _ => (intOf n).toNat)
  case atStart => exact ⟨N, t0, Nat.le_refl _, rfl, htl0, Lib.hid (HS2.out.le (by omega) (Nat.le_refl _))⟩
  case round =>
    clear HS2
    obtain ⟨k, t, hk, rfl, htl, HS⟩ := hrel
    obtain ⟨M, hM⟩ : ∃ M, K + 402 + 20 * (N - k) = M := ⟨_, rfl⟩
    rw [hM] at HS
    have HM : Hid (k ≤ N ∧ K + 402 + 20 * (N - k) = M) := Lib.hid ⟨hk, hM⟩
    have hM2 : M ≤ K + 470 := by omega
    clear hM
    by_cases hpos : 0 < k
    · have gk : (0 : Int) < (k : Int) := by omega
      have gk2 : decide ((0 : Int) < (k : Int)) = true := decide_eq_true gk
      have hkw : IntKind.i64.wrap ((k : Int) - 1) = ((k - 1 : Nat) : Int) := by
        rw [Go.IntWalk.i64_in _ (by omega)]
        omega
      go_wp2_with fail
      refine (l4Good_any _ t _ HS.out.rus.row).mono ?_
      rintro e w4 ⟨rfl, b4⟩
      have HS4 := Lib.hid ((HS.out.below b4).le (Nat.le_refl _) b4.size)
      clear b4 HS
      rcases hsch : isSch t with _ | _
      · try rw [hsch]
        go_wp2_with fail
        go_ret
        exact ⟨_, t, rfl, by omega, HS4.out.rus, HS4.out.dk.cur.le_K (by omega), HS4.out.dk.gr⟩
      · try rw [hsch]
        clear hsch
        go_upto_region 5 with fail
        go_cut [7] (fun q wx => ∃ (G : Nat) (ev dy p : Int), q = .pointer (some ⟨G, 0, none⟩) ∧ (0 ≤ ev ∧ ev ≤ 3) ∧ (0 ≤ dy ∧ dy ≤ 1000) ∧ (0 ≤ p ∧ p < 3) ∧ F < G ∧ w4.heap.size ≤ G ∧ Hid (SSt w wx B (M + 6) F lo hi x0 x1 x2 g c xs u5 t w4.heap.size) ∧ Hid (BxV wx G [.int .i64 x1, .int .i64 ev, .int .i64 dy, .int .i64 (1 + p)]))
        case first =>
          have hHd0 := HS4.out.drew.f1
          have HSd := Lib.hid HS4.out.drew
          refine wp_region_held_drew (S := (fun w' : World => w'.cell? ⟨F, 1, none⟩ = some (.int .i64 x1))) (by kernel_rfl) ?_ (fun hHeld => ?_)
          · exact HS4.out.drew.f1
          clear hHd0
          have HB4 : Hid (B < w4.heap.size ∧ F < w4.heap.size ∧ w.heap.size ≤ w4.heap.size) := Lib.hid ⟨HS4.out.dk.cur.lt, HS4.out.box.lt, HS4.out.dk.sz⟩
          clear HS4
          refine gen_dr (W := w4) ?_
          intro W0 hW0 hz0
          have HS0_ := Lib.hid (by rw [hW0]; exact HSd.out : SSt w W0 B (M + 0) F lo hi x0 x1 x2 g c xs u5 t w4.heap.size)
          have HT0_ : Hid (w4.heap.size ≤ W0.heap.size) := Lib.hid (by rw [hz0]; exact Nat.le_refl _)
          replace hHeld : (fun w' : World => w'.cell? ⟨F, 1, none⟩ = some (.int .i64 x1)) W0 := HS0_.out.f1
          clear hW0 hz0 HSd
          refine wpAnyH_take (i := 0) (v := ?_) rfl (by kernel_rfl) (by kernel_rfl) (by kernel_rfl) (fun _ _ _ h => h) (Or.inl ⟨by rfl, ?_⟩) (by assumption) ?_
          rotate_left
          · (intro w hSw; (try dsimp only at hSw); go_simp; first | done | with_reducible rfl)
          (try simp only [Act.put, List.setIfInBounds_toArray, List.set_cons_zero, List.set_cons_succ, List.getElem_toArray, List.getElem_cons_succ, List.getElem_cons_zero])
          refine wpAnyH_take (i := 1) (v := ?_) rfl (by kernel_rfl) (by kernel_rfl) (by kernel_rfl) (fun _ _ _ h => h) (Or.inl ⟨by rfl, ?_⟩) (by assumption) ?_
          rotate_left
          · (intro w hSw; (try dsimp only at hSw); go_simp; first | done | with_reducible rfl)
          (try simp only [Act.put, List.setIfInBounds_toArray, List.set_cons_zero, List.set_cons_succ, List.getElem_toArray, List.getElem_cons_succ, List.getElem_cons_zero])
          refine wpAnyH_take (i := 2) (v := ?_) rfl (by kernel_rfl) (by kernel_rfl) (by kernel_rfl) (fun _ _ _ h => h) (Or.inl ⟨by rfl, ?_⟩) (by assumption) ?_
          rotate_left
          · (intro w hSw; (try dsimp only at hSw); go_simp; first | done | with_reducible rfl)
          (try simp only [Act.put, List.setIfInBounds_toArray, List.set_cons_zero, List.set_cons_succ, List.getElem_toArray, List.getElem_cons_succ, List.getElem_cons_zero])
          refine wpAnyH_take (i := 5) (v := ?_) rfl (by kernel_rfl) (by kernel_rfl) (by kernel_rfl) (fun _ _ _ h => h) (Or.inl ⟨by rfl, ?_⟩) (by assumption) ?_
          rotate_left
          · (intro w hSw; (try dsimp only at hSw); go_simp; first | done | with_reducible rfl)
          (try simp only [Act.put, List.setIfInBounds_toArray, List.set_cons_zero, List.set_cons_succ, List.getElem_toArray, List.getElem_cons_succ, List.getElem_cons_zero])
          refine wpAnyH_take (i := 8) (v := ?_) rfl (by kernel_rfl) (by kernel_rfl) (by kernel_rfl) (fun _ _ _ h => h) (Or.inl ⟨by rfl, ?_⟩) (by assumption) ?_
          rotate_left
          · (intro w hSw; (try dsimp only at hSw); go_simp; first | done | with_reducible rfl)
          (try simp only [Act.put, List.setIfInBounds_toArray, List.set_cons_zero, List.set_cons_succ, List.getElem_toArray, List.getElem_cons_succ, List.getElem_cons_zero])
          refine wpAnyH_ready (rs := [3, 6, 12]) (by kernel_rfl) (by simp) ?_
          refine AllReadyH.cons rfl (fun K hK => ?_) (AllReadyH.cons rfl (fun K hK => ?_) (AllReadyH.cons rfl (fun K hK => ?_) AllReadyH.nil))
          · go_simp
            refine hK.out _ _ ?_ (fun hHeld => ?_)
            · exact (HS0_.out.al _).f1
            · clear hK K hHeld
              (try simp only [Act.put, List.setIfInBounds_toArray, List.set_cons_zero, List.set_cons_succ, List.getElem_toArray, List.getElem_cons_succ, List.getElem_cons_zero])
              refine gen_al (W := W0) ?_
              intro W1 hWn
              have HS1_ := Lib.hid (by rw [hWn]; exact HS0_.out.al _ : SSt w W1 B (M + 0) F lo hi x0 x1 x2 g c xs u5 t w4.heap.size)
              have HT1_ : Hid (w4.heap.size ≤ W1.heap.size) := Lib.hid (by rw [hWn]; exact Nat.le_trans HT0_.out (by simp))
              have HL1_3 : Hid (NL W1 W0.heap.size [0, 0, 1, 2, 3]) := Lib.hid (by rw [hWn]; exact new_nums W0 [0, 0, 1, 2, 3] 3 _ rfl)
              have HN1_3 : Hid (W0.heap.size ≠ B) := Lib.hid (by have := HS0_.out.dk.cur.lt; omega)
              have hHeld : (fun w' : World => w'.cell? ⟨F, 1, none⟩ = some (.int .i64 x1)) W1 := HS1_.out.f1
              clear hWn HS0_ HT0_
              refine wpAnyH_ready (rs := [4, 6, 12]) (by kernel_rfl) (by simp) ?_
              refine AllReadyH.cons rfl (fun K hK => ?_) (AllReadyH.cons rfl (fun K hK => ?_) (AllReadyH.cons rfl (fun K hK => ?_) AllReadyH.nil))
              · go_simp
                go_at_call 76
                refine (amongZ_any B (M + 0) W0.heap.size 0 5 5 [0, 0, 1, 2, 3] _ HS1_.out.dk.cur (by omega) rfl (by omega) (by omega) HN1_3.out HL1_3.out).mono ?_
                rintro e W2 ⟨ev, rfl, mev, hc, hg⟩
                have bev : 0 ≤ ev ∧ ev ≤ 3 := by simp at mev; omega
                clear mev
                have HS2_ := Lib.hid (HS1_.out.step hlt hwF hBlo hc hg)
                have HT2_ : Hid (w4.heap.size ≤ W2.heap.size) := Lib.hid (Nat.le_trans HT1_.out hg.size)
                clear hc hg HS1_ HT1_ HL1_3
                (try go_wp2_with fail)
                refine hK.out _ _ ?_ (fun hHeld => ?_)
                · exact HS2_.out.f1
                · clear hK K
                  (try simp only [Act.put, List.setIfInBounds_toArray, List.set_cons_zero, List.set_cons_succ, List.getElem_toArray, List.getElem_cons_succ, List.getElem_cons_zero])
                  refine wpAnyH_ready (rs := [6, 12]) (by kernel_rfl) (by simp) ?_
                  refine AllReadyH.cons rfl (fun K hK => ?_) (AllReadyH.cons rfl (fun K hK => ?_) AllReadyH.nil)
                  · go_simp
                    refine hK.out _ _ ?_ (fun hHeld => ?_)
                    · exact (HS2_.out.al _).f1
                    · clear hK K hHeld
                      (try simp only [Act.put, List.setIfInBounds_toArray, List.set_cons_zero, List.set_cons_succ, List.getElem_toArray, List.getElem_cons_succ, List.getElem_cons_zero])
                      refine gen_al (W := W2) ?_
                      intro W3 hWn
                      have HS3_ := Lib.hid (by rw [hWn]; exact HS2_.out.al _ : SSt w W3 B (M + 2) F lo hi x0 x1 x2 g c xs u5 t w4.heap.size)
                      have HT3_ : Hid (w4.heap.size ≤ W3.heap.size) := Lib.hid (by rw [hWn]; exact Nat.le_trans HT2_.out (by simp))
                      have HL3_6 : Hid (NL W3 W2.heap.size [0, 30, 365, 1000]) := Lib.hid (by rw [hWn]; exact new_nums W2 [0, 30, 365, 1000] 3 _ rfl)
                      have HN3_6 : Hid (W2.heap.size ≠ B) := Lib.hid (by have := HS2_.out.dk.cur.lt; omega)
                      have hHeld : (fun w' : World => w'.cell? ⟨F, 1, none⟩ = some (.int .i64 x1)) W3 := HS3_.out.f1
                      clear hWn HS2_ HT2_
                      refine wpAnyH_ready (rs := [7, 12]) (by kernel_rfl) (by simp) ?_
                      refine AllReadyH.cons rfl (fun K hK => ?_) (AllReadyH.cons rfl (fun K hK => ?_) AllReadyH.nil)
                      · go_simp
                        go_at_call 76
                        refine (amongZ_any B (M + 2) W2.heap.size 0 4 4 [0, 30, 365, 1000] _ HS3_.out.dk.cur (by omega) rfl (by omega) (by omega) HN3_6.out HL3_6.out).mono ?_
                        rintro e W4 ⟨dy, rfl, mdy, hc, hg⟩
                        have bdy : 0 ≤ dy ∧ dy ≤ 1000 := by simp at mdy; omega
                        clear mdy
                        have HS4_ := Lib.hid (HS3_.out.step hlt hwF hBlo hc hg)
                        have HT4_ : Hid (w4.heap.size ≤ W4.heap.size) := Lib.hid (Nat.le_trans HT3_.out hg.size)
                        clear hc hg HS3_ HT3_ HL3_6
                        (try go_wp2_with fail)
                        refine hK.out _ _ ?_ (fun hHeld => ?_)
                        · exact HS4_.out.f1
                        · clear hK K
                          (try simp only [Act.put, List.setIfInBounds_toArray, List.set_cons_zero, List.set_cons_succ, List.getElem_toArray, List.getElem_cons_succ, List.getElem_cons_zero])
                          refine wpAnyH_ready (rs := [9, 12]) (by kernel_rfl) (by simp) ?_
                          refine AllReadyH.cons rfl (fun K hK => ?_) (AllReadyH.cons rfl (fun K hK => ?_) AllReadyH.nil)
                          · go_simp
                            go_at_call 55
                            refine (pick_any B (M + 4) 3 _ HS4_.out.dk.cur (by omega) (by omega) (by omega)).mono ?_
                            rintro e W5 ⟨p, rfl, hp0, hp1, hc, hg⟩
                            have hwp : IntKind.i64.wrap (1 + p) = 1 + p := Go.IntWalk.i64_in _ (by omega)
                            have HS5_ := Lib.hid (HS4_.out.step hlt hwF hBlo hc hg)
                            have HT5_ : Hid (w4.heap.size ≤ W5.heap.size) := Lib.hid (Nat.le_trans HT4_.out hg.size)
                            clear hc hg HS4_ HT4_
                            (try go_wp2_with fail)
                            refine hK.out _ _ ?_ (fun hHeld => ?_)
                            · exact HS5_.out.f1
                            · clear hK K
                              (try simp only [Act.put, List.setIfInBounds_toArray, List.set_cons_zero, List.set_cons_succ, List.getElem_toArray, List.getElem_cons_succ, List.getElem_cons_zero])
                              refine wpAnyH_take (i := 10) (v := ?_) rfl (by kernel_rfl) (by kernel_rfl) (by kernel_rfl) (fun _ _ _ h => h) (Or.inl ⟨by rfl, ?_⟩) (by assumption) ?_
                              rotate_left
                              · (intro w hSw; (try dsimp only at hSw); go_simp; first | done | with_reducible rfl)
                              (try simp only [Act.put, List.setIfInBounds_toArray, List.set_cons_zero, List.set_cons_succ, List.getElem_toArray, List.getElem_cons_succ, List.getElem_cons_zero])
                              refine wpAnyH_take (i := 11) (v := ?_) rfl (by kernel_rfl) (by kernel_rfl) (by kernel_rfl) (fun _ _ _ h => h) (Or.inl ⟨by rfl, ?_⟩) (by assumption) ?_
                              rotate_left
                              · (intro w hSw; (try dsimp only at hSw); go_simp; first | done | with_reducible rfl)
                              (try simp only [Act.put, List.setIfInBounds_toArray, List.set_cons_zero, List.set_cons_succ, List.getElem_toArray, List.getElem_cons_succ, List.getElem_cons_zero])
                              refine wpAnyH_ready (rs := [12]) (by kernel_rfl) (by simp) ?_
                              refine AllReadyH.cons rfl (fun K hK => ?_) AllReadyH.nil
                              · go_simp
                                refine hK.out _ _ ?_ (fun hHeld => ?_)
                                · exact (HS5_.out.al _).f1
                                · clear hK K hHeld
                                  (try simp only [Act.put, List.setIfInBounds_toArray, List.set_cons_zero, List.set_cons_succ, List.getElem_toArray, List.getElem_cons_succ, List.getElem_cons_zero])
                                  refine gen_al (W := W5) ?_
                                  intro W6 hWn
                                  have HS6_ := Lib.hid (by rw [hWn]; exact HS5_.out.al _ : SSt w W6 B (M + 6) F lo hi x0 x1 x2 g c xs u5 t w4.heap.size)
                                  have HT6_ : Hid (w4.heap.size ≤ W6.heap.size) := Lib.hid (by rw [hWn]; exact Nat.le_trans HT5_.out (by simp))
                                  have HG6_ : Hid (BxV W6 W5.heap.size [.int .i64 0, .int .i64 0, .int .i64 0, .int .i64 0]) := Lib.hid (by rw [hWn]; exact BxV.new W5 _ _)
                                  have HGT : Hid (w4.heap.size ≤ W5.heap.size) := HT5_
                                  have hHeld : (fun w' : World => w'.cell? ⟨F, 1, none⟩ = some (.int .i64 x1)) W6 := HS6_.out.f1
                                  clear hWn HS5_ HT5_
                                  have q1 : w.heap.size ≤ W5.heap.size := by have := HGT.out; have := HB4.out; omega
                                  have q2 : F < W5.heap.size := by have := HGT.out; have := HB4.out; omega
                                  have q3 : g ≠ W5.heap.size := by have := HGT.out; have := HB4.out; omega
                                  have q4 : w4.heap.size ≤ W5.heap.size := HGT.out
                                  have z0 := HG6_.out.cell 0
                                  have z1 := HG6_.out.cell 1
                                  have z2 := HG6_.out.cell 2
                                  have z3 := HG6_.out.cell 3
                                  have y0 := HG6_.out.frozen 0
                                  have y1 := HG6_.out.frozen 1
                                  have y2 := HG6_.out.frozen 2
                                  have y3 := HG6_.out.frozen 3
                                  simp at z0 z1 z2 z3
                                  have HF9 := Lib.hid (SSt.put (G := W5.heap.size) (j := 3) (x := .int .i64 (1 + p)) (SSt.put (G := W5.heap.size) (j := 2) (x := .int .i64 dy) (SSt.put (G := W5.heap.size) (j := 1) (x := .int .i64 ev) (SSt.put (G := W5.heap.size) (j := 0) (x := .int .i64 x1) HS6_.out q1 hlt q2 q3 q4) q1 hlt q2 q3 q4) q1 hlt q2 q3 q4) q1 hlt q2 q3 q4)
                                  have HB9 := Lib.hid (BxV.set (cs' := [.int .i64 x1, .int .i64 ev, .int .i64 dy, .int .i64 (1 + p)]) 3 (.int .i64 (1 + p)) (BxV.set (cs' := [.int .i64 x1, .int .i64 ev, .int .i64 dy, .int .i64 0]) 2 (.int .i64 dy) (BxV.set (cs' := [.int .i64 x1, .int .i64 ev, .int .i64 0, .int .i64 0]) 1 (.int .i64 ev) (BxV.set (cs' := [.int .i64 x1, .int .i64 0, .int .i64 0, .int .i64 0]) 0 (.int .i64 x1) HG6_.out rfl) rfl) rfl) rfl)
                                  refine wpAnyH_ready (rs := [13]) (by kernel_rfl) (by simp) ?_
                                  refine AllReadyH.cons rfl (fun K hK => ?_) AllReadyH.nil
                                  go_simp
                                  refine hK.out _ _ ?_ (fun hHeld => ?_)
                                  · exact HF9.out.f1
                                  · clear hK K
                                    (try simp only [Act.put, List.setIfInBounds_toArray, List.set_cons_zero, List.set_cons_succ, List.getElem_toArray, List.getElem_cons_succ, List.getElem_cons_zero])
                                    refine wpAnyH_done (by kernel_rfl) ?_ _
                                    (try go_wp2_with fail)
                                    go_meet
                                    exact ⟨_, ev, dy, p, rfl, bev, bdy, ⟨hp0, hp1⟩, q2, q4, HF9, HB9⟩
                          · go_simp
                            refine hK.out _ _ ?_ (fun hHeld => ?_)
                            · exact (HS4_.out.al _).f1
                            · clear hK K hHeld
                              (try simp only [Act.put, List.setIfInBounds_toArray, List.set_cons_zero, List.set_cons_succ, List.getElem_toArray, List.getElem_cons_succ, List.getElem_cons_zero])
                              refine gen_al (W := W4) ?_
                              intro W7 hWn
                              have HS7_ := Lib.hid (by rw [hWn]; exact HS4_.out.al _ : SSt w W7 B (M + 4) F lo hi x0 x1 x2 g c xs u5 t w4.heap.size)
                              have HT7_ : Hid (w4.heap.size ≤ W7.heap.size) := Lib.hid (by rw [hWn]; exact Nat.le_trans HT4_.out (by simp))
                              have HG7_ : Hid (BxV W7 W4.heap.size [.int .i64 0, .int .i64 0, .int .i64 0, .int .i64 0]) := Lib.hid (by rw [hWn]; exact BxV.new W4 _ _)
                              have HGT : Hid (w4.heap.size ≤ W4.heap.size) := HT4_
                              have hHeld : (fun w' : World => w'.cell? ⟨F, 1, none⟩ = some (.int .i64 x1)) W7 := HS7_.out.f1
                              clear hWn HS4_ HT4_
                              refine wpAnyH_ready (rs := [9]) (by kernel_rfl) (by simp) ?_
                              refine AllReadyH.cons rfl (fun K hK => ?_) AllReadyH.nil
                              · go_simp
                                go_at_call 55
                                refine (pick_any B (M + 4) 3 _ HS7_.out.dk.cur (by omega) (by omega) (by omega)).mono ?_
                                rintro e W8 ⟨p, rfl, hp0, hp1, hc, hg⟩
                                have hwp : IntKind.i64.wrap (1 + p) = 1 + p := Go.IntWalk.i64_in _ (by omega)
                                have HS8_ := Lib.hid (HS7_.out.step hlt hwF hBlo hc hg)
                                have HT8_ : Hid (w4.heap.size ≤ W8.heap.size) := Lib.hid (Nat.le_trans HT7_.out hg.size)
                                have HG8_ : Hid (BxV W8 W4.heap.size [.int .i64 0, .int .i64 0, .int .i64 0, .int .i64 0]) := Lib.hid (HG7_.out.grown hg (by have := HGT.out; have := HB4.out; simp; omega))
                                clear hc hg HS7_ HT7_ HG7_
                                (try go_wp2_with fail)
                                refine hK.out _ _ ?_ (fun hHeld => ?_)
                                · exact HS8_.out.f1
                                · clear hK K
                                  (try simp only [Act.put, List.setIfInBounds_toArray, List.set_cons_zero, List.set_cons_succ, List.getElem_toArray, List.getElem_cons_succ, List.getElem_cons_zero])
                                  refine wpAnyH_take (i := 10) (v := ?_) rfl (by kernel_rfl) (by kernel_rfl) (by kernel_rfl) (fun _ _ _ h => h) (Or.inl ⟨by rfl, ?_⟩) (by assumption) ?_
                                  rotate_left
                                  · (intro w hSw; (try dsimp only at hSw); go_simp; first | done | with_reducible rfl)
                                  (try simp only [Act.put, List.setIfInBounds_toArray, List.set_cons_zero, List.set_cons_succ, List.getElem_toArray, List.getElem_cons_succ, List.getElem_cons_zero])
                                  refine wpAnyH_take (i := 11) (v := ?_) rfl (by kernel_rfl) (by kernel_rfl) (by kernel_rfl) (fun _ _ _ h => h) (Or.inl ⟨by rfl, ?_⟩) (by assumption) ?_
                                  rotate_left
                                  · (intro w hSw; (try dsimp only at hSw); go_simp; first | done | with_reducible rfl)
                                  (try simp only [Act.put, List.setIfInBounds_toArray, List.set_cons_zero, List.set_cons_succ, List.getElem_toArray, List.getElem_cons_succ, List.getElem_cons_zero])
                                  have q1 : w.heap.size ≤ W4.heap.size := by have := HGT.out; have := HB4.out; omega
                                  have q2 : F < W4.heap.size := by have := HGT.out; have := HB4.out; omega
                                  have q3 : g ≠ W4.heap.size := by have := HGT.out; have := HB4.out; omega
                                  have q4 : w4.heap.size ≤ W4.heap.size := HGT.out
                                  have z0 := HG8_.out.cell 0
                                  have z1 := HG8_.out.cell 1
                                  have z2 := HG8_.out.cell 2
                                  have z3 := HG8_.out.cell 3
                                  have y0 := HG8_.out.frozen 0
                                  have y1 := HG8_.out.frozen 1
                                  have y2 := HG8_.out.frozen 2
                                  have y3 := HG8_.out.frozen 3
                                  simp at z0 z1 z2 z3
                                  have HF9 := Lib.hid (SSt.put (G := W4.heap.size) (j := 3) (x := .int .i64 (1 + p)) (SSt.put (G := W4.heap.size) (j := 2) (x := .int .i64 dy) (SSt.put (G := W4.heap.size) (j := 1) (x := .int .i64 ev) (SSt.put (G := W4.heap.size) (j := 0) (x := .int .i64 x1) HS8_.out q1 hlt q2 q3 q4) q1 hlt q2 q3 q4) q1 hlt q2 q3 q4) q1 hlt q2 q3 q4)
                                  have HB9 := Lib.hid (BxV.set (cs' := [.int .i64 x1, .int .i64 ev, .int .i64 dy, .int .i64 (1 + p)]) 3 (.int .i64 (1 + p)) (BxV.set (cs' := [.int .i64 x1, .int .i64 ev, .int .i64 dy, .int .i64 0]) 2 (.int .i64 dy) (BxV.set (cs' := [.int .i64 x1, .int .i64 ev, .int .i64 0, .int .i64 0]) 1 (.int .i64 ev) (BxV.set (cs' := [.int .i64 x1, .int .i64 0, .int .i64 0, .int .i64 0]) 0 (.int .i64 x1) HG8_.out rfl) rfl) rfl) rfl)
                                  refine wpAnyH_ready (rs := [13]) (by kernel_rfl) (by simp) ?_
                                  refine AllReadyH.cons rfl (fun K hK => ?_) AllReadyH.nil
                                  go_simp
                                  refine hK.out _ _ ?_ (fun hHeld => ?_)
                                  · exact HF9.out.f1
                                  · clear hK K
                                    (try simp only [Act.put, List.setIfInBounds_toArray, List.set_cons_zero, List.set_cons_succ, List.getElem_toArray, List.getElem_cons_succ, List.getElem_cons_zero])
                                    refine wpAnyH_done (by kernel_rfl) ?_ _
                                    (try go_wp2_with fail)
                                    go_meet
                                    exact ⟨_, ev, dy, p, rfl, bev, bdy, ⟨hp0, hp1⟩, q2, q4, HF9, HB9⟩
                      · go_simp
                        refine hK.out _ _ ?_ (fun hHeld => ?_)
                        · exact (HS3_.out.al _).f1
                        · clear hK K hHeld
                          (try simp only [Act.put, List.setIfInBounds_toArray, List.set_cons_zero, List.set_cons_succ, List.getElem_toArray, List.getElem_cons_succ, List.getElem_cons_zero])
                          refine gen_al (W := W3) ?_
                          intro W9 hWn
                          have HS9_ := Lib.hid (by rw [hWn]; exact HS3_.out.al _ : SSt w W9 B (M + 2) F lo hi x0 x1 x2 g c xs u5 t w4.heap.size)
                          have HT9_ : Hid (w4.heap.size ≤ W9.heap.size) := Lib.hid (by rw [hWn]; exact Nat.le_trans HT3_.out (by simp))
                          have HL9_6 : Hid (NL W9 W2.heap.size [0, 30, 365, 1000]) := Lib.hid (by rw [hWn]; exact HL3_6.out.al _)
                          have HG9_ : Hid (BxV W9 W3.heap.size [.int .i64 0, .int .i64 0, .int .i64 0, .int .i64 0]) := Lib.hid (by rw [hWn]; exact BxV.new W3 _ _)
                          have HGT : Hid (w4.heap.size ≤ W3.heap.size) := HT3_
                          have hHeld : (fun w' : World => w'.cell? ⟨F, 1, none⟩ = some (.int .i64 x1)) W9 := HS9_.out.f1
                          clear hWn HS3_ HT3_ HL3_6
                          refine wpAnyH_ready (rs := [7]) (by kernel_rfl) (by simp) ?_
                          refine AllReadyH.cons rfl (fun K hK => ?_) AllReadyH.nil
                          · go_simp
                            go_at_call 76
                            refine (amongZ_any B (M + 2) W2.heap.size 0 4 4 [0, 30, 365, 1000] _ HS9_.out.dk.cur (by omega) rfl (by omega) (by omega) HN3_6.out HL9_6.out).mono ?_
                            rintro e W10 ⟨dy, rfl, mdy, hc, hg⟩
                            have bdy : 0 ≤ dy ∧ dy ≤ 1000 := by simp at mdy; omega
                            clear mdy
                            have HS10_ := Lib.hid (HS9_.out.step hlt hwF hBlo hc hg)
                            have HT10_ : Hid (w4.heap.size ≤ W10.heap.size) := Lib.hid (Nat.le_trans HT9_.out hg.size)
                            have HG10_ : Hid (BxV W10 W3.heap.size [.int .i64 0, .int .i64 0, .int .i64 0, .int .i64 0]) := Lib.hid (HG9_.out.grown hg (by have := HGT.out; have := HB4.out; simp; omega))
                            clear hc hg HS9_ HT9_ HL9_6 HG9_
                            (try go_wp2_with fail)
                            refine hK.out _ _ ?_ (fun hHeld => ?_)
                            · exact HS10_.out.f1
                            · clear hK K
                              (try simp only [Act.put, List.setIfInBounds_toArray, List.set_cons_zero, List.set_cons_succ, List.getElem_toArray, List.getElem_cons_succ, List.getElem_cons_zero])
                              refine wpAnyH_ready (rs := [9]) (by kernel_rfl) (by simp) ?_
                              refine AllReadyH.cons rfl (fun K hK => ?_) AllReadyH.nil
                              · go_simp
                                go_at_call 55
                                refine (pick_any B (M + 4) 3 _ HS10_.out.dk.cur (by omega) (by omega) (by omega)).mono ?_
                                rintro e W11 ⟨p, rfl, hp0, hp1, hc, hg⟩
                                have hwp : IntKind.i64.wrap (1 + p) = 1 + p := Go.IntWalk.i64_in _ (by omega)
                                have HS11_ := Lib.hid (HS10_.out.step hlt hwF hBlo hc hg)
                                have HT11_ : Hid (w4.heap.size ≤ W11.heap.size) := Lib.hid (Nat.le_trans HT10_.out hg.size)
                                have HG11_ : Hid (BxV W11 W3.heap.size [.int .i64 0, .int .i64 0, .int .i64 0, .int .i64 0]) := Lib.hid (HG10_.out.grown hg (by have := HGT.out; have := HB4.out; simp; omega))
                                clear hc hg HS10_ HT10_ HG10_
                                (try go_wp2_with fail)
                                refine hK.out _ _ ?_ (fun hHeld => ?_)
                                · exact HS11_.out.f1
                                · clear hK K
                                  (try simp only [Act.put, List.setIfInBounds_toArray, List.set_cons_zero, List.set_cons_succ, List.getElem_toArray, List.getElem_cons_succ, List.getElem_cons_zero])
                                  refine wpAnyH_take (i := 10) (v := ?_) rfl (by kernel_rfl) (by kernel_rfl) (by kernel_rfl) (fun _ _ _ h => h) (Or.inl ⟨by rfl, ?_⟩) (by assumption) ?_
                                  rotate_left
                                  · (intro w hSw; (try dsimp only at hSw); go_simp; first | done | with_reducible rfl)
                                  (try simp only [Act.put, List.setIfInBounds_toArray, List.set_cons_zero, List.set_cons_succ, List.getElem_toArray, List.getElem_cons_succ, List.getElem_cons_zero])
                                  refine wpAnyH_take (i := 11) (v := ?_) rfl (by kernel_rfl) (by kernel_rfl) (by kernel_rfl) (fun _ _ _ h => h) (Or.inl ⟨by rfl, ?_⟩) (by assumption) ?_
                                  rotate_left
                                  · (intro w hSw; (try dsimp only at hSw); go_simp; first | done | with_reducible rfl)
                                  (try simp only [Act.put, List.setIfInBounds_toArray, List.set_cons_zero, List.set_cons_succ, List.getElem_toArray, List.getElem_cons_succ, List.getElem_cons_zero])
                                  have q1 : w.heap.size ≤ W3.heap.size := by have := HGT.out; have := HB4.out; omega
                                  have q2 : F < W3.heap.size := by have := HGT.out; have := HB4.out; omega
                                  have q3 : g ≠ W3.heap.size := by have := HGT.out; have := HB4.out; omega
                                  have q4 : w4.heap.size ≤ W3.heap.size := HGT.out
                                  have z0 := HG11_.out.cell 0
                                  have z1 := HG11_.out.cell 1
                                  have z2 := HG11_.out.cell 2
                                  have z3 := HG11_.out.cell 3
                                  have y0 := HG11_.out.frozen 0
                                  have y1 := HG11_.out.frozen 1
                                  have y2 := HG11_.out.frozen 2
                                  have y3 := HG11_.out.frozen 3
                                  simp at z0 z1 z2 z3
                                  have HF9 := Lib.hid (SSt.put (G := W3.heap.size) (j := 3) (x := .int .i64 (1 + p)) (SSt.put (G := W3.heap.size) (j := 2) (x := .int .i64 dy) (SSt.put (G := W3.heap.size) (j := 1) (x := .int .i64 ev) (SSt.put (G := W3.heap.size) (j := 0) (x := .int .i64 x1) HS11_.out q1 hlt q2 q3 q4) q1 hlt q2 q3 q4) q1 hlt q2 q3 q4) q1 hlt q2 q3 q4)
                                  have HB9 := Lib.hid (BxV.set (cs' := [.int .i64 x1, .int .i64 ev, .int .i64 dy, .int .i64 (1 + p)]) 3 (.int .i64 (1 + p)) (BxV.set (cs' := [.int .i64 x1, .int .i64 ev, .int .i64 dy, .int .i64 0]) 2 (.int .i64 dy) (BxV.set (cs' := [.int .i64 x1, .int .i64 ev, .int .i64 0, .int .i64 0]) 1 (.int .i64 ev) (BxV.set (cs' := [.int .i64 x1, .int .i64 0, .int .i64 0, .int .i64 0]) 0 (.int .i64 x1) HG11_.out rfl) rfl) rfl) rfl)
                                  refine wpAnyH_ready (rs := [13]) (by kernel_rfl) (by simp) ?_
                                  refine AllReadyH.cons rfl (fun K hK => ?_) AllReadyH.nil
                                  go_simp
                                  refine hK.out _ _ ?_ (fun hHeld => ?_)
                                  · exact HF9.out.f1
                                  · clear hK K
                                    (try simp only [Act.put, List.setIfInBounds_toArray, List.set_cons_zero, List.set_cons_succ, List.getElem_toArray, List.getElem_cons_succ, List.getElem_cons_zero])
                                    refine wpAnyH_done (by kernel_rfl) ?_ _
                                    (try go_wp2_with fail)
                                    go_meet
                                    exact ⟨_, ev, dy, p, rfl, bev, bdy, ⟨hp0, hp1⟩, q2, q4, HF9, HB9⟩
                  · go_simp
                    refine hK.out _ _ ?_ (fun hHeld => ?_)
                    · exact (HS2_.out.al _).f1
                    · clear hK K hHeld
                      (try simp only [Act.put, List.setIfInBounds_toArray, List.set_cons_zero, List.set_cons_succ, List.getElem_toArray, List.getElem_cons_succ, List.getElem_cons_zero])
                      refine gen_al (W := W2) ?_
                      intro W12 hWn
                      have HS12_ := Lib.hid (by rw [hWn]; exact HS2_.out.al _ : SSt w W12 B (M + 2) F lo hi x0 x1 x2 g c xs u5 t w4.heap.size)
                      have HT12_ : Hid (w4.heap.size ≤ W12.heap.size) := Lib.hid (by rw [hWn]; exact Nat.le_trans HT2_.out (by simp))
                      have HG12_ : Hid (BxV W12 W2.heap.size [.int .i64 0, .int .i64 0, .int .i64 0, .int .i64 0]) := Lib.hid (by rw [hWn]; exact BxV.new W2 _ _)
                      have HGT : Hid (w4.heap.size ≤ W2.heap.size) := HT2_
                      have hHeld : (fun w' : World => w'.cell? ⟨F, 1, none⟩ = some (.int .i64 x1)) W12 := HS12_.out.f1
                      clear hWn HS2_ HT2_
                      refine wpAnyH_ready (rs := [6]) (by kernel_rfl) (by simp) ?_
                      refine AllReadyH.cons rfl (fun K hK => ?_) AllReadyH.nil
                      · go_simp
                        refine hK.out _ _ ?_ (fun hHeld => ?_)
                        · exact (HS12_.out.al _).f1
                        · clear hK K hHeld
                          (try simp only [Act.put, List.setIfInBounds_toArray, List.set_cons_zero, List.set_cons_succ, List.getElem_toArray, List.getElem_cons_succ, List.getElem_cons_zero])
                          refine gen_al (W := W12) ?_
                          intro W13 hWn
                          have HS13_ := Lib.hid (by rw [hWn]; exact HS12_.out.al _ : SSt w W13 B (M + 2) F lo hi x0 x1 x2 g c xs u5 t w4.heap.size)
                          have HT13_ : Hid (w4.heap.size ≤ W13.heap.size) := Lib.hid (by rw [hWn]; exact Nat.le_trans HT12_.out (by simp))
                          have HG13_ : Hid (BxV W13 W2.heap.size [.int .i64 0, .int .i64 0, .int .i64 0, .int .i64 0]) := Lib.hid (by rw [hWn]; exact HG12_.out.al _)
                          have HL13_6 : Hid (NL W13 W12.heap.size [0, 30, 365, 1000]) := Lib.hid (by rw [hWn]; exact new_nums W12 [0, 30, 365, 1000] 3 _ rfl)
                          have HN13_6 : Hid (W12.heap.size ≠ B) := Lib.hid (by have := HS12_.out.dk.cur.lt; omega)
                          have hHeld : (fun w' : World => w'.cell? ⟨F, 1, none⟩ = some (.int .i64 x1)) W13 := HS13_.out.f1
                          clear hWn HS12_ HT12_ HG12_
                          refine wpAnyH_ready (rs := [7]) (by kernel_rfl) (by simp) ?_
                          refine AllReadyH.cons rfl (fun K hK => ?_) AllReadyH.nil
                          · go_simp
                            go_at_call 76
                            refine (amongZ_any B (M + 2) W12.heap.size 0 4 4 [0, 30, 365, 1000] _ HS13_.out.dk.cur (by omega) rfl (by omega) (by omega) HN13_6.out HL13_6.out).mono ?_
                            rintro e W14 ⟨dy, rfl, mdy, hc, hg⟩
                            have bdy : 0 ≤ dy ∧ dy ≤ 1000 := by simp at mdy; omega
                            clear mdy
                            have HS14_ := Lib.hid (HS13_.out.step hlt hwF hBlo hc hg)
                            have HT14_ : Hid (w4.heap.size ≤ W14.heap.size) := Lib.hid (Nat.le_trans HT13_.out hg.size)
                            have HG14_ : Hid (BxV W14 W2.heap.size [.int .i64 0, .int .i64 0, .int .i64 0, .int .i64 0]) := Lib.hid (HG13_.out.grown hg (by have := HGT.out; have := HB4.out; simp; omega))
                            clear hc hg HS13_ HT13_ HL13_6 HG13_
                            (try go_wp2_with fail)
                            refine hK.out _ _ ?_ (fun hHeld => ?_)
                            · exact HS14_.out.f1
                            · clear hK K
                              (try simp only [Act.put, List.setIfInBounds_toArray, List.set_cons_zero, List.set_cons_succ, List.getElem_toArray, List.getElem_cons_succ, List.getElem_cons_zero])
                              refine wpAnyH_ready (rs := [9]) (by kernel_rfl) (by simp) ?_
                              refine AllReadyH.cons rfl (fun K hK => ?_) AllReadyH.nil
                              · go_simp
                                go_at_call 55
                                refine (pick_any B (M + 4) 3 _ HS14_.out.dk.cur (by omega) (by omega) (by omega)).mono ?_
                                rintro e W15 ⟨p, rfl, hp0, hp1, hc, hg⟩
                                have hwp : IntKind.i64.wrap (1 + p) = 1 + p := Go.IntWalk.i64_in _ (by omega)
                                have HS15_ := Lib.hid (HS14_.out.step hlt hwF hBlo hc hg)
                                have HT15_ : Hid (w4.heap.size ≤ W15.heap.size) := Lib.hid (Nat.le_trans HT14_.out hg.size)
                                have HG15_ : Hid (BxV W15 W2.heap.size [.int .i64 0, .int .i64 0, .int .i64 0, .int .i64 0]) := Lib.hid (HG14_.out.grown hg (by have := HGT.out; have := HB4.out; simp; omega))
                                clear hc hg HS14_ HT14_ HG14_
                                (try go_wp2_with fail)
                                refine hK.out _ _ ?_ (fun hHeld => ?_)
                                · exact HS15_.out.f1
                                · clear hK K
                                  (try simp only [Act.put, List.setIfInBounds_toArray, List.set_cons_zero, List.set_cons_succ, List.getElem_toArray, List.getElem_cons_succ, List.getElem_cons_zero])
                                  refine wpAnyH_take (i := 10) (v := ?_) rfl (by kernel_rfl) (by kernel_rfl) (by kernel_rfl) (fun _ _ _ h => h) (Or.inl ⟨by rfl, ?_⟩) (by assumption) ?_
                                  rotate_left
                                  · (intro w hSw; (try dsimp only at hSw); go_simp; first | done | with_reducible rfl)
                                  (try simp only [Act.put, List.setIfInBounds_toArray, List.set_cons_zero, List.set_cons_succ, List.getElem_toArray, List.getElem_cons_succ, List.getElem_cons_zero])
                                  refine wpAnyH_take (i := 11) (v := ?_) rfl (by kernel_rfl) (by kernel_rfl) (by kernel_rfl) (fun _ _ _ h => h) (Or.inl ⟨by rfl, ?_⟩) (by assumption) ?_
                                  rotate_left
                                  · (intro w hSw; (try dsimp only at hSw); go_simp; first | done | with_reducible rfl)
                                  (try simp only [Act.put, List.setIfInBounds_toArray, List.set_cons_zero, List.set_cons_succ, List.getElem_toArray, List.getElem_cons_succ, List.getElem_cons_zero])
                                  have q1 : w.heap.size ≤ W2.heap.size := by have := HGT.out; have := HB4.out; omega
                                  have q2 : F < W2.heap.size := by have := HGT.out; have := HB4.out; omega
                                  have q3 : g ≠ W2.heap.size := by have := HGT.out; have := HB4.out; omega
                                  have q4 : w4.heap.size ≤ W2.heap.size := HGT.out
                                  have z0 := HG15_.out.cell 0
                                  have z1 := HG15_.out.cell 1
                                  have z2 := HG15_.out.cell 2
                                  have z3 := HG15_.out.cell 3
                                  have y0 := HG15_.out.frozen 0
                                  have y1 := HG15_.out.frozen 1
                                  have y2 := HG15_.out.frozen 2
                                  have y3 := HG15_.out.frozen 3
                                  simp at z0 z1 z2 z3
                                  have HF9 := Lib.hid (SSt.put (G := W2.heap.size) (j := 3) (x := .int .i64 (1 + p)) (SSt.put (G := W2.heap.size) (j := 2) (x := .int .i64 dy) (SSt.put (G := W2.heap.size) (j := 1) (x := .int .i64 ev) (SSt.put (G := W2.heap.size) (j := 0) (x := .int .i64 x1) HS15_.out q1 hlt q2 q3 q4) q1 hlt q2 q3 q4) q1 hlt q2 q3 q4) q1 hlt q2 q3 q4)
                                  have HB9 := Lib.hid (BxV.set (cs' := [.int .i64 x1, .int .i64 ev, .int .i64 dy, .int .i64 (1 + p)]) 3 (.int .i64 (1 + p)) (BxV.set (cs' := [.int .i64 x1, .int .i64 ev, .int .i64 dy, .int .i64 0]) 2 (.int .i64 dy) (BxV.set (cs' := [.int .i64 x1, .int .i64 ev, .int .i64 0, .int .i64 0]) 1 (.int .i64 ev) (BxV.set (cs' := [.int .i64 x1, .int .i64 0, .int .i64 0, .int .i64 0]) 0 (.int .i64 x1) HG15_.out rfl) rfl) rfl) rfl)
                                  refine wpAnyH_ready (rs := [13]) (by kernel_rfl) (by simp) ?_
                                  refine AllReadyH.cons rfl (fun K hK => ?_) AllReadyH.nil
                                  go_simp
                                  refine hK.out _ _ ?_ (fun hHeld => ?_)
                                  · exact HF9.out.f1
                                  · clear hK K
                                    (try simp only [Act.put, List.setIfInBounds_toArray, List.set_cons_zero, List.set_cons_succ, List.getElem_toArray, List.getElem_cons_succ, List.getElem_cons_zero])
                                    refine wpAnyH_done (by kernel_rfl) ?_ _
                                    (try go_wp2_with fail)
                                    go_meet
                                    exact ⟨_, ev, dy, p, rfl, bev, bdy, ⟨hp0, hp1⟩, q2, q4, HF9, HB9⟩
              · go_simp
                refine hK.out _ _ ?_ (fun hHeld => ?_)
                · exact (HS1_.out.al _).f1
                · clear hK K hHeld
                  (try simp only [Act.put, List.setIfInBounds_toArray, List.set_cons_zero, List.set_cons_succ, List.getElem_toArray, List.getElem_cons_succ, List.getElem_cons_zero])
                  refine gen_al (W := W1) ?_
                  intro W16 hWn
                  have HS16_ := Lib.hid (by rw [hWn]; exact HS1_.out.al _ : SSt w W16 B (M + 0) F lo hi x0 x1 x2 g c xs u5 t w4.heap.size)
                  have HT16_ : Hid (w4.heap.size ≤ W16.heap.size) := Lib.hid (by rw [hWn]; exact Nat.le_trans HT1_.out (by simp))
                  have HL16_3 : Hid (NL W16 W0.heap.size [0, 0, 1, 2, 3]) := Lib.hid (by rw [hWn]; exact HL1_3.out.al _)
                  have HL16_6 : Hid (NL W16 W1.heap.size [0, 30, 365, 1000]) := Lib.hid (by rw [hWn]; exact new_nums W1 [0, 30, 365, 1000] 3 _ rfl)
                  have HN16_6 : Hid (W1.heap.size ≠ B) := Lib.hid (by have := HS1_.out.dk.cur.lt; omega)
                  have hHeld : (fun w' : World => w'.cell? ⟨F, 1, none⟩ = some (.int .i64 x1)) W16 := HS16_.out.f1
                  clear hWn HS1_ HT1_ HL1_3
                  refine wpAnyH_ready (rs := [4, 12]) (by kernel_rfl) (by simp) ?_
                  refine AllReadyH.cons rfl (fun K hK => ?_) (AllReadyH.cons rfl (fun K hK => ?_) AllReadyH.nil)
                  · go_simp
                    go_at_call 76
                    refine (amongZ_any B (M + 0) W0.heap.size 0 5 5 [0, 0, 1, 2, 3] _ HS16_.out.dk.cur (by omega) rfl (by omega) (by omega) HN1_3.out HL16_3.out).mono ?_
                    rintro e W17 ⟨ev, rfl, mev, hc, hg⟩
                    have bev : 0 ≤ ev ∧ ev ≤ 3 := by simp at mev; omega
                    clear mev
                    have HS17_ := Lib.hid (HS16_.out.step hlt hwF hBlo hc hg)
                    have HT17_ : Hid (w4.heap.size ≤ W17.heap.size) := Lib.hid (Nat.le_trans HT16_.out hg.size)
                    have HL17_6 : Hid (NL W17 W1.heap.size [0, 30, 365, 1000]) := Lib.hid (HL16_6.out.grown hg HN16_6.out)
                    clear hc hg HS16_ HT16_ HL16_3 HL16_6
                    (try go_wp2_with fail)
                    refine hK.out _ _ ?_ (fun hHeld => ?_)
                    · exact HS17_.out.f1
                    · clear hK K
                      (try simp only [Act.put, List.setIfInBounds_toArray, List.set_cons_zero, List.set_cons_succ, List.getElem_toArray, List.getElem_cons_succ, List.getElem_cons_zero])
                      refine wpAnyH_ready (rs := [7, 12]) (by kernel_rfl) (by simp) ?_
                      refine AllReadyH.cons rfl (fun K hK => ?_) (AllReadyH.cons rfl (fun K hK => ?_) AllReadyH.nil)
                      · go_simp
                        go_at_call 76
                        refine (amongZ_any B (M + 2) W1.heap.size 0 4 4 [0, 30, 365, 1000] _ HS17_.out.dk.cur (by omega) rfl (by omega) (by omega) HN16_6.out HL17_6.out).mono ?_
                        rintro e W18 ⟨dy, rfl, mdy, hc, hg⟩
                        have bdy : 0 ≤ dy ∧ dy ≤ 1000 := by simp at mdy; omega
                        clear mdy
                        have HS18_ := Lib.hid (HS17_.out.step hlt hwF hBlo hc hg)
                        have HT18_ : Hid (w4.heap.size ≤ W18.heap.size) := Lib.hid (Nat.le_trans HT17_.out hg.size)
                        clear hc hg HS17_ HT17_ HL17_6
                        (try go_wp2_with fail)
                        refine hK.out _ _ ?_ (fun hHeld => ?_)
                        · exact HS18_.out.f1
                        · clear hK K
                          (try simp only [Act.put, List.setIfInBounds_toArray, List.set_cons_zero, List.set_cons_succ, List.getElem_toArray, List.getElem_cons_succ, List.getElem_cons_zero])
                          refine wpAnyH_ready (rs := [9, 12]) (by kernel_rfl) (by simp) ?_
                          refine AllReadyH.cons rfl (fun K hK => ?_) (AllReadyH.cons rfl (fun K hK => ?_) AllReadyH.nil)
                          · go_simp
                            go_at_call 55
                            refine (pick_any B (M + 4) 3 _ HS18_.out.dk.cur (by omega) (by omega) (by omega)).mono ?_
                            rintro e W19 ⟨p, rfl, hp0, hp1, hc, hg⟩
                            have hwp : IntKind.i64.wrap (1 + p) = 1 + p := Go.IntWalk.i64_in _ (by omega)
                            have HS19_ := Lib.hid (HS18_.out.step hlt hwF hBlo hc hg)
                            have HT19_ : Hid (w4.heap.size ≤ W19.heap.size) := Lib.hid (Nat.le_trans HT18_.out hg.size)
                            clear hc hg HS18_ HT18_
                            (try go_wp2_with fail)
                            refine hK.out _ _ ?_ (fun hHeld => ?_)
                            · exact HS19_.out.f1
                            · clear hK K
                              (try simp only [Act.put, List.setIfInBounds_toArray, List.set_cons_zero, List.set_cons_succ, List.getElem_toArray, List.getElem_cons_succ, List.getElem_cons_zero])
                              refine wpAnyH_take (i := 10) (v := ?_) rfl (by kernel_rfl) (by kernel_rfl) (by kernel_rfl) (fun _ _ _ h => h) (Or.inl ⟨by rfl, ?_⟩) (by assumption) ?_
                              rotate_left
                              · (intro w hSw; (try dsimp only at hSw); go_simp; first | done | with_reducible rfl)
                              (try simp only [Act.put, List.setIfInBounds_toArray, List.set_cons_zero, List.set_cons_succ, List.getElem_toArray, List.getElem_cons_succ, List.getElem_cons_zero])
                              refine wpAnyH_take (i := 11) (v := ?_) rfl (by kernel_rfl) (by kernel_rfl) (by kernel_rfl) (fun _ _ _ h => h) (Or.inl ⟨by rfl, ?_⟩) (by assumption) ?_
                              rotate_left
                              · (intro w hSw; (try dsimp only at hSw); go_simp; first | done | with_reducible rfl)
                              (try simp only [Act.put, List.setIfInBounds_toArray, List.set_cons_zero, List.set_cons_succ, List.getElem_toArray, List.getElem_cons_succ, List.getElem_cons_zero])
                              refine wpAnyH_ready (rs := [12]) (by kernel_rfl) (by simp) ?_
                              refine AllReadyH.cons rfl (fun K hK => ?_) AllReadyH.nil
                              · go_simp
                                refine hK.out _ _ ?_ (fun hHeld => ?_)
                                · exact (HS19_.out.al _).f1
                                · clear hK K hHeld
                                  (try simp only [Act.put, List.setIfInBounds_toArray, List.set_cons_zero, List.set_cons_succ, List.getElem_toArray, List.getElem_cons_succ, List.getElem_cons_zero])
                                  refine gen_al (W := W19) ?_
                                  intro W20 hWn
                                  have HS20_ := Lib.hid (by rw [hWn]; exact HS19_.out.al _ : SSt w W20 B (M + 6) F lo hi x0 x1 x2 g c xs u5 t w4.heap.size)
                                  have HT20_ : Hid (w4.heap.size ≤ W20.heap.size) := Lib.hid (by rw [hWn]; exact Nat.le_trans HT19_.out (by simp))
                                  have HG20_ : Hid (BxV W20 W19.heap.size [.int .i64 0, .int .i64 0, .int .i64 0, .int .i64 0]) := Lib.hid (by rw [hWn]; exact BxV.new W19 _ _)
                                  have HGT : Hid (w4.heap.size ≤ W19.heap.size) := HT19_
                                  have hHeld : (fun w' : World => w'.cell? ⟨F, 1, none⟩ = some (.int .i64 x1)) W20 := HS20_.out.f1
                                  clear hWn HS19_ HT19_
                                  have q1 : w.heap.size ≤ W19.heap.size := by have := HGT.out; have := HB4.out; omega
                                  have q2 : F < W19.heap.size := by have := HGT.out; have := HB4.out; omega
                                  have q3 : g ≠ W19.heap.size := by have := HGT.out; have := HB4.out; omega
                                  have q4 : w4.heap.size ≤ W19.heap.size := HGT.out
                                  have z0 := HG20_.out.cell 0
                                  have z1 := HG20_.out.cell 1
                                  have z2 := HG20_.out.cell 2
                                  have z3 := HG20_.out.cell 3
                                  have y0 := HG20_.out.frozen 0
                                  have y1 := HG20_.out.frozen 1
                                  have y2 := HG20_.out.frozen 2
                                  have y3 := HG20_.out.frozen 3
                                  simp at z0 z1 z2 z3
                                  have HF9 := Lib.hid (SSt.put (G := W19.heap.size) (j := 3) (x := .int .i64 (1 + p)) (SSt.put (G := W19.heap.size) (j := 2) (x := .int .i64 dy) (SSt.put (G := W19.heap.size) (j := 1) (x := .int .i64 ev) (SSt.put (G := W19.heap.size) (j := 0) (x := .int .i64 x1) HS20_.out q1 hlt q2 q3 q4) q1 hlt q2 q3 q4) q1 hlt q2 q3 q4) q1 hlt q2 q3 q4)
                                  have HB9 := Lib.hid (BxV.set (cs' := [.int .i64 x1, .int .i64 ev, .int .i64 dy, .int .i64 (1 + p)]) 3 (.int .i64 (1 + p)) (BxV.set (cs' := [.int .i64 x1, .int .i64 ev, .int .i64 dy, .int .i64 0]) 2 (.int .i64 dy) (BxV.set (cs' := [.int .i64 x1, .int .i64 ev, .int .i64 0, .int .i64 0]) 1 (.int .i64 ev) (BxV.set (cs' := [.int .i64 x1, .int .i64 0, .int .i64 0, .int .i64 0]) 0 (.int .i64 x1) HG20_.out rfl) rfl) rfl) rfl)
                                  refine wpAnyH_ready (rs := [13]) (by kernel_rfl) (by simp) ?_
                                  refine AllReadyH.cons rfl (fun K hK => ?_) AllReadyH.nil
                                  go_simp
                                  refine hK.out _ _ ?_ (fun hHeld => ?_)
                                  · exact HF9.out.f1
                                  · clear hK K
                                    (try simp only [Act.put, List.setIfInBounds_toArray, List.set_cons_zero, List.set_cons_succ, List.getElem_toArray, List.getElem_cons_succ, List.getElem_cons_zero])
                                    refine wpAnyH_done (by kernel_rfl) ?_ _
                                    (try go_wp2_with fail)
                                    go_meet
                                    exact ⟨_, ev, dy, p, rfl, bev, bdy, ⟨hp0, hp1⟩, q2, q4, HF9, HB9⟩
                          · go_simp
                            refine hK.out _ _ ?_ (fun hHeld => ?_)
                            · exact (HS18_.out.al _).f1
                            · clear hK K hHeld
                              (try simp only [Act.put, List.setIfInBounds_toArray, List.set_cons_zero, List.set_cons_succ, List.getElem_toArray, List.getElem_cons_succ, List.getElem_cons_zero])
                              refine gen_al (W := W18) ?_
                              intro W21 hWn
                              have HS21_ := Lib.hid (by rw [hWn]; exact HS18_.out.al _ : SSt w W21 B (M + 4) F lo hi x0 x1 x2 g c xs u5 t w4.heap.size)
                              have HT21_ : Hid (w4.heap.size ≤ W21.heap.size) := Lib.hid (by rw [hWn]; exact Nat.le_trans HT18_.out (by simp))
                              have HG21_ : Hid (BxV W21 W18.heap.size [.int .i64 0, .int .i64 0, .int .i64 0, .int .i64 0]) := Lib.hid (by rw [hWn]; exact BxV.new W18 _ _)
                              have HGT : Hid (w4.heap.size ≤ W18.heap.size) := HT18_
                              have hHeld : (fun w' : World => w'.cell? ⟨F, 1, none⟩ = some (.int .i64 x1)) W21 := HS21_.out.f1
                              clear hWn HS18_ HT18_
                              refine wpAnyH_ready (rs := [9]) (by kernel_rfl) (by simp) ?_
                              refine AllReadyH.cons rfl (fun K hK => ?_) AllReadyH.nil
                              · go_simp
                                go_at_call 55
                                refine (pick_any B (M + 4) 3 _ HS21_.out.dk.cur (by omega) (by omega) (by omega)).mono ?_
                                rintro e W22 ⟨p, rfl, hp0, hp1, hc, hg⟩
                                have hwp : IntKind.i64.wrap (1 + p) = 1 + p := Go.IntWalk.i64_in _ (by omega)
                                have HS22_ := Lib.hid (HS21_.out.step hlt hwF hBlo hc hg)
                                have HT22_ : Hid (w4.heap.size ≤ W22.heap.size) := Lib.hid (Nat.le_trans HT21_.out hg.size)
                                have HG22_ : Hid (BxV W22 W18.heap.size [.int .i64 0, .int .i64 0, .int .i64 0, .int .i64 0]) := Lib.hid (HG21_.out.grown hg (by have := HGT.out; have := HB4.out; simp; omega))
                                clear hc hg HS21_ HT21_ HG21_
                                (try go_wp2_with fail)
                                refine hK.out _ _ ?_ (fun hHeld => ?_)
                                · exact HS22_.out.f1
                                · clear hK K
                                  (try simp only [Act.put, List.setIfInBounds_toArray, List.set_cons_zero, List.set_cons_succ, List.getElem_toArray, List.getElem_cons_succ, List.getElem_cons_zero])
                                  refine wpAnyH_take (i := 10) (v := ?_) rfl (by kernel_rfl) (by kernel_rfl) (by kernel_rfl) (fun _ _ _ h => h) (Or.inl ⟨by rfl, ?_⟩) (by assumption) ?_
                                  rotate_left
                                  · (intro w hSw; (try dsimp only at hSw); go_simp; first | done | with_reducible rfl)
                                  (try simp only [Act.put, List.setIfInBounds_toArray, List.set_cons_zero, List.set_cons_succ, List.getElem_toArray, List.getElem_cons_succ, List.getElem_cons_zero])
                                  refine wpAnyH_take (i := 11) (v := ?_) rfl (by kernel_rfl) (by kernel_rfl) (by kernel_rfl) (fun _ _ _ h => h) (Or.inl ⟨by rfl, ?_⟩) (by assumption) ?_
                                  rotate_left
                                  · (intro w hSw; (try dsimp only at hSw); go_simp; first | done | with_reducible rfl)
                                  (try simp only [Act.put, List.setIfInBounds_toArray, List.set_cons_zero, List.set_cons_succ, List.getElem_toArray, List.getElem_cons_succ, List.getElem_cons_zero])
                                  have q1 : w.heap.size ≤ W18.heap.size := by have := HGT.out; have := HB4.out; omega
                                  have q2 : F < W18.heap.size := by have := HGT.out; have := HB4.out; omega
                                  have q3 : g ≠ W18.heap.size := by have := HGT.out; have := HB4.out; omega
                                  have q4 : w4.heap.size ≤ W18.heap.size := HGT.out
                                  have z0 := HG22_.out.cell 0
                                  have z1 := HG22_.out.cell 1
                                  have z2 := HG22_.out.cell 2
                                  have z3 := HG22_.out.cell 3
                                  have y0 := HG22_.out.frozen 0
                                  have y1 := HG22_.out.frozen 1
                                  have y2 := HG22_.out.frozen 2
                                  have y3 := HG22_.out.frozen 3
                                  simp at z0 z1 z2 z3
                                  have HF9 := Lib.hid (SSt.put (G := W18.heap.size) (j := 3) (x := .int .i64 (1 + p)) (SSt.put (G := W18.heap.size) (j := 2) (x := .int .i64 dy) (SSt.put (G := W18.heap.size) (j := 1) (x := .int .i64 ev) (SSt.put (G := W18.heap.size) (j := 0) (x := .int .i64 x1) HS22_.out q1 hlt q2 q3 q4) q1 hlt q2 q3 q4) q1 hlt q2 q3 q4) q1 hlt q2 q3 q4)
                                  have HB9 := Lib.hid (BxV.set (cs' := [.int .i64 x1, .int .i64 ev, .int .i64 dy, .int .i64 (1 + p)]) 3 (.int .i64 (1 + p)) (BxV.set (cs' := [.int .i64 x1, .int .i64 ev, .int .i64 dy, .int .i64 0]) 2 (.int .i64 dy) (BxV.set (cs' := [.int .i64 x1, .int .i64 ev, .int .i64 0, .int .i64 0]) 1 (.int .i64 ev) (BxV.set (cs' := [.int .i64 x1, .int .i64 0, .int .i64 0, .int .i64 0]) 0 (.int .i64 x1) HG22_.out rfl) rfl) rfl) rfl)
                                  refine wpAnyH_ready (rs := [13]) (by kernel_rfl) (by simp) ?_
                                  refine AllReadyH.cons rfl (fun K hK => ?_) AllReadyH.nil
                                  go_simp
                                  refine hK.out _ _ ?_ (fun hHeld => ?_)
                                  · exact HF9.out.f1
                                  · clear hK K
                                    (try simp only [Act.put, List.setIfInBounds_toArray, List.set_cons_zero, List.set_cons_succ, List.getElem_toArray, List.getElem_cons_succ, List.getElem_cons_zero])
                                    refine wpAnyH_done (by kernel_rfl) ?_ _
                                    (try go_wp2_with fail)
                                    go_meet
                                    exact ⟨_, ev, dy, p, rfl, bev, bdy, ⟨hp0, hp1⟩, q2, q4, HF9, HB9⟩
                      · go_simp
                        refine hK.out _ _ ?_ (fun hHeld => ?_)
                        · exact (HS17_.out.al _).f1
                        · clear hK K hHeld
                          (try simp only [Act.put, List.setIfInBounds_toArray, List.set_cons_zero, List.set_cons_succ, List.getElem_toArray, List.getElem_cons_succ, List.getElem_cons_zero])
                          refine gen_al (W := W17) ?_
                          intro W23 hWn
                          have HS23_ := Lib.hid (by rw [hWn]; exact HS17_.out.al _ : SSt w W23 B (M + 2) F lo hi x0 x1 x2 g c xs u5 t w4.heap.size)
                          have HT23_ : Hid (w4.heap.size ≤ W23.heap.size) := Lib.hid (by rw [hWn]; exact Nat.le_trans HT17_.out (by simp))
                          have HL23_6 : Hid (NL W23 W1.heap.size [0, 30, 365, 1000]) := Lib.hid (by rw [hWn]; exact HL17_6.out.al _)
                          have HG23_ : Hid (BxV W23 W17.heap.size [.int .i64 0, .int .i64 0, .int .i64 0, .int .i64 0]) := Lib.hid (by rw [hWn]; exact BxV.new W17 _ _)
                          have HGT : Hid (w4.heap.size ≤ W17.heap.size) := HT17_
                          have hHeld : (fun w' : World => w'.cell? ⟨F, 1, none⟩ = some (.int .i64 x1)) W23 := HS23_.out.f1
                          clear hWn HS17_ HT17_ HL17_6
                          refine wpAnyH_ready (rs := [7]) (by kernel_rfl) (by simp) ?_
                          refine AllReadyH.cons rfl (fun K hK => ?_) AllReadyH.nil
                          · go_simp
                            go_at_call 76
                            refine (amongZ_any B (M + 2) W1.heap.size 0 4 4 [0, 30, 365, 1000] _ HS23_.out.dk.cur (by omega) rfl (by omega) (by omega) HN16_6.out HL23_6.out).mono ?_
                            rintro e W24 ⟨dy, rfl, mdy, hc, hg⟩
                            have bdy : 0 ≤ dy ∧ dy ≤ 1000 := by simp at mdy; omega
                            clear mdy
                            have HS24_ := Lib.hid (HS23_.out.step hlt hwF hBlo hc hg)
                            have HT24_ : Hid (w4.heap.size ≤ W24.heap.size) := Lib.hid (Nat.le_trans HT23_.out hg.size)
                            have HG24_ : Hid (BxV W24 W17.heap.size [.int .i64 0, .int .i64 0, .int .i64 0, .int .i64 0]) := Lib.hid (HG23_.out.grown hg (by have := HGT.out; have := HB4.out; simp; omega))
                            clear hc hg HS23_ HT23_ HL23_6 HG23_
                            (try go_wp2_with fail)
                            refine hK.out _ _ ?_ (fun hHeld => ?_)
                            · exact HS24_.out.f1
                            · clear hK K
                              (try simp only [Act.put, List.setIfInBounds_toArray, List.set_cons_zero, List.set_cons_succ, List.getElem_toArray, List.getElem_cons_succ, List.getElem_cons_zero])
                              refine wpAnyH_ready (rs := [9]) (by kernel_rfl) (by simp) ?_
                              refine AllReadyH.cons rfl (fun K hK => ?_) AllReadyH.nil
                              · go_simp
                                go_at_call 55
                                refine (pick_any B (M + 4) 3 _ HS24_.out.dk.cur (by omega) (by omega) (by omega)).mono ?_
                                rintro e W25 ⟨p, rfl, hp0, hp1, hc, hg⟩
                                have hwp : IntKind.i64.wrap (1 + p) = 1 + p := Go.IntWalk.i64_in _ (by omega)
                                have HS25_ := Lib.hid (HS24_.out.step hlt hwF hBlo hc hg)
                                have HT25_ : Hid (w4.heap.size ≤ W25.heap.size) := Lib.hid (Nat.le_trans HT24_.out hg.size)
                                have HG25_ : Hid (BxV W25 W17.heap.size [.int .i64 0, .int .i64 0, .int .i64 0, .int .i64 0]) := Lib.hid (HG24_.out.grown hg (by have := HGT.out; have := HB4.out; simp; omega))
                                clear hc hg HS24_ HT24_ HG24_
                                (try go_wp2_with fail)
                                refine hK.out _ _ ?_ (fun hHeld => ?_)
                                · exact HS25_.out.f1
                                · clear hK K
                                  (try simp only [Act.put, List.setIfInBounds_toArray, List.set_cons_zero, List.set_cons_succ, List.getElem_toArray, List.getElem_cons_succ, List.getElem_cons_zero])
                                  refine wpAnyH_take (i := 10) (v := ?_) rfl (by kernel_rfl) (by kernel_rfl) (by kernel_rfl) (fun _ _ _ h => h) (Or.inl ⟨by rfl, ?_⟩) (by assumption) ?_
                                  rotate_left
                                  · (intro w hSw; (try dsimp only at hSw); go_simp; first | done | with_reducible rfl)
                                  (try simp only [Act.put, List.setIfInBounds_toArray, List.set_cons_zero, List.set_cons_succ, List.getElem_toArray, List.getElem_cons_succ, List.getElem_cons_zero])
                                  refine wpAnyH_take (i := 11) (v := ?_) rfl (by kernel_rfl) (by kernel_rfl) (by kernel_rfl) (fun _ _ _ h => h) (Or.inl ⟨by rfl, ?_⟩) (by assumption) ?_
                                  rotate_left
                                  · (intro w hSw; (try dsimp only at hSw); go_simp; first | done | with_reducible rfl)
                                  (try simp only [Act.put, List.setIfInBounds_toArray, List.set_cons_zero, List.set_cons_succ, List.getElem_toArray, List.getElem_cons_succ, List.getElem_cons_zero])
                                  have q1 : w.heap.size ≤ W17.heap.size := by have := HGT.out; have := HB4.out; omega
                                  have q2 : F < W17.heap.size := by have := HGT.out; have := HB4.out; omega
                                  have q3 : g ≠ W17.heap.size := by have := HGT.out; have := HB4.out; omega
                                  have q4 : w4.heap.size ≤ W17.heap.size := HGT.out
                                  have z0 := HG25_.out.cell 0
                                  have z1 := HG25_.out.cell 1
                                  have z2 := HG25_.out.cell 2
                                  have z3 := HG25_.out.cell 3
                                  have y0 := HG25_.out.frozen 0
                                  have y1 := HG25_.out.frozen 1
                                  have y2 := HG25_.out.frozen 2
                                  have y3 := HG25_.out.frozen 3
                                  simp at z0 z1 z2 z3
                                  have HF9 := Lib.hid (SSt.put (G := W17.heap.size) (j := 3) (x := .int .i64 (1 + p)) (SSt.put (G := W17.heap.size) (j := 2) (x := .int .i64 dy) (SSt.put (G := W17.heap.size) (j := 1) (x := .int .i64 ev) (SSt.put (G := W17.heap.size) (j := 0) (x := .int .i64 x1) HS25_.out q1 hlt q2 q3 q4) q1 hlt q2 q3 q4) q1 hlt q2 q3 q4) q1 hlt q2 q3 q4)
                                  have HB9 := Lib.hid (BxV.set (cs' := [.int .i64 x1, .int .i64 ev, .int .i64 dy, .int .i64 (1 + p)]) 3 (.int .i64 (1 + p)) (BxV.set (cs' := [.int .i64 x1, .int .i64 ev, .int .i64 dy, .int .i64 0]) 2 (.int .i64 dy) (BxV.set (cs' := [.int .i64 x1, .int .i64 ev, .int .i64 0, .int .i64 0]) 1 (.int .i64 ev) (BxV.set (cs' := [.int .i64 x1, .int .i64 0, .int .i64 0, .int .i64 0]) 0 (.int .i64 x1) HG25_.out rfl) rfl) rfl) rfl)
                                  refine wpAnyH_ready (rs := [13]) (by kernel_rfl) (by simp) ?_
                                  refine AllReadyH.cons rfl (fun K hK => ?_) AllReadyH.nil
                                  go_simp
                                  refine hK.out _ _ ?_ (fun hHeld => ?_)
                                  · exact HF9.out.f1
                                  · clear hK K
                                    (try simp only [Act.put, List.setIfInBounds_toArray, List.set_cons_zero, List.set_cons_succ, List.getElem_toArray, List.getElem_cons_succ, List.getElem_cons_zero])
                                    refine wpAnyH_done (by kernel_rfl) ?_ _
                                    (try go_wp2_with fail)
                                    go_meet
                                    exact ⟨_, ev, dy, p, rfl, bev, bdy, ⟨hp0, hp1⟩, q2, q4, HF9, HB9⟩
                  · go_simp
                    refine hK.out _ _ ?_ (fun hHeld => ?_)
                    · exact (HS16_.out.al _).f1
                    · clear hK K hHeld
                      (try simp only [Act.put, List.setIfInBounds_toArray, List.set_cons_zero, List.set_cons_succ, List.getElem_toArray, List.getElem_cons_succ, List.getElem_cons_zero])
                      refine gen_al (W := W16) ?_
                      intro W26 hWn
                      have HS26_ := Lib.hid (by rw [hWn]; exact HS16_.out.al _ : SSt w W26 B (M + 0) F lo hi x0 x1 x2 g c xs u5 t w4.heap.size)
                      have HT26_ : Hid (w4.heap.size ≤ W26.heap.size) := Lib.hid (by rw [hWn]; exact Nat.le_trans HT16_.out (by simp))
                      have HL26_3 : Hid (NL W26 W0.heap.size [0, 0, 1, 2, 3]) := Lib.hid (by rw [hWn]; exact HL16_3.out.al _)
                      have HL26_6 : Hid (NL W26 W1.heap.size [0, 30, 365, 1000]) := Lib.hid (by rw [hWn]; exact HL16_6.out.al _)
                      have HG26_ : Hid (BxV W26 W16.heap.size [.int .i64 0, .int .i64 0, .int .i64 0, .int .i64 0]) := Lib.hid (by rw [hWn]; exact BxV.new W16 _ _)
                      have HGT : Hid (w4.heap.size ≤ W16.heap.size) := HT16_
                      have hHeld : (fun w' : World => w'.cell? ⟨F, 1, none⟩ = some (.int .i64 x1)) W26 := HS26_.out.f1
                      clear hWn HS16_ HT16_ HL16_3 HL16_6
                      refine wpAnyH_ready (rs := [4]) (by kernel_rfl) (by simp) ?_
                      refine AllReadyH.cons rfl (fun K hK => ?_) AllReadyH.nil
                      · go_simp
                        go_at_call 76
                        refine (amongZ_any B (M + 0) W0.heap.size 0 5 5 [0, 0, 1, 2, 3] _ HS26_.out.dk.cur (by omega) rfl (by omega) (by omega) HN1_3.out HL26_3.out).mono ?_
                        rintro e W27 ⟨ev, rfl, mev, hc, hg⟩
                        have bev : 0 ≤ ev ∧ ev ≤ 3 := by simp at mev; omega
                        clear mev
                        have HS27_ := Lib.hid (HS26_.out.step hlt hwF hBlo hc hg)
                        have HT27_ : Hid (w4.heap.size ≤ W27.heap.size) := Lib.hid (Nat.le_trans HT26_.out hg.size)
                        have HL27_6 : Hid (NL W27 W1.heap.size [0, 30, 365, 1000]) := Lib.hid (HL26_6.out.grown hg HN16_6.out)
                        have HG27_ : Hid (BxV W27 W16.heap.size [.int .i64 0, .int .i64 0, .int .i64 0, .int .i64 0]) := Lib.hid (HG26_.out.grown hg (by have := HGT.out; have := HB4.out; simp; omega))
                        clear hc hg HS26_ HT26_ HL26_3 HL26_6 HG26_
                        (try go_wp2_with fail)
                        refine hK.out _ _ ?_ (fun hHeld => ?_)
                        · exact HS27_.out.f1
                        · clear hK K
                          (try simp only [Act.put, List.setIfInBounds_toArray, List.set_cons_zero, List.set_cons_succ, List.getElem_toArray, List.getElem_cons_succ, List.getElem_cons_zero])
                          refine wpAnyH_ready (rs := [7]) (by kernel_rfl) (by simp) ?_
                          refine AllReadyH.cons rfl (fun K hK => ?_) AllReadyH.nil
                          · go_simp
                            go_at_call 76
                            refine (amongZ_any B (M + 2) W1.heap.size 0 4 4 [0, 30, 365, 1000] _ HS27_.out.dk.cur (by omega) rfl (by omega) (by omega) HN16_6.out HL27_6.out).mono ?_
                            rintro e W28 ⟨dy, rfl, mdy, hc, hg⟩
                            have bdy : 0 ≤ dy ∧ dy ≤ 1000 := by simp at mdy; omega
                            clear mdy
                            have HS28_ := Lib.hid (HS27_.out.step hlt hwF hBlo hc hg)
                            have HT28_ : Hid (w4.heap.size ≤ W28.heap.size) := Lib.hid (Nat.le_trans HT27_.out hg.size)
                            have HG28_ : Hid (BxV W28 W16.heap.size [.int .i64 0, .int .i64 0, .int .i64 0, .int .i64 0]) := Lib.hid (HG27_.out.grown hg (by have := HGT.out; have := HB4.out; simp; omega))
                            clear hc hg HS27_ HT27_ HL27_6 HG27_
                            (try go_wp2_with fail)
                            refine hK.out _ _ ?_ (fun hHeld => ?_)
                            · exact HS28_.out.f1
                            · clear hK K
                              (try simp only [Act.put, List.setIfInBounds_toArray, List.set_cons_zero, List.set_cons_succ, List.getElem_toArray, List.getElem_cons_succ, List.getElem_cons_zero])
                              refine wpAnyH_ready (rs := [9]) (by kernel_rfl) (by simp) ?_
                              refine AllReadyH.cons rfl (fun K hK => ?_) AllReadyH.nil
                              · go_simp
                                go_at_call 55
                                refine (pick_any B (M + 4) 3 _ HS28_.out.dk.cur (by omega) (by omega) (by omega)).mono ?_
                                rintro e W29 ⟨p, rfl, hp0, hp1, hc, hg⟩
                                have hwp : IntKind.i64.wrap (1 + p) = 1 + p := Go.IntWalk.i64_in _ (by omega)
                                have HS29_ := Lib.hid (HS28_.out.step hlt hwF hBlo hc hg)
                                have HT29_ : Hid (w4.heap.size ≤ W29.heap.size) := Lib.hid (Nat.le_trans HT28_.out hg.size)
                                have HG29_ : Hid (BxV W29 W16.heap.size [.int .i64 0, .int .i64 0, .int .i64 0, .int .i64 0]) := Lib.hid (HG28_.out.grown hg (by have := HGT.out; have := HB4.out; simp; omega))
                                clear hc hg HS28_ HT28_ HG28_
                                (try go_wp2_with fail)
                                refine hK.out _ _ ?_ (fun hHeld => ?_)
                                · exact HS29_.out.f1
                                · clear hK K
                                  (try simp only [Act.put, List.setIfInBounds_toArray, List.set_cons_zero, List.set_cons_succ, List.getElem_toArray, List.getElem_cons_succ, List.getElem_cons_zero])
                                  refine wpAnyH_take (i := 10) (v := ?_) rfl (by kernel_rfl) (by kernel_rfl) (by kernel_rfl) (fun _ _ _ h => h) (Or.inl ⟨by rfl, ?_⟩) (by assumption) ?_
                                  rotate_left
                                  · (intro w hSw; (try dsimp only at hSw); go_simp; first | done | with_reducible rfl)
                                  (try simp only [Act.put, List.setIfInBounds_toArray, List.set_cons_zero, List.set_cons_succ, List.getElem_toArray, List.getElem_cons_succ, List.getElem_cons_zero])
                                  refine wpAnyH_take (i := 11) (v := ?_) rfl (by kernel_rfl) (by kernel_rfl) (by kernel_rfl) (fun _ _ _ h => h) (Or.inl ⟨by rfl, ?_⟩) (by assumption) ?_
                                  rotate_left
                                  · (intro w hSw; (try dsimp only at hSw); go_simp; first | done | with_reducible rfl)
                                  (try simp only [Act.put, List.setIfInBounds_toArray, List.set_cons_zero, List.set_cons_succ, List.getElem_toArray, List.getElem_cons_succ, List.getElem_cons_zero])
                                  have q1 : w.heap.size ≤ W16.heap.size := by have := HGT.out; have := HB4.out; omega
                                  have q2 : F < W16.heap.size := by have := HGT.out; have := HB4.out; omega
                                  have q3 : g ≠ W16.heap.size := by have := HGT.out; have := HB4.out; omega
                                  have q4 : w4.heap.size ≤ W16.heap.size := HGT.out
                                  have z0 := HG29_.out.cell 0
                                  have z1 := HG29_.out.cell 1
                                  have z2 := HG29_.out.cell 2
                                  have z3 := HG29_.out.cell 3
                                  have y0 := HG29_.out.frozen 0
                                  have y1 := HG29_.out.frozen 1
                                  have y2 := HG29_.out.frozen 2
                                  have y3 := HG29_.out.frozen 3
                                  simp at z0 z1 z2 z3
                                  have HF9 := Lib.hid (SSt.put (G := W16.heap.size) (j := 3) (x := .int .i64 (1 + p)) (SSt.put (G := W16.heap.size) (j := 2) (x := .int .i64 dy) (SSt.put (G := W16.heap.size) (j := 1) (x := .int .i64 ev) (SSt.put (G := W16.heap.size) (j := 0) (x := .int .i64 x1) HS29_.out q1 hlt q2 q3 q4) q1 hlt q2 q3 q4) q1 hlt q2 q3 q4) q1 hlt q2 q3 q4)
                                  have HB9 := Lib.hid (BxV.set (cs' := [.int .i64 x1, .int .i64 ev, .int .i64 dy, .int .i64 (1 + p)]) 3 (.int .i64 (1 + p)) (BxV.set (cs' := [.int .i64 x1, .int .i64 ev, .int .i64 dy, .int .i64 0]) 2 (.int .i64 dy) (BxV.set (cs' := [.int .i64 x1, .int .i64 ev, .int .i64 0, .int .i64 0]) 1 (.int .i64 ev) (BxV.set (cs' := [.int .i64 x1, .int .i64 0, .int .i64 0, .int .i64 0]) 0 (.int .i64 x1) HG29_.out rfl) rfl) rfl) rfl)
                                  refine wpAnyH_ready (rs := [13]) (by kernel_rfl) (by simp) ?_
                                  refine AllReadyH.cons rfl (fun K hK => ?_) AllReadyH.nil
                                  go_simp
                                  refine hK.out _ _ ?_ (fun hHeld => ?_)
                                  · exact HF9.out.f1
                                  · clear hK K
                                    (try simp only [Act.put, List.setIfInBounds_toArray, List.set_cons_zero, List.set_cons_succ, List.getElem_toArray, List.getElem_cons_succ, List.getElem_cons_zero])
                                    refine wpAnyH_done (by kernel_rfl) ?_ _
                                    (try go_wp2_with fail)
                                    go_meet
                                    exact ⟨_, ev, dy, p, rfl, bev, bdy, ⟨hp0, hp1⟩, q2, q4, HF9, HB9⟩
              · go_simp
                refine hK.out _ _ ?_ (fun hHeld => ?_)
                · exact (HS1_.out.al _).f1
                · clear hK K hHeld
                  (try simp only [Act.put, List.setIfInBounds_toArray, List.set_cons_zero, List.set_cons_succ, List.getElem_toArray, List.getElem_cons_succ, List.getElem_cons_zero])
                  refine gen_al (W := W1) ?_
                  intro W30 hWn
                  have HS30_ := Lib.hid (by rw [hWn]; exact HS1_.out.al _ : SSt w W30 B (M + 0) F lo hi x0 x1 x2 g c xs u5 t w4.heap.size)
                  have HT30_ : Hid (w4.heap.size ≤ W30.heap.size) := Lib.hid (by rw [hWn]; exact Nat.le_trans HT1_.out (by simp))
                  have HL30_3 : Hid (NL W30 W0.heap.size [0, 0, 1, 2, 3]) := Lib.hid (by rw [hWn]; exact HL1_3.out.al _)
                  have HG30_ : Hid (BxV W30 W1.heap.size [.int .i64 0, .int .i64 0, .int .i64 0, .int .i64 0]) := Lib.hid (by rw [hWn]; exact BxV.new W1 _ _)
                  have HGT : Hid (w4.heap.size ≤ W1.heap.size) := HT1_
                  have hHeld : (fun w' : World => w'.cell? ⟨F, 1, none⟩ = some (.int .i64 x1)) W30 := HS30_.out.f1
                  clear hWn HS1_ HT1_ HL1_3
                  refine wpAnyH_ready (rs := [4, 6]) (by kernel_rfl) (by simp) ?_
                  refine AllReadyH.cons rfl (fun K hK => ?_) (AllReadyH.cons rfl (fun K hK => ?_) AllReadyH.nil)
                  · go_simp
                    go_at_call 76
                    refine (amongZ_any B (M + 0) W0.heap.size 0 5 5 [0, 0, 1, 2, 3] _ HS30_.out.dk.cur (by omega) rfl (by omega) (by omega) HN1_3.out HL30_3.out).mono ?_
                    rintro e W31 ⟨ev, rfl, mev, hc, hg⟩
                    have bev : 0 ≤ ev ∧ ev ≤ 3 := by simp at mev; omega
                    clear mev
                    have HS31_ := Lib.hid (HS30_.out.step hlt hwF hBlo hc hg)
                    have HT31_ : Hid (w4.heap.size ≤ W31.heap.size) := Lib.hid (Nat.le_trans HT30_.out hg.size)
                    have HG31_ : Hid (BxV W31 W1.heap.size [.int .i64 0, .int .i64 0, .int .i64 0, .int .i64 0]) := Lib.hid (HG30_.out.grown hg (by have := HGT.out; have := HB4.out; simp; omega))
                    clear hc hg HS30_ HT30_ HL30_3 HG30_
                    (try go_wp2_with fail)
                    refine hK.out _ _ ?_ (fun hHeld => ?_)
                    · exact HS31_.out.f1
                    · clear hK K
                      (try simp only [Act.put, List.setIfInBounds_toArray, List.set_cons_zero, List.set_cons_succ, List.getElem_toArray, List.getElem_cons_succ, List.getElem_cons_zero])
                      refine wpAnyH_ready (rs := [6]) (by kernel_rfl) (by simp) ?_
                      refine AllReadyH.cons rfl (fun K hK => ?_) AllReadyH.nil
                      · go_simp
                        refine hK.out _ _ ?_ (fun hHeld => ?_)
                        · exact (HS31_.out.al _).f1
                        · clear hK K hHeld
                          (try simp only [Act.put, List.setIfInBounds_toArray, List.set_cons_zero, List.set_cons_succ, List.getElem_toArray, List.getElem_cons_succ, List.getElem_cons_zero])
                          refine gen_al (W := W31) ?_
                          intro W32 hWn
                          have HS32_ := Lib.hid (by rw [hWn]; exact HS31_.out.al _ : SSt w W32 B (M + 2) F lo hi x0 x1 x2 g c xs u5 t w4.heap.size)
                          have HT32_ : Hid (w4.heap.size ≤ W32.heap.size) := Lib.hid (by rw [hWn]; exact Nat.le_trans HT31_.out (by simp))
                          have HG32_ : Hid (BxV W32 W1.heap.size [.int .i64 0, .int .i64 0, .int .i64 0, .int .i64 0]) := Lib.hid (by rw [hWn]; exact HG31_.out.al _)
                          have HL32_6 : Hid (NL W32 W31.heap.size [0, 30, 365, 1000]) := Lib.hid (by rw [hWn]; exact new_nums W31 [0, 30, 365, 1000] 3 _ rfl)
                          have HN32_6 : Hid (W31.heap.size ≠ B) := Lib.hid (by have := HS31_.out.dk.cur.lt; omega)
                          have hHeld : (fun w' : World => w'.cell? ⟨F, 1, none⟩ = some (.int .i64 x1)) W32 := HS32_.out.f1
                          clear hWn HS31_ HT31_ HG31_
                          refine wpAnyH_ready (rs := [7]) (by kernel_rfl) (by simp) ?_
                          refine AllReadyH.cons rfl (fun K hK => ?_) AllReadyH.nil
                          · go_simp
                            go_at_call 76
                            refine (amongZ_any B (M + 2) W31.heap.size 0 4 4 [0, 30, 365, 1000] _ HS32_.out.dk.cur (by omega) rfl (by omega) (by omega) HN32_6.out HL32_6.out).mono ?_
                            rintro e W33 ⟨dy, rfl, mdy, hc, hg⟩
                            have bdy : 0 ≤ dy ∧ dy ≤ 1000 := by simp at mdy; omega
                            clear mdy
                            have HS33_ := Lib.hid (HS32_.out.step hlt hwF hBlo hc hg)
                            have HT33_ : Hid (w4.heap.size ≤ W33.heap.size) := Lib.hid (Nat.le_trans HT32_.out hg.size)
                            have HG33_ : Hid (BxV W33 W1.heap.size [.int .i64 0, .int .i64 0, .int .i64 0, .int .i64 0]) := Lib.hid (HG32_.out.grown hg (by have := HGT.out; have := HB4.out; simp; omega))
                            clear hc hg HS32_ HT32_ HL32_6 HG32_
                            (try go_wp2_with fail)
                            refine hK.out _ _ ?_ (fun hHeld => ?_)
                            · exact HS33_.out.f1
                            · clear hK K
                              (try simp only [Act.put, List.setIfInBounds_toArray, List.set_cons_zero, List.set_cons_succ, List.getElem_toArray, List.getElem_cons_succ, List.getElem_cons_zero])
                              refine wpAnyH_ready (rs := [9]) (by kernel_rfl) (by simp) ?_
                              refine AllReadyH.cons rfl (fun K hK => ?_) AllReadyH.nil
                              · go_simp
                                go_at_call 55
                                refine (pick_any B (M + 4) 3 _ HS33_.out.dk.cur (by omega) (by omega) (by omega)).mono ?_
                                rintro e W34 ⟨p, rfl, hp0, hp1, hc, hg⟩
                                have hwp : IntKind.i64.wrap (1 + p) = 1 + p := Go.IntWalk.i64_in _ (by omega)
                                have HS34_ := Lib.hid (HS33_.out.step hlt hwF hBlo hc hg)
                                have HT34_ : Hid (w4.heap.size ≤ W34.heap.size) := Lib.hid (Nat.le_trans HT33_.out hg.size)
                                have HG34_ : Hid (BxV W34 W1.heap.size [.int .i64 0, .int .i64 0, .int .i64 0, .int .i64 0]) := Lib.hid (HG33_.out.grown hg (by have := HGT.out; have := HB4.out; simp; omega))
                                clear hc hg HS33_ HT33_ HG33_
                                (try go_wp2_with fail)
                                refine hK.out _ _ ?_ (fun hHeld => ?_)
                                · exact HS34_.out.f1
                                · clear hK K
                                  (try simp only [Act.put, List.setIfInBounds_toArray, List.set_cons_zero, List.set_cons_succ, List.getElem_toArray, List.getElem_cons_succ, List.getElem_cons_zero])
                                  refine wpAnyH_take (i := 10) (v := ?_) rfl (by kernel_rfl) (by kernel_rfl) (by kernel_rfl) (fun _ _ _ h => h) (Or.inl ⟨by rfl, ?_⟩) (by assumption) ?_
                                  rotate_left
                                  · (intro w hSw; (try dsimp only at hSw); go_simp; first | done | with_reducible rfl)
                                  (try simp only [Act.put, List.setIfInBounds_toArray, List.set_cons_zero, List.set_cons_succ, List.getElem_toArray, List.getElem_cons_succ, List.getElem_cons_zero])
                                  refine wpAnyH_take (i := 11) (v := ?_) rfl (by kernel_rfl) (by kernel_rfl) (by kernel_rfl) (fun _ _ _ h => h) (Or.inl ⟨by rfl, ?_⟩) (by assumption) ?_
                                  rotate_left
                                  · (intro w hSw; (try dsimp only at hSw); go_simp; first | done | with_reducible rfl)
                                  (try simp only [Act.put, List.setIfInBounds_toArray, List.set_cons_zero, List.set_cons_succ, List.getElem_toArray, List.getElem_cons_succ, List.getElem_cons_zero])
                                  have q1 : w.heap.size ≤ W1.heap.size := by have := HGT.out; have := HB4.out; omega
                                  have q2 : F < W1.heap.size := by have := HGT.out; have := HB4.out; omega
                                  have q3 : g ≠ W1.heap.size := by have := HGT.out; have := HB4.out; omega
                                  have q4 : w4.heap.size ≤ W1.heap.size := HGT.out
                                  have z0 := HG34_.out.cell 0
                                  have z1 := HG34_.out.cell 1
                                  have z2 := HG34_.out.cell 2
                                  have z3 := HG34_.out.cell 3
                                  have y0 := HG34_.out.frozen 0
                                  have y1 := HG34_.out.frozen 1
                                  have y2 := HG34_.out.frozen 2
                                  have y3 := HG34_.out.frozen 3
                                  simp at z0 z1 z2 z3
                                  have HF9 := Lib.hid (SSt.put (G := W1.heap.size) (j := 3) (x := .int .i64 (1 + p)) (SSt.put (G := W1.heap.size) (j := 2) (x := .int .i64 dy) (SSt.put (G := W1.heap.size) (j := 1) (x := .int .i64 ev) (SSt.put (G := W1.heap.size) (j := 0) (x := .int .i64 x1) HS34_.out q1 hlt q2 q3 q4) q1 hlt q2 q3 q4) q1 hlt q2 q3 q4) q1 hlt q2 q3 q4)
                                  have HB9 := Lib.hid (BxV.set (cs' := [.int .i64 x1, .int .i64 ev, .int .i64 dy, .int .i64 (1 + p)]) 3 (.int .i64 (1 + p)) (BxV.set (cs' := [.int .i64 x1, .int .i64 ev, .int .i64 dy, .int .i64 0]) 2 (.int .i64 dy) (BxV.set (cs' := [.int .i64 x1, .int .i64 ev, .int .i64 0, .int .i64 0]) 1 (.int .i64 ev) (BxV.set (cs' := [.int .i64 x1, .int .i64 0, .int .i64 0, .int .i64 0]) 0 (.int .i64 x1) HG34_.out rfl) rfl) rfl) rfl)
                                  refine wpAnyH_ready (rs := [13]) (by kernel_rfl) (by simp) ?_
                                  refine AllReadyH.cons rfl (fun K hK => ?_) AllReadyH.nil
                                  go_simp
                                  refine hK.out _ _ ?_ (fun hHeld => ?_)
                                  · exact HF9.out.f1
                                  · clear hK K
                                    (try simp only [Act.put, List.setIfInBounds_toArray, List.set_cons_zero, List.set_cons_succ, List.getElem_toArray, List.getElem_cons_succ, List.getElem_cons_zero])
                                    refine wpAnyH_done (by kernel_rfl) ?_ _
                                    (try go_wp2_with fail)
                                    go_meet
                                    exact ⟨_, ev, dy, p, rfl, bev, bdy, ⟨hp0, hp1⟩, q2, q4, HF9, HB9⟩
                  · go_simp
                    refine hK.out _ _ ?_ (fun hHeld => ?_)
                    · exact (HS30_.out.al _).f1
                    · clear hK K hHeld
                      (try simp only [Act.put, List.setIfInBounds_toArray, List.set_cons_zero, List.set_cons_succ, List.getElem_toArray, List.getElem_cons_succ, List.getElem_cons_zero])
                      refine gen_al (W := W30) ?_
                      intro W35 hWn
                      have HS35_ := Lib.hid (by rw [hWn]; exact HS30_.out.al _ : SSt w W35 B (M + 0) F lo hi x0 x1 x2 g c xs u5 t w4.heap.size)
                      have HT35_ : Hid (w4.heap.size ≤ W35.heap.size) := Lib.hid (by rw [hWn]; exact Nat.le_trans HT30_.out (by simp))
                      have HL35_3 : Hid (NL W35 W0.heap.size [0, 0, 1, 2, 3]) := Lib.hid (by rw [hWn]; exact HL30_3.out.al _)
                      have HG35_ : Hid (BxV W35 W1.heap.size [.int .i64 0, .int .i64 0, .int .i64 0, .int .i64 0]) := Lib.hid (by rw [hWn]; exact HG30_.out.al _)
                      have HL35_6 : Hid (NL W35 W30.heap.size [0, 30, 365, 1000]) := Lib.hid (by rw [hWn]; exact new_nums W30 [0, 30, 365, 1000] 3 _ rfl)
                      have HN35_6 : Hid (W30.heap.size ≠ B) := Lib.hid (by have := HS30_.out.dk.cur.lt; omega)
                      have hHeld : (fun w' : World => w'.cell? ⟨F, 1, none⟩ = some (.int .i64 x1)) W35 := HS35_.out.f1
                      clear hWn HS30_ HT30_ HL30_3 HG30_
                      refine wpAnyH_ready (rs := [4]) (by kernel_rfl) (by simp) ?_
                      refine AllReadyH.cons rfl (fun K hK => ?_) AllReadyH.nil
                      · go_simp
                        go_at_call 76
                        refine (amongZ_any B (M + 0) W0.heap.size 0 5 5 [0, 0, 1, 2, 3] _ HS35_.out.dk.cur (by omega) rfl (by omega) (by omega) HN1_3.out HL35_3.out).mono ?_
                        rintro e W36 ⟨ev, rfl, mev, hc, hg⟩
                        have bev : 0 ≤ ev ∧ ev ≤ 3 := by simp at mev; omega
                        clear mev
                        have HS36_ := Lib.hid (HS35_.out.step hlt hwF hBlo hc hg)
                        have HT36_ : Hid (w4.heap.size ≤ W36.heap.size) := Lib.hid (Nat.le_trans HT35_.out hg.size)
                        have HL36_6 : Hid (NL W36 W30.heap.size [0, 30, 365, 1000]) := Lib.hid (HL35_6.out.grown hg HN35_6.out)
                        have HG36_ : Hid (BxV W36 W1.heap.size [.int .i64 0, .int .i64 0, .int .i64 0, .int .i64 0]) := Lib.hid (HG35_.out.grown hg (by have := HGT.out; have := HB4.out; simp; omega))
                        clear hc hg HS35_ HT35_ HL35_3 HL35_6 HG35_
                        (try go_wp2_with fail)
                        refine hK.out _ _ ?_ (fun hHeld => ?_)
                        · exact HS36_.out.f1
                        · clear hK K
                          (try simp only [Act.put, List.setIfInBounds_toArray, List.set_cons_zero, List.set_cons_succ, List.getElem_toArray, List.getElem_cons_succ, List.getElem_cons_zero])
                          refine wpAnyH_ready (rs := [7]) (by kernel_rfl) (by simp) ?_
                          refine AllReadyH.cons rfl (fun K hK => ?_) AllReadyH.nil
                          · go_simp
                            go_at_call 76
                            refine (amongZ_any B (M + 2) W30.heap.size 0 4 4 [0, 30, 365, 1000] _ HS36_.out.dk.cur (by omega) rfl (by omega) (by omega) HN35_6.out HL36_6.out).mono ?_
                            rintro e W37 ⟨dy, rfl, mdy, hc, hg⟩
                            have bdy : 0 ≤ dy ∧ dy ≤ 1000 := by simp at mdy; omega
                            clear mdy
                            have HS37_ := Lib.hid (HS36_.out.step hlt hwF hBlo hc hg)
                            have HT37_ : Hid (w4.heap.size ≤ W37.heap.size) := Lib.hid (Nat.le_trans HT36_.out hg.size)
                            have HG37_ : Hid (BxV W37 W1.heap.size [.int .i64 0, .int .i64 0, .int .i64 0, .int .i64 0]) := Lib.hid (HG36_.out.grown hg (by have := HGT.out; have := HB4.out; simp; omega))
                            clear hc hg HS36_ HT36_ HL36_6 HG36_
                            (try go_wp2_with fail)
                            refine hK.out _ _ ?_ (fun hHeld => ?_)
                            · exact HS37_.out.f1
                            · clear hK K
                              (try simp only [Act.put, List.setIfInBounds_toArray, List.set_cons_zero, List.set_cons_succ, List.getElem_toArray, List.getElem_cons_succ, List.getElem_cons_zero])
                              refine wpAnyH_ready (rs := [9]) (by kernel_rfl) (by simp) ?_
                              refine AllReadyH.cons rfl (fun K hK => ?_) AllReadyH.nil
                              · go_simp
                                go_at_call 55
                                refine (pick_any B (M + 4) 3 _ HS37_.out.dk.cur (by omega) (by omega) (by omega)).mono ?_
                                rintro e W38 ⟨p, rfl, hp0, hp1, hc, hg⟩
                                have hwp : IntKind.i64.wrap (1 + p) = 1 + p := Go.IntWalk.i64_in _ (by omega)
                                have HS38_ := Lib.hid (HS37_.out.step hlt hwF hBlo hc hg)
                                have HT38_ : Hid (w4.heap.size ≤ W38.heap.size) := Lib.hid (Nat.le_trans HT37_.out hg.size)
                                have HG38_ : Hid (BxV W38 W1.heap.size [.int .i64 0, .int .i64 0, .int .i64 0, .int .i64 0]) := Lib.hid (HG37_.out.grown hg (by have := HGT.out; have := HB4.out; simp; omega))
                                clear hc hg HS37_ HT37_ HG37_
                                (try go_wp2_with fail)
                                refine hK.out _ _ ?_ (fun hHeld => ?_)
                                · exact HS38_.out.f1
                                · clear hK K
                                  (try simp only [Act.put, List.setIfInBounds_toArray, List.set_cons_zero, List.set_cons_succ, List.getElem_toArray, List.getElem_cons_succ, List.getElem_cons_zero])
                                  refine wpAnyH_take (i := 10) (v := ?_) rfl (by kernel_rfl) (by kernel_rfl) (by kernel_rfl) (fun _ _ _ h => h) (Or.inl ⟨by rfl, ?_⟩) (by assumption) ?_
                                  rotate_left
                                  · (intro w hSw; (try dsimp only at hSw); go_simp; first | done | with_reducible rfl)
                                  (try simp only [Act.put, List.setIfInBounds_toArray, List.set_cons_zero, List.set_cons_succ, List.getElem_toArray, List.getElem_cons_succ, List.getElem_cons_zero])
                                  refine wpAnyH_take (i := 11) (v := ?_) rfl (by kernel_rfl) (by kernel_rfl) (by kernel_rfl) (fun _ _ _ h => h) (Or.inl ⟨by rfl, ?_⟩) (by assumption) ?_
                                  rotate_left
                                  · (intro w hSw; (try dsimp only at hSw); go_simp; first | done | with_reducible rfl)
                                  (try simp only [Act.put, List.setIfInBounds_toArray, List.set_cons_zero, List.set_cons_succ, List.getElem_toArray, List.getElem_cons_succ, List.getElem_cons_zero])
                                  have q1 : w.heap.size ≤ W1.heap.size := by have := HGT.out; have := HB4.out; omega
                                  have q2 : F < W1.heap.size := by have := HGT.out; have := HB4.out; omega
                                  have q3 : g ≠ W1.heap.size := by have := HGT.out; have := HB4.out; omega
                                  have q4 : w4.heap.size ≤ W1.heap.size := HGT.out
                                  have z0 := HG38_.out.cell 0
                                  have z1 := HG38_.out.cell 1
                                  have z2 := HG38_.out.cell 2
                                  have z3 := HG38_.out.cell 3
                                  have y0 := HG38_.out.frozen 0
                                  have y1 := HG38_.out.frozen 1
                                  have y2 := HG38_.out.frozen 2
                                  have y3 := HG38_.out.frozen 3
                                  simp at z0 z1 z2 z3
                                  have HF9 := Lib.hid (SSt.put (G := W1.heap.size) (j := 3) (x := .int .i64 (1 + p)) (SSt.put (G := W1.heap.size) (j := 2) (x := .int .i64 dy) (SSt.put (G := W1.heap.size) (j := 1) (x := .int .i64 ev) (SSt.put (G := W1.heap.size) (j := 0) (x := .int .i64 x1) HS38_.out q1 hlt q2 q3 q4) q1 hlt q2 q3 q4) q1 hlt q2 q3 q4) q1 hlt q2 q3 q4)
                                  have HB9 := Lib.hid (BxV.set (cs' := [.int .i64 x1, .int .i64 ev, .int .i64 dy, .int .i64 (1 + p)]) 3 (.int .i64 (1 + p)) (BxV.set (cs' := [.int .i64 x1, .int .i64 ev, .int .i64 dy, .int .i64 0]) 2 (.int .i64 dy) (BxV.set (cs' := [.int .i64 x1, .int .i64 ev, .int .i64 0, .int .i64 0]) 1 (.int .i64 ev) (BxV.set (cs' := [.int .i64 x1, .int .i64 0, .int .i64 0, .int .i64 0]) 0 (.int .i64 x1) HG38_.out rfl) rfl) rfl) rfl)
                                  refine wpAnyH_ready (rs := [13]) (by kernel_rfl) (by simp) ?_
                                  refine AllReadyH.cons rfl (fun K hK => ?_) AllReadyH.nil
                                  go_simp
                                  refine hK.out _ _ ?_ (fun hHeld => ?_)
                                  · exact HF9.out.f1
                                  · clear hK K
                                    (try simp only [Act.put, List.setIfInBounds_toArray, List.set_cons_zero, List.set_cons_succ, List.getElem_toArray, List.getElem_cons_succ, List.getElem_cons_zero])
                                    refine wpAnyH_done (by kernel_rfl) ?_ _
                                    (try go_wp2_with fail)
                                    go_meet
                                    exact ⟨_, ev, dy, p, rfl, bev, bdy, ⟨hp0, hp1⟩, q2, q4, HF9, HB9⟩
          · go_simp
            refine hK.out _ _ ?_ (fun hHeld => ?_)
            · exact (HS0_.out.al _).f1
            · clear hK K hHeld
              (try simp only [Act.put, List.setIfInBounds_toArray, List.set_cons_zero, List.set_cons_succ, List.getElem_toArray, List.getElem_cons_succ, List.getElem_cons_zero])
              refine gen_al (W := W0) ?_
              intro W39 hWn
              have HS39_ := Lib.hid (by rw [hWn]; exact HS0_.out.al _ : SSt w W39 B (M + 0) F lo hi x0 x1 x2 g c xs u5 t w4.heap.size)
              have HT39_ : Hid (w4.heap.size ≤ W39.heap.size) := Lib.hid (by rw [hWn]; exact Nat.le_trans HT0_.out (by simp))
              have HL39_6 : Hid (NL W39 W0.heap.size [0, 30, 365, 1000]) := Lib.hid (by rw [hWn]; exact new_nums W0 [0, 30, 365, 1000] 3 _ rfl)
              have HN39_6 : Hid (W0.heap.size ≠ B) := Lib.hid (by have := HS0_.out.dk.cur.lt; omega)
              have hHeld : (fun w' : World => w'.cell? ⟨F, 1, none⟩ = some (.int .i64 x1)) W39 := HS39_.out.f1
              clear hWn HS0_ HT0_
              refine wpAnyH_ready (rs := [3, 12]) (by kernel_rfl) (by simp) ?_
              refine AllReadyH.cons rfl (fun K hK => ?_) (AllReadyH.cons rfl (fun K hK => ?_) AllReadyH.nil)
              · go_simp
                refine hK.out _ _ ?_ (fun hHeld => ?_)
                · exact (HS39_.out.al _).f1
                · clear hK K hHeld
                  (try simp only [Act.put, List.setIfInBounds_toArray, List.set_cons_zero, List.set_cons_succ, List.getElem_toArray, List.getElem_cons_succ, List.getElem_cons_zero])
                  refine gen_al (W := W39) ?_
                  intro W40 hWn
                  have HS40_ := Lib.hid (by rw [hWn]; exact HS39_.out.al _ : SSt w W40 B (M + 0) F lo hi x0 x1 x2 g c xs u5 t w4.heap.size)
                  have HT40_ : Hid (w4.heap.size ≤ W40.heap.size) := Lib.hid (by rw [hWn]; exact Nat.le_trans HT39_.out (by simp))
                  have HL40_6 : Hid (NL W40 W0.heap.size [0, 30, 365, 1000]) := Lib.hid (by rw [hWn]; exact HL39_6.out.al _)
                  have HL40_3 : Hid (NL W40 W39.heap.size [0, 0, 1, 2, 3]) := Lib.hid (by rw [hWn]; exact new_nums W39 [0, 0, 1, 2, 3] 3 _ rfl)
                  have HN40_3 : Hid (W39.heap.size ≠ B) := Lib.hid (by have := HS39_.out.dk.cur.lt; omega)
                  have hHeld : (fun w' : World => w'.cell? ⟨F, 1, none⟩ = some (.int .i64 x1)) W40 := HS40_.out.f1
                  clear hWn HS39_ HT39_ HL39_6
                  refine wpAnyH_ready (rs := [4, 12]) (by kernel_rfl) (by simp) ?_
                  refine AllReadyH.cons rfl (fun K hK => ?_) (AllReadyH.cons rfl (fun K hK => ?_) AllReadyH.nil)
                  · go_simp
                    go_at_call 76
                    refine (amongZ_any B (M + 0) W39.heap.size 0 5 5 [0, 0, 1, 2, 3] _ HS40_.out.dk.cur (by omega) rfl (by omega) (by omega) HN40_3.out HL40_3.out).mono ?_
                    rintro e W41 ⟨ev, rfl, mev, hc, hg⟩
                    have bev : 0 ≤ ev ∧ ev ≤ 3 := by simp at mev; omega
                    clear mev
                    have HS41_ := Lib.hid (HS40_.out.step hlt hwF hBlo hc hg)
                    have HT41_ : Hid (w4.heap.size ≤ W41.heap.size) := Lib.hid (Nat.le_trans HT40_.out hg.size)
                    have HL41_6 : Hid (NL W41 W0.heap.size [0, 30, 365, 1000]) := Lib.hid (HL40_6.out.grown hg HN39_6.out)
                    clear hc hg HS40_ HT40_ HL40_3 HL40_6
                    (try go_wp2_with fail)
                    refine hK.out _ _ ?_ (fun hHeld => ?_)
                    · exact HS41_.out.f1
                    · clear hK K
                      (try simp only [Act.put, List.setIfInBounds_toArray, List.set_cons_zero, List.set_cons_succ, List.getElem_toArray, List.getElem_cons_succ, List.getElem_cons_zero])
                      refine wpAnyH_ready (rs := [7, 12]) (by kernel_rfl) (by simp) ?_
                      refine AllReadyH.cons rfl (fun K hK => ?_) (AllReadyH.cons rfl (fun K hK => ?_) AllReadyH.nil)
                      · go_simp
                        go_at_call 76
                        refine (amongZ_any B (M + 2) W0.heap.size 0 4 4 [0, 30, 365, 1000] _ HS41_.out.dk.cur (by omega) rfl (by omega) (by omega) HN39_6.out HL41_6.out).mono ?_
                        rintro e W42 ⟨dy, rfl, mdy, hc, hg⟩
                        have bdy : 0 ≤ dy ∧ dy ≤ 1000 := by simp at mdy; omega
                        clear mdy
                        have HS42_ := Lib.hid (HS41_.out.step hlt hwF hBlo hc hg)
                        have HT42_ : Hid (w4.heap.size ≤ W42.heap.size) := Lib.hid (Nat.le_trans HT41_.out hg.size)
                        clear hc hg HS41_ HT41_ HL41_6
                        (try go_wp2_with fail)
                        refine hK.out _ _ ?_ (fun hHeld => ?_)
                        · exact HS42_.out.f1
                        · clear hK K
                          (try simp only [Act.put, List.setIfInBounds_toArray, List.set_cons_zero, List.set_cons_succ, List.getElem_toArray, List.getElem_cons_succ, List.getElem_cons_zero])
                          refine wpAnyH_ready (rs := [9, 12]) (by kernel_rfl) (by simp) ?_
                          refine AllReadyH.cons rfl (fun K hK => ?_) (AllReadyH.cons rfl (fun K hK => ?_) AllReadyH.nil)
                          · go_simp
                            go_at_call 55
                            refine (pick_any B (M + 4) 3 _ HS42_.out.dk.cur (by omega) (by omega) (by omega)).mono ?_
                            rintro e W43 ⟨p, rfl, hp0, hp1, hc, hg⟩
                            have hwp : IntKind.i64.wrap (1 + p) = 1 + p := Go.IntWalk.i64_in _ (by omega)
                            have HS43_ := Lib.hid (HS42_.out.step hlt hwF hBlo hc hg)
                            have HT43_ : Hid (w4.heap.size ≤ W43.heap.size) := Lib.hid (Nat.le_trans HT42_.out hg.size)
                            clear hc hg HS42_ HT42_
                            (try go_wp2_with fail)
                            refine hK.out _ _ ?_ (fun hHeld => ?_)
                            · exact HS43_.out.f1
                            · clear hK K
                              (try simp only [Act.put, List.setIfInBounds_toArray, List.set_cons_zero, List.set_cons_succ, List.getElem_toArray, List.getElem_cons_succ, List.getElem_cons_zero])
                              refine wpAnyH_take (i := 10) (v := ?_) rfl (by kernel_rfl) (by kernel_rfl) (by kernel_rfl) (fun _ _ _ h => h) (Or.inl ⟨by rfl, ?_⟩) (by assumption) ?_
                              rotate_left
                              · (intro w hSw; (try dsimp only at hSw); go_simp; first | done | with_reducible rfl)
                              (try simp only [Act.put, List.setIfInBounds_toArray, List.set_cons_zero, List.set_cons_succ, List.getElem_toArray, List.getElem_cons_succ, List.getElem_cons_zero])
                              refine wpAnyH_take (i := 11) (v := ?_) rfl (by kernel_rfl) (by kernel_rfl) (by kernel_rfl) (fun _ _ _ h => h) (Or.inl ⟨by rfl, ?_⟩) (by assumption) ?_
                              rotate_left
                              · (intro w hSw; (try dsimp only at hSw); go_simp; first | done | with_reducible rfl)
                              (try simp only [Act.put, List.setIfInBounds_toArray, List.set_cons_zero, List.set_cons_succ, List.getElem_toArray, List.getElem_cons_succ, List.getElem_cons_zero])
                              refine wpAnyH_ready (rs := [12]) (by kernel_rfl) (by simp) ?_
                              refine AllReadyH.cons rfl (fun K hK => ?_) AllReadyH.nil
                              · go_simp
                                refine hK.out _ _ ?_ (fun hHeld => ?_)
                                · exact (HS43_.out.al _).f1
                                · clear hK K hHeld
                                  (try simp only [Act.put, List.setIfInBounds_toArray, List.set_cons_zero, List.set_cons_succ, List.getElem_toArray, List.getElem_cons_succ, List.getElem_cons_zero])
                                  refine gen_al (W := W43) ?_
                                  intro W44 hWn
                                  have HS44_ := Lib.hid (by rw [hWn]; exact HS43_.out.al _ : SSt w W44 B (M + 6) F lo hi x0 x1 x2 g c xs u5 t w4.heap.size)
                                  have HT44_ : Hid (w4.heap.size ≤ W44.heap.size) := Lib.hid (by rw [hWn]; exact Nat.le_trans HT43_.out (by simp))
                                  have HG44_ : Hid (BxV W44 W43.heap.size [.int .i64 0, .int .i64 0, .int .i64 0, .int .i64 0]) := Lib.hid (by rw [hWn]; exact BxV.new W43 _ _)
                                  have HGT : Hid (w4.heap.size ≤ W43.heap.size) := HT43_
                                  have hHeld : (fun w' : World => w'.cell? ⟨F, 1, none⟩ = some (.int .i64 x1)) W44 := HS44_.out.f1
                                  clear hWn HS43_ HT43_
                                  have q1 : w.heap.size ≤ W43.heap.size := by have := HGT.out; have := HB4.out; omega
                                  have q2 : F < W43.heap.size := by have := HGT.out; have := HB4.out; omega
                                  have q3 : g ≠ W43.heap.size := by have := HGT.out; have := HB4.out; omega
                                  have q4 : w4.heap.size ≤ W43.heap.size := HGT.out
                                  have z0 := HG44_.out.cell 0
                                  have z1 := HG44_.out.cell 1
                                  have z2 := HG44_.out.cell 2
                                  have z3 := HG44_.out.cell 3
                                  have y0 := HG44_.out.frozen 0
                                  have y1 := HG44_.out.frozen 1
                                  have y2 := HG44_.out.frozen 2
                                  have y3 := HG44_.out.frozen 3
                                  simp at z0 z1 z2 z3
                                  have HF9 := Lib.hid (SSt.put (G := W43.heap.size) (j := 3) (x := .int .i64 (1 + p)) (SSt.put (G := W43.heap.size) (j := 2) (x := .int .i64 dy) (SSt.put (G := W43.heap.size) (j := 1) (x := .int .i64 ev) (SSt.put (G := W43.heap.size) (j := 0) (x := .int .i64 x1) HS44_.out q1 hlt q2 q3 q4) q1 hlt q2 q3 q4) q1 hlt q2 q3 q4) q1 hlt q2 q3 q4)
                                  have HB9 := Lib.hid (BxV.set (cs' := [.int .i64 x1, .int .i64 ev, .int .i64 dy, .int .i64 (1 + p)]) 3 (.int .i64 (1 + p)) (BxV.set (cs' := [.int .i64 x1, .int .i64 ev, .int .i64 dy, .int .i64 0]) 2 (.int .i64 dy) (BxV.set (cs' := [.int .i64 x1, .int .i64 ev, .int .i64 0, .int .i64 0]) 1 (.int .i64 ev) (BxV.set (cs' := [.int .i64 x1, .int .i64 0, .int .i64 0, .int .i64 0]) 0 (.int .i64 x1) HG44_.out rfl) rfl) rfl) rfl)
                                  refine wpAnyH_ready (rs := [13]) (by kernel_rfl) (by simp) ?_
                                  refine AllReadyH.cons rfl (fun K hK => ?_) AllReadyH.nil
                                  go_simp
                                  refine hK.out _ _ ?_ (fun hHeld => ?_)
                                  · exact HF9.out.f1
                                  · clear hK K
                                    (try simp only [Act.put, List.setIfInBounds_toArray, List.set_cons_zero, List.set_cons_succ, List.getElem_toArray, List.getElem_cons_succ, List.getElem_cons_zero])
                                    refine wpAnyH_done (by kernel_rfl) ?_ _
                                    (try go_wp2_with fail)
                                    go_meet
                                    exact ⟨_, ev, dy, p, rfl, bev, bdy, ⟨hp0, hp1⟩, q2, q4, HF9, HB9⟩
                          · go_simp
                            refine hK.out _ _ ?_ (fun hHeld => ?_)
                            · exact (HS42_.out.al _).f1
                            · clear hK K hHeld
                              (try simp only [Act.put, List.setIfInBounds_toArray, List.set_cons_zero, List.set_cons_succ, List.getElem_toArray, List.getElem_cons_succ, List.getElem_cons_zero])
                              refine gen_al (W := W42) ?_
                              intro W45 hWn
                              have HS45_ := Lib.hid (by rw [hWn]; exact HS42_.out.al _ : SSt w W45 B (M + 4) F lo hi x0 x1 x2 g c xs u5 t w4.heap.size)
                              have HT45_ : Hid (w4.heap.size ≤ W45.heap.size) := Lib.hid (by rw [hWn]; exact Nat.le_trans HT42_.out (by simp))
                              have HG45_ : Hid (BxV W45 W42.heap.size [.int .i64 0, .int .i64 0, .int .i64 0, .int .i64 0]) := Lib.hid (by rw [hWn]; exact BxV.new W42 _ _)
                              have HGT : Hid (w4.heap.size ≤ W42.heap.size) := HT42_
                              have hHeld : (fun w' : World => w'.cell? ⟨F, 1, none⟩ = some (.int .i64 x1)) W45 := HS45_.out.f1
                              clear hWn HS42_ HT42_
                              refine wpAnyH_ready (rs := [9]) (by kernel_rfl) (by simp) ?_
                              refine AllReadyH.cons rfl (fun K hK => ?_) AllReadyH.nil
                              · go_simp
                                go_at_call 55
                                refine (pick_any B (M + 4) 3 _ HS45_.out.dk.cur (by omega) (by omega) (by omega)).mono ?_
                                rintro e W46 ⟨p, rfl, hp0, hp1, hc, hg⟩
                                have hwp : IntKind.i64.wrap (1 + p) = 1 + p := Go.IntWalk.i64_in _ (by omega)
                                have HS46_ := Lib.hid (HS45_.out.step hlt hwF hBlo hc hg)
                                have HT46_ : Hid (w4.heap.size ≤ W46.heap.size) := Lib.hid (Nat.le_trans HT45_.out hg.size)
                                have HG46_ : Hid (BxV W46 W42.heap.size [.int .i64 0, .int .i64 0, .int .i64 0, .int .i64 0]) := Lib.hid (HG45_.out.grown hg (by have := HGT.out; have := HB4.out; simp; omega))
                                clear hc hg HS45_ HT45_ HG45_
                                (try go_wp2_with fail)
                                refine hK.out _ _ ?_ (fun hHeld => ?_)
                                · exact HS46_.out.f1
                                · clear hK K
                                  (try simp only [Act.put, List.setIfInBounds_toArray, List.set_cons_zero, List.set_cons_succ, List.getElem_toArray, List.getElem_cons_succ, List.getElem_cons_zero])
                                  refine wpAnyH_take (i := 10) (v := ?_) rfl (by kernel_rfl) (by kernel_rfl) (by kernel_rfl) (fun _ _ _ h => h) (Or.inl ⟨by rfl, ?_⟩) (by assumption) ?_
                                  rotate_left
                                  · (intro w hSw; (try dsimp only at hSw); go_simp; first | done | with_reducible rfl)
                                  (try simp only [Act.put, List.setIfInBounds_toArray, List.set_cons_zero, List.set_cons_succ, List.getElem_toArray, List.getElem_cons_succ, List.getElem_cons_zero])
                                  refine wpAnyH_take (i := 11) (v := ?_) rfl (by kernel_rfl) (by kernel_rfl) (by kernel_rfl) (fun _ _ _ h => h) (Or.inl ⟨by rfl, ?_⟩) (by assumption) ?_
                                  rotate_left
                                  · (intro w hSw; (try dsimp only at hSw); go_simp; first | done | with_reducible rfl)
                                  (try simp only [Act.put, List.setIfInBounds_toArray, List.set_cons_zero, List.set_cons_succ, List.getElem_toArray, List.getElem_cons_succ, List.getElem_cons_zero])
                                  have q1 : w.heap.size ≤ W42.heap.size := by have := HGT.out; have := HB4.out; omega
                                  have q2 : F < W42.heap.size := by have := HGT.out; have := HB4.out; omega
                                  have q3 : g ≠ W42.heap.size := by have := HGT.out; have := HB4.out; omega
                                  have q4 : w4.heap.size ≤ W42.heap.size := HGT.out
                                  have z0 := HG46_.out.cell 0
                                  have z1 := HG46_.out.cell 1
                                  have z2 := HG46_.out.cell 2
                                  have z3 := HG46_.out.cell 3
                                  have y0 := HG46_.out.frozen 0
                                  have y1 := HG46_.out.frozen 1
                                  have y2 := HG46_.out.frozen 2
                                  have y3 := HG46_.out.frozen 3
                                  simp at z0 z1 z2 z3
                                  have HF9 := Lib.hid (SSt.put (G := W42.heap.size) (j := 3) (x := .int .i64 (1 + p)) (SSt.put (G := W42.heap.size) (j := 2) (x := .int .i64 dy) (SSt.put (G := W42.heap.size) (j := 1) (x := .int .i64 ev) (SSt.put (G := W42.heap.size) (j := 0) (x := .int .i64 x1) HS46_.out q1 hlt q2 q3 q4) q1 hlt q2 q3 q4) q1 hlt q2 q3 q4) q1 hlt q2 q3 q4)
                                  have HB9 := Lib.hid (BxV.set (cs' := [.int .i64 x1, .int .i64 ev, .int .i64 dy, .int .i64 (1 + p)]) 3 (.int .i64 (1 + p)) (BxV.set (cs' := [.int .i64 x1, .int .i64 ev, .int .i64 dy, .int .i64 0]) 2 (.int .i64 dy) (BxV.set (cs' := [.int .i64 x1, .int .i64 ev, .int .i64 0, .int .i64 0]) 1 (.int .i64 ev) (BxV.set (cs' := [.int .i64 x1, .int .i64 0, .int .i64 0, .int .i64 0]) 0 (.int .i64 x1) HG46_.out rfl) rfl) rfl) rfl)
                                  refine wpAnyH_ready (rs := [13]) (by kernel_rfl) (by simp) ?_
                                  refine AllReadyH.cons rfl (fun K hK => ?_) AllReadyH.nil
                                  go_simp
                                  refine hK.out _ _ ?_ (fun hHeld => ?_)
                                  · exact HF9.out.f1
                                  · clear hK K
                                    (try simp only [Act.put, List.setIfInBounds_toArray, List.set_cons_zero, List.set_cons_succ, List.getElem_toArray, List.getElem_cons_succ, List.getElem_cons_zero])
                                    refine wpAnyH_done (by kernel_rfl) ?_ _
                                    (try go_wp2_with fail)
                                    go_meet
                                    exact ⟨_, ev, dy, p, rfl, bev, bdy, ⟨hp0, hp1⟩, q2, q4, HF9, HB9⟩
                      · go_simp
                        refine hK.out _ _ ?_ (fun hHeld => ?_)
                        · exact (HS41_.out.al _).f1
                        · clear hK K hHeld
                          (try simp only [Act.put, List.setIfInBounds_toArray, List.set_cons_zero, List.set_cons_succ, List.getElem_toArray, List.getElem_cons_succ, List.getElem_cons_zero])
                          refine gen_al (W := W41) ?_
                          intro W47 hWn
                          have HS47_ := Lib.hid (by rw [hWn]; exact HS41_.out.al _ : SSt w W47 B (M + 2) F lo hi x0 x1 x2 g c xs u5 t w4.heap.size)
                          have HT47_ : Hid (w4.heap.size ≤ W47.heap.size) := Lib.hid (by rw [hWn]; exact Nat.le_trans HT41_.out (by simp))
                          have HL47_6 : Hid (NL W47 W0.heap.size [0, 30, 365, 1000]) := Lib.hid (by rw [hWn]; exact HL41_6.out.al _)
                          have HG47_ : Hid (BxV W47 W41.heap.size [.int .i64 0, .int .i64 0, .int .i64 0, .int .i64 0]) := Lib.hid (by rw [hWn]; exact BxV.new W41 _ _)
                          have HGT : Hid (w4.heap.size ≤ W41.heap.size) := HT41_
                          have hHeld : (fun w' : World => w'.cell? ⟨F, 1, none⟩ = some (.int .i64 x1)) W47 := HS47_.out.f1
                          clear hWn HS41_ HT41_ HL41_6
                          refine wpAnyH_ready (rs := [7]) (by kernel_rfl) (by simp) ?_
                          refine AllReadyH.cons rfl (fun K hK => ?_) AllReadyH.nil
                          · go_simp
                            go_at_call 76
                            refine (amongZ_any B (M + 2) W0.heap.size 0 4 4 [0, 30, 365, 1000] _ HS47_.out.dk.cur (by omega) rfl (by omega) (by omega) HN39_6.out HL47_6.out).mono ?_
                            rintro e W48 ⟨dy, rfl, mdy, hc, hg⟩
                            have bdy : 0 ≤ dy ∧ dy ≤ 1000 := by simp at mdy; omega
                            clear mdy
                            have HS48_ := Lib.hid (HS47_.out.step hlt hwF hBlo hc hg)
                            have HT48_ : Hid (w4.heap.size ≤ W48.heap.size) := Lib.hid (Nat.le_trans HT47_.out hg.size)
                            have HG48_ : Hid (BxV W48 W41.heap.size [.int .i64 0, .int .i64 0, .int .i64 0, .int .i64 0]) := Lib.hid (HG47_.out.grown hg (by have := HGT.out; have := HB4.out; simp; omega))
                            clear hc hg HS47_ HT47_ HL47_6 HG47_
                            (try go_wp2_with fail)
                            refine hK.out _ _ ?_ (fun hHeld => ?_)
                            · exact HS48_.out.f1
                            · clear hK K
                              (try simp only [Act.put, List.setIfInBounds_toArray, List.set_cons_zero, List.set_cons_succ, List.getElem_toArray, List.getElem_cons_succ, List.getElem_cons_zero])
                              refine wpAnyH_ready (rs := [9]) (by kernel_rfl) (by simp) ?_
                              refine AllReadyH.cons rfl (fun K hK => ?_) AllReadyH.nil
                              · go_simp
                                go_at_call 55
                                refine (pick_any B (M + 4) 3 _ HS48_.out.dk.cur (by omega) (by omega) (by omega)).mono ?_
                                rintro e W49 ⟨p, rfl, hp0, hp1, hc, hg⟩
                                have hwp : IntKind.i64.wrap (1 + p) = 1 + p := Go.IntWalk.i64_in _ (by omega)
                                have HS49_ := Lib.hid (HS48_.out.step hlt hwF hBlo hc hg)
                                have HT49_ : Hid (w4.heap.size ≤ W49.heap.size) := Lib.hid (Nat.le_trans HT48_.out hg.size)
                                have HG49_ : Hid (BxV W49 W41.heap.size [.int .i64 0, .int .i64 0, .int .i64 0, .int .i64 0]) := Lib.hid (HG48_.out.grown hg (by have := HGT.out; have := HB4.out; simp; omega))
                                clear hc hg HS48_ HT48_ HG48_
                                (try go_wp2_with fail)
                                refine hK.out _ _ ?_ (fun hHeld => ?_)
                                · exact HS49_.out.f1
                                · clear hK K
                                  (try simp only [Act.put, List.setIfInBounds_toArray, List.set_cons_zero, List.set_cons_succ, List.getElem_toArray, List.getElem_cons_succ, List.getElem_cons_zero])
                                  refine wpAnyH_take (i := 10) (v := ?_) rfl (by kernel_rfl) (by kernel_rfl) (by kernel_rfl) (fun _ _ _ h => h) (Or.inl ⟨by rfl, ?_⟩) (by assumption) ?_
                                  rotate_left
                                  · (intro w hSw; (try dsimp only at hSw); go_simp; first | done | with_reducible rfl)
                                  (try simp only [Act.put, List.setIfInBounds_toArray, List.set_cons_zero, List.set_cons_succ, List.getElem_toArray, List.getElem_cons_succ, List.getElem_cons_zero])
                                  refine wpAnyH_take (i := 11) (v := ?_) rfl (by kernel_rfl) (by kernel_rfl) (by kernel_rfl) (fun _ _ _ h => h) (Or.inl ⟨by rfl, ?_⟩) (by assumption) ?_
                                  rotate_left
                                  · (intro w hSw; (try dsimp only at hSw); go_simp; first | done | with_reducible rfl)
                                  (try simp only [Act.put, List.setIfInBounds_toArray, List.set_cons_zero, List.set_cons_succ, List.getElem_toArray, List.getElem_cons_succ, List.getElem_cons_zero])
                                  have q1 : w.heap.size ≤ W41.heap.size := by have := HGT.out; have := HB4.out; omega
                                  have q2 : F < W41.heap.size := by have := HGT.out; have := HB4.out; omega
                                  have q3 : g ≠ W41.heap.size := by have := HGT.out; have := HB4.out; omega
                                  have q4 : w4.heap.size ≤ W41.heap.size := HGT.out
                                  have z0 := HG49_.out.cell 0
                                  have z1 := HG49_.out.cell 1
                                  have z2 := HG49_.out.cell 2
                                  have z3 := HG49_.out.cell 3
                                  have y0 := HG49_.out.frozen 0
                                  have y1 := HG49_.out.frozen 1
                                  have y2 := HG49_.out.frozen 2
                                  have y3 := HG49_.out.frozen 3
                                  simp at z0 z1 z2 z3
                                  have HF9 := Lib.hid (SSt.put (G := W41.heap.size) (j := 3) (x := .int .i64 (1 + p)) (SSt.put (G := W41.heap.size) (j := 2) (x := .int .i64 dy) (SSt.put (G := W41.heap.size) (j := 1) (x := .int .i64 ev) (SSt.put (G := W41.heap.size) (j := 0) (x := .int .i64 x1) HS49_.out q1 hlt q2 q3 q4) q1 hlt q2 q3 q4) q1 hlt q2 q3 q4) q1 hlt q2 q3 q4)
                                  have HB9 := Lib.hid (BxV.set (cs' := [.int .i64 x1, .int .i64 ev, .int .i64 dy, .int .i64 (1 + p)]) 3 (.int .i64 (1 + p)) (BxV.set (cs' := [.int .i64 x1, .int .i64 ev, .int .i64 dy, .int .i64 0]) 2 (.int .i64 dy) (BxV.set (cs' := [.int .i64 x1, .int .i64 ev, .int .i64 0, .int .i64 0]) 1 (.int .i64 ev) (BxV.set (cs' := [.int .i64 x1, .int .i64 0, .int .i64 0, .int .i64 0]) 0 (.int .i64 x1) HG49_.out rfl) rfl) rfl) rfl)
                                  refine wpAnyH_ready (rs := [13]) (by kernel_rfl) (by simp) ?_
                                  refine AllReadyH.cons rfl (fun K hK => ?_) AllReadyH.nil
                                  go_simp
                                  refine hK.out _ _ ?_ (fun hHeld => ?_)
                                  · exact HF9.out.f1
                                  · clear hK K
                                    (try simp only [Act.put, List.setIfInBounds_toArray, List.set_cons_zero, List.set_cons_succ, List.getElem_toArray, List.getElem_cons_succ, List.getElem_cons_zero])
                                    refine wpAnyH_done (by kernel_rfl) ?_ _
                                    (try go_wp2_with fail)
                                    go_meet
                                    exact ⟨_, ev, dy, p, rfl, bev, bdy, ⟨hp0, hp1⟩, q2, q4, HF9, HB9⟩
                  · go_simp
                    refine hK.out _ _ ?_ (fun hHeld => ?_)
                    · exact (HS40_.out.al _).f1
                    · clear hK K hHeld
                      (try simp only [Act.put, List.setIfInBounds_toArray, List.set_cons_zero, List.set_cons_succ, List.getElem_toArray, List.getElem_cons_succ, List.getElem_cons_zero])
                      refine gen_al (W := W40) ?_
                      intro W50 hWn
                      have HS50_ := Lib.hid (by rw [hWn]; exact HS40_.out.al _ : SSt w W50 B (M + 0) F lo hi x0 x1 x2 g c xs u5 t w4.heap.size)
                      have HT50_ : Hid (w4.heap.size ≤ W50.heap.size) := Lib.hid (by rw [hWn]; exact Nat.le_trans HT40_.out (by simp))
                      have HL50_6 : Hid (NL W50 W0.heap.size [0, 30, 365, 1000]) := Lib.hid (by rw [hWn]; exact HL40_6.out.al _)
                      have HL50_3 : Hid (NL W50 W39.heap.size [0, 0, 1, 2, 3]) := Lib.hid (by rw [hWn]; exact HL40_3.out.al _)
                      have HG50_ : Hid (BxV W50 W40.heap.size [.int .i64 0, .int .i64 0, .int .i64 0, .int .i64 0]) := Lib.hid (by rw [hWn]; exact BxV.new W40 _ _)
                      have HGT : Hid (w4.heap.size ≤ W40.heap.size) := HT40_
                      have hHeld : (fun w' : World => w'.cell? ⟨F, 1, none⟩ = some (.int .i64 x1)) W50 := HS50_.out.f1
                      clear hWn HS40_ HT40_ HL40_6 HL40_3
                      refine wpAnyH_ready (rs := [4]) (by kernel_rfl) (by simp) ?_
                      refine AllReadyH.cons rfl (fun K hK => ?_) AllReadyH.nil
                      · go_simp
                        go_at_call 76
                        refine (amongZ_any B (M + 0) W39.heap.size 0 5 5 [0, 0, 1, 2, 3] _ HS50_.out.dk.cur (by omega) rfl (by omega) (by omega) HN40_3.out HL50_3.out).mono ?_
                        rintro e W51 ⟨ev, rfl, mev, hc, hg⟩
                        have bev : 0 ≤ ev ∧ ev ≤ 3 := by simp at mev; omega
                        clear mev
                        have HS51_ := Lib.hid (HS50_.out.step hlt hwF hBlo hc hg)
                        have HT51_ : Hid (w4.heap.size ≤ W51.heap.size) := Lib.hid (Nat.le_trans HT50_.out hg.size)
                        have HL51_6 : Hid (NL W51 W0.heap.size [0, 30, 365, 1000]) := Lib.hid (HL50_6.out.grown hg HN39_6.out)
                        have HG51_ : Hid (BxV W51 W40.heap.size [.int .i64 0, .int .i64 0, .int .i64 0, .int .i64 0]) := Lib.hid (HG50_.out.grown hg (by have := HGT.out; have := HB4.out; simp; omega))
                        clear hc hg HS50_ HT50_ HL50_3 HL50_6 HG50_
                        (try go_wp2_with fail)
                        refine hK.out _ _ ?_ (fun hHeld => ?_)
                        · exact HS51_.out.f1
                        · clear hK K
                          (try simp only [Act.put, List.setIfInBounds_toArray, List.set_cons_zero, List.set_cons_succ, List.getElem_toArray, List.getElem_cons_succ, List.getElem_cons_zero])
                          refine wpAnyH_ready (rs := [7]) (by kernel_rfl) (by simp) ?_
                          refine AllReadyH.cons rfl (fun K hK => ?_) AllReadyH.nil
                          · go_simp
                            go_at_call 76
                            refine (amongZ_any B (M + 2) W0.heap.size 0 4 4 [0, 30, 365, 1000] _ HS51_.out.dk.cur (by omega) rfl (by omega) (by omega) HN39_6.out HL51_6.out).mono ?_
                            rintro e W52 ⟨dy, rfl, mdy, hc, hg⟩
                            have bdy : 0 ≤ dy ∧ dy ≤ 1000 := by simp at mdy; omega
                            clear mdy
                            have HS52_ := Lib.hid (HS51_.out.step hlt hwF hBlo hc hg)
                            have HT52_ : Hid (w4.heap.size ≤ W52.heap.size) := Lib.hid (Nat.le_trans HT51_.out hg.size)
                            have HG52_ : Hid (BxV W52 W40.heap.size [.int .i64 0, .int .i64 0, .int .i64 0, .int .i64 0]) := Lib.hid (HG51_.out.grown hg (by have := HGT.out; have := HB4.out; simp; omega))
                            clear hc hg HS51_ HT51_ HL51_6 HG51_
                            (try go_wp2_with fail)
                            refine hK.out _ _ ?_ (fun hHeld => ?_)
                            · exact HS52_.out.f1
                            · clear hK K
                              (try simp only [Act.put, List.setIfInBounds_toArray, List.set_cons_zero, List.set_cons_succ, List.getElem_toArray, List.getElem_cons_succ, List.getElem_cons_zero])
                              refine wpAnyH_ready (rs := [9]) (by kernel_rfl) (by simp) ?_
                              refine AllReadyH.cons rfl (fun K hK => ?_) AllReadyH.nil
                              · go_simp
                                go_at_call 55
                                refine (pick_any B (M + 4) 3 _ HS52_.out.dk.cur (by omega) (by omega) (by omega)).mono ?_
                                rintro e W53 ⟨p, rfl, hp0, hp1, hc, hg⟩
                                have hwp : IntKind.i64.wrap (1 + p) = 1 + p := Go.IntWalk.i64_in _ (by omega)
                                have HS53_ := Lib.hid (HS52_.out.step hlt hwF hBlo hc hg)
                                have HT53_ : Hid (w4.heap.size ≤ W53.heap.size) := Lib.hid (Nat.le_trans HT52_.out hg.size)
                                have HG53_ : Hid (BxV W53 W40.heap.size [.int .i64 0, .int .i64 0, .int .i64 0, .int .i64 0]) := Lib.hid (HG52_.out.grown hg (by have := HGT.out; have := HB4.out; simp; omega))
                                clear hc hg HS52_ HT52_ HG52_
                                (try go_wp2_with fail)
                                refine hK.out _ _ ?_ (fun hHeld => ?_)
                                · exact HS53_.out.f1
                                · clear hK K
                                  (try simp only [Act.put, List.setIfInBounds_toArray, List.set_cons_zero, List.set_cons_succ, List.getElem_toArray, List.getElem_cons_succ, List.getElem_cons_zero])
                                  refine wpAnyH_take (i := 10) (v := ?_) rfl (by kernel_rfl) (by kernel_rfl) (by kernel_rfl) (fun _ _ _ h => h) (Or.inl ⟨by rfl, ?_⟩) (by assumption) ?_
                                  rotate_left
                                  · (intro w hSw; (try dsimp only at hSw); go_simp; first | done | with_reducible rfl)
                                  (try simp only [Act.put, List.setIfInBounds_toArray, List.set_cons_zero, List.set_cons_succ, List.getElem_toArray, List.getElem_cons_succ, List.getElem_cons_zero])
                                  refine wpAnyH_take (i := 11) (v := ?_) rfl (by kernel_rfl) (by kernel_rfl) (by kernel_rfl) (fun _ _ _ h => h) (Or.inl ⟨by rfl, ?_⟩) (by assumption) ?_
                                  rotate_left
                                  · (intro w hSw; (try dsimp only at hSw); go_simp; first | done | with_reducible rfl)
                                  (try simp only [Act.put, List.setIfInBounds_toArray, List.set_cons_zero, List.set_cons_succ, List.getElem_toArray, List.getElem_cons_succ, List.getElem_cons_zero])
                                  have q1 : w.heap.size ≤ W40.heap.size := by have := HGT.out; have := HB4.out; omega
                                  have q2 : F < W40.heap.size := by have := HGT.out; have := HB4.out; omega
                                  have q3 : g ≠ W40.heap.size := by have := HGT.out; have := HB4.out; omega
                                  have q4 : w4.heap.size ≤ W40.heap.size := HGT.out
                                  have z0 := HG53_.out.cell 0
                                  have z1 := HG53_.out.cell 1
                                  have z2 := HG53_.out.cell 2
                                  have z3 := HG53_.out.cell 3
                                  have y0 := HG53_.out.frozen 0
                                  have y1 := HG53_.out.frozen 1
                                  have y2 := HG53_.out.frozen 2
                                  have y3 := HG53_.out.frozen 3
                                  simp at z0 z1 z2 z3
                                  have HF9 := Lib.hid (SSt.put (G := W40.heap.size) (j := 3) (x := .int .i64 (1 + p)) (SSt.put (G := W40.heap.size) (j := 2) (x := .int .i64 dy) (SSt.put (G := W40.heap.size) (j := 1) (x := .int .i64 ev) (SSt.put (G := W40.heap.size) (j := 0) (x := .int .i64 x1) HS53_.out q1 hlt q2 q3 q4) q1 hlt q2 q3 q4) q1 hlt q2 q3 q4) q1 hlt q2 q3 q4)
                                  have HB9 := Lib.hid (BxV.set (cs' := [.int .i64 x1, .int .i64 ev, .int .i64 dy, .int .i64 (1 + p)]) 3 (.int .i64 (1 + p)) (BxV.set (cs' := [.int .i64 x1, .int .i64 ev, .int .i64 dy, .int .i64 0]) 2 (.int .i64 dy) (BxV.set (cs' := [.int .i64 x1, .int .i64 ev, .int .i64 0, .int .i64 0]) 1 (.int .i64 ev) (BxV.set (cs' := [.int .i64 x1, .int .i64 0, .int .i64 0, .int .i64 0]) 0 (.int .i64 x1) HG53_.out rfl) rfl) rfl) rfl)
                                  refine wpAnyH_ready (rs := [13]) (by kernel_rfl) (by simp) ?_
                                  refine AllReadyH.cons rfl (fun K hK => ?_) AllReadyH.nil
                                  go_simp
                                  refine hK.out _ _ ?_ (fun hHeld => ?_)
                                  · exact HF9.out.f1
                                  · clear hK K
                                    (try simp only [Act.put, List.setIfInBounds_toArray, List.set_cons_zero, List.set_cons_succ, List.getElem_toArray, List.getElem_cons_succ, List.getElem_cons_zero])
                                    refine wpAnyH_done (by kernel_rfl) ?_ _
                                    (try go_wp2_with fail)
                                    go_meet
                                    exact ⟨_, ev, dy, p, rfl, bev, bdy, ⟨hp0, hp1⟩, q2, q4, HF9, HB9⟩
              · go_simp
                refine hK.out _ _ ?_ (fun hHeld => ?_)
                · exact (HS39_.out.al _).f1
                · clear hK K hHeld
                  (try simp only [Act.put, List.setIfInBounds_toArray, List.set_cons_zero, List.set_cons_succ, List.getElem_toArray, List.getElem_cons_succ, List.getElem_cons_zero])
                  refine gen_al (W := W39) ?_
                  intro W54 hWn
                  have HS54_ := Lib.hid (by rw [hWn]; exact HS39_.out.al _ : SSt w W54 B (M + 0) F lo hi x0 x1 x2 g c xs u5 t w4.heap.size)
                  have HT54_ : Hid (w4.heap.size ≤ W54.heap.size) := Lib.hid (by rw [hWn]; exact Nat.le_trans HT39_.out (by simp))
                  have HL54_6 : Hid (NL W54 W0.heap.size [0, 30, 365, 1000]) := Lib.hid (by rw [hWn]; exact HL39_6.out.al _)
                  have HG54_ : Hid (BxV W54 W39.heap.size [.int .i64 0, .int .i64 0, .int .i64 0, .int .i64 0]) := Lib.hid (by rw [hWn]; exact BxV.new W39 _ _)
                  have HGT : Hid (w4.heap.size ≤ W39.heap.size) := HT39_
                  have hHeld : (fun w' : World => w'.cell? ⟨F, 1, none⟩ = some (.int .i64 x1)) W54 := HS54_.out.f1
                  clear hWn HS39_ HT39_ HL39_6
                  refine wpAnyH_ready (rs := [3]) (by kernel_rfl) (by simp) ?_
                  refine AllReadyH.cons rfl (fun K hK => ?_) AllReadyH.nil
                  · go_simp
                    refine hK.out _ _ ?_ (fun hHeld => ?_)
                    · exact (HS54_.out.al _).f1
                    · clear hK K hHeld
                      (try simp only [Act.put, List.setIfInBounds_toArray, List.set_cons_zero, List.set_cons_succ, List.getElem_toArray, List.getElem_cons_succ, List.getElem_cons_zero])
                      refine gen_al (W := W54) ?_
                      intro W55 hWn
                      have HS55_ := Lib.hid (by rw [hWn]; exact HS54_.out.al _ : SSt w W55 B (M + 0) F lo hi x0 x1 x2 g c xs u5 t w4.heap.size)
                      have HT55_ : Hid (w4.heap.size ≤ W55.heap.size) := Lib.hid (by rw [hWn]; exact Nat.le_trans HT54_.out (by simp))
                      have HL55_6 : Hid (NL W55 W0.heap.size [0, 30, 365, 1000]) := Lib.hid (by rw [hWn]; exact HL54_6.out.al _)
                      have HG55_ : Hid (BxV W55 W39.heap.size [.int .i64 0, .int .i64 0, .int .i64 0, .int .i64 0]) := Lib.hid (by rw [hWn]; exact HG54_.out.al _)
                      have HL55_3 : Hid (NL W55 W54.heap.size [0, 0, 1, 2, 3]) := Lib.hid (by rw [hWn]; exact new_nums W54 [0, 0, 1, 2, 3] 3 _ rfl)
                      have HN55_3 : Hid (W54.heap.size ≠ B) := Lib.hid (by have := HS54_.out.dk.cur.lt; omega)
                      have hHeld : (fun w' : World => w'.cell? ⟨F, 1, none⟩ = some (.int .i64 x1)) W55 := HS55_.out.f1
                      clear hWn HS54_ HT54_ HL54_6 HG54_
                      refine wpAnyH_ready (rs := [4]) (by kernel_rfl) (by simp) ?_
                      refine AllReadyH.cons rfl (fun K hK => ?_) AllReadyH.nil
                      · go_simp
                        go_at_call 76
                        refine (amongZ_any B (M + 0) W54.heap.size 0 5 5 [0, 0, 1, 2, 3] _ HS55_.out.dk.cur (by omega) rfl (by omega) (by omega) HN55_3.out HL55_3.out).mono ?_
                        rintro e W56 ⟨ev, rfl, mev, hc, hg⟩
                        have bev : 0 ≤ ev ∧ ev ≤ 3 := by simp at mev; omega
                        clear mev
                        have HS56_ := Lib.hid (HS55_.out.step hlt hwF hBlo hc hg)
                        have HT56_ : Hid (w4.heap.size ≤ W56.heap.size) := Lib.hid (Nat.le_trans HT55_.out hg.size)
                        have HL56_6 : Hid (NL W56 W0.heap.size [0, 30, 365, 1000]) := Lib.hid (HL55_6.out.grown hg HN39_6.out)
                        have HG56_ : Hid (BxV W56 W39.heap.size [.int .i64 0, .int .i64 0, .int .i64 0, .int .i64 0]) := Lib.hid (HG55_.out.grown hg (by have := HGT.out; have := HB4.out; simp; omega))
                        clear hc hg HS55_ HT55_ HL55_3 HL55_6 HG55_
                        (try go_wp2_with fail)
                        refine hK.out _ _ ?_ (fun hHeld => ?_)
                        · exact HS56_.out.f1
                        · clear hK K
                          (try simp only [Act.put, List.setIfInBounds_toArray, List.set_cons_zero, List.set_cons_succ, List.getElem_toArray, List.getElem_cons_succ, List.getElem_cons_zero])
                          refine wpAnyH_ready (rs := [7]) (by kernel_rfl) (by simp) ?_
                          refine AllReadyH.cons rfl (fun K hK => ?_) AllReadyH.nil
                          · go_simp
                            go_at_call 76
                            refine (amongZ_any B (M + 2) W0.heap.size 0 4 4 [0, 30, 365, 1000] _ HS56_.out.dk.cur (by omega) rfl (by omega) (by omega) HN39_6.out HL56_6.out).mono ?_
                            rintro e W57 ⟨dy, rfl, mdy, hc, hg⟩
                            have bdy : 0 ≤ dy ∧ dy ≤ 1000 := by simp at mdy; omega
                            clear mdy
                            have HS57_ := Lib.hid (HS56_.out.step hlt hwF hBlo hc hg)
                            have HT57_ : Hid (w4.heap.size ≤ W57.heap.size) := Lib.hid (Nat.le_trans HT56_.out hg.size)
                            have HG57_ : Hid (BxV W57 W39.heap.size [.int .i64 0, .int .i64 0, .int .i64 0, .int .i64 0]) := Lib.hid (HG56_.out.grown hg (by have := HGT.out; have := HB4.out; simp; omega))
                            clear hc hg HS56_ HT56_ HL56_6 HG56_
                            (try go_wp2_with fail)
                            refine hK.out _ _ ?_ (fun hHeld => ?_)
                            · exact HS57_.out.f1
                            · clear hK K
                              (try simp only [Act.put, List.setIfInBounds_toArray, List.set_cons_zero, List.set_cons_succ, List.getElem_toArray, List.getElem_cons_succ, List.getElem_cons_zero])
                              refine wpAnyH_ready (rs := [9]) (by kernel_rfl) (by simp) ?_
                              refine AllReadyH.cons rfl (fun K hK => ?_) AllReadyH.nil
                              · go_simp
                                go_at_call 55
                                refine (pick_any B (M + 4) 3 _ HS57_.out.dk.cur (by omega) (by omega) (by omega)).mono ?_
                                rintro e W58 ⟨p, rfl, hp0, hp1, hc, hg⟩
                                have hwp : IntKind.i64.wrap (1 + p) = 1 + p := Go.IntWalk.i64_in _ (by omega)
                                have HS58_ := Lib.hid (HS57_.out.step hlt hwF hBlo hc hg)
                                have HT58_ : Hid (w4.heap.size ≤ W58.heap.size) := Lib.hid (Nat.le_trans HT57_.out hg.size)
                                have HG58_ : Hid (BxV W58 W39.heap.size [.int .i64 0, .int .i64 0, .int .i64 0, .int .i64 0]) := Lib.hid (HG57_.out.grown hg (by have := HGT.out; have := HB4.out; simp; omega))
                                clear hc hg HS57_ HT57_ HG57_
                                (try go_wp2_with fail)
                                refine hK.out _ _ ?_ (fun hHeld => ?_)
                                · exact HS58_.out.f1
                                · clear hK K
                                  (try simp only [Act.put, List.setIfInBounds_toArray, List.set_cons_zero, List.set_cons_succ, List.getElem_toArray, List.getElem_cons_succ, List.getElem_cons_zero])
                                  refine wpAnyH_take (i := 10) (v := ?_) rfl (by kernel_rfl) (by kernel_rfl) (by kernel_rfl) (fun _ _ _ h => h) (Or.inl ⟨by rfl, ?_⟩) (by assumption) ?_
                                  rotate_left
                                  · (intro w hSw; (try dsimp only at hSw); go_simp; first | done | with_reducible rfl)
                                  (try simp only [Act.put, List.setIfInBounds_toArray, List.set_cons_zero, List.set_cons_succ, List.getElem_toArray, List.getElem_cons_succ, List.getElem_cons_zero])
                                  refine wpAnyH_take (i := 11) (v := ?_) rfl (by kernel_rfl) (by kernel_rfl) (by kernel_rfl) (fun _ _ _ h => h) (Or.inl ⟨by rfl, ?_⟩) (by assumption) ?_
                                  rotate_left
                                  · (intro w hSw; (try dsimp only at hSw); go_simp; first | done | with_reducible rfl)
                                  (try simp only [Act.put, List.setIfInBounds_toArray, List.set_cons_zero, List.set_cons_succ, List.getElem_toArray, List.getElem_cons_succ, List.getElem_cons_zero])
                                  have q1 : w.heap.size ≤ W39.heap.size := by have := HGT.out; have := HB4.out; omega
                                  have q2 : F < W39.heap.size := by have := HGT.out; have := HB4.out; omega
                                  have q3 : g ≠ W39.heap.size := by have := HGT.out; have := HB4.out; omega
                                  have q4 : w4.heap.size ≤ W39.heap.size := HGT.out
                                  have z0 := HG58_.out.cell 0
                                  have z1 := HG58_.out.cell 1
                                  have z2 := HG58_.out.cell 2
                                  have z3 := HG58_.out.cell 3
                                  have y0 := HG58_.out.frozen 0
                                  have y1 := HG58_.out.frozen 1
                                  have y2 := HG58_.out.frozen 2
                                  have y3 := HG58_.out.frozen 3
                                  simp at z0 z1 z2 z3
                                  have HF9 := Lib.hid (SSt.put (G := W39.heap.size) (j := 3) (x := .int .i64 (1 + p)) (SSt.put (G := W39.heap.size) (j := 2) (x := .int .i64 dy) (SSt.put (G := W39.heap.size) (j := 1) (x := .int .i64 ev) (SSt.put (G := W39.heap.size) (j := 0) (x := .int .i64 x1) HS58_.out q1 hlt q2 q3 q4) q1 hlt q2 q3 q4) q1 hlt q2 q3 q4) q1 hlt q2 q3 q4)
                                  have HB9 := Lib.hid (BxV.set (cs' := [.int .i64 x1, .int .i64 ev, .int .i64 dy, .int .i64 (1 + p)]) 3 (.int .i64 (1 + p)) (BxV.set (cs' := [.int .i64 x1, .int .i64 ev, .int .i64 dy, .int .i64 0]) 2 (.int .i64 dy) (BxV.set (cs' := [.int .i64 x1, .int .i64 ev, .int .i64 0, .int .i64 0]) 1 (.int .i64 ev) (BxV.set (cs' := [.int .i64 x1, .int .i64 0, .int .i64 0, .int .i64 0]) 0 (.int .i64 x1) HG58_.out rfl) rfl) rfl) rfl)
                                  refine wpAnyH_ready (rs := [13]) (by kernel_rfl) (by simp) ?_
                                  refine AllReadyH.cons rfl (fun K hK => ?_) AllReadyH.nil
                                  go_simp
                                  refine hK.out _ _ ?_ (fun hHeld => ?_)
                                  · exact HF9.out.f1
                                  · clear hK K
                                    (try simp only [Act.put, List.setIfInBounds_toArray, List.set_cons_zero, List.set_cons_succ, List.getElem_toArray, List.getElem_cons_succ, List.getElem_cons_zero])
                                    refine wpAnyH_done (by kernel_rfl) ?_ _
                                    (try go_wp2_with fail)
                                    go_meet
                                    exact ⟨_, ev, dy, p, rfl, bev, bdy, ⟨hp0, hp1⟩, q2, q4, HF9, HB9⟩
          · go_simp
            refine hK.out _ _ ?_ (fun hHeld => ?_)
            · exact (HS0_.out.al _).f1
            · clear hK K hHeld
              (try simp only [Act.put, List.setIfInBounds_toArray, List.set_cons_zero, List.set_cons_succ, List.getElem_toArray, List.getElem_cons_succ, List.getElem_cons_zero])
              refine gen_al (W := W0) ?_
              intro W59 hWn
              have HS59_ := Lib.hid (by rw [hWn]; exact HS0_.out.al _ : SSt w W59 B (M + 0) F lo hi x0 x1 x2 g c xs u5 t w4.heap.size)
              have HT59_ : Hid (w4.heap.size ≤ W59.heap.size) := Lib.hid (by rw [hWn]; exact Nat.le_trans HT0_.out (by simp))
              have HG59_ : Hid (BxV W59 W0.heap.size [.int .i64 0, .int .i64 0, .int .i64 0, .int .i64 0]) := Lib.hid (by rw [hWn]; exact BxV.new W0 _ _)
              have HGT : Hid (w4.heap.size ≤ W0.heap.size) := HT0_
              have hHeld : (fun w' : World => w'.cell? ⟨F, 1, none⟩ = some (.int .i64 x1)) W59 := HS59_.out.f1
              clear hWn HS0_ HT0_
              refine wpAnyH_ready (rs := [3, 6]) (by kernel_rfl) (by simp) ?_
              refine AllReadyH.cons rfl (fun K hK => ?_) (AllReadyH.cons rfl (fun K hK => ?_) AllReadyH.nil)
              · go_simp
                refine hK.out _ _ ?_ (fun hHeld => ?_)
                · exact (HS59_.out.al _).f1
                · clear hK K hHeld
                  (try simp only [Act.put, List.setIfInBounds_toArray, List.set_cons_zero, List.set_cons_succ, List.getElem_toArray, List.getElem_cons_succ, List.getElem_cons_zero])
                  refine gen_al (W := W59) ?_
                  intro W60 hWn
                  have HS60_ := Lib.hid (by rw [hWn]; exact HS59_.out.al _ : SSt w W60 B (M + 0) F lo hi x0 x1 x2 g c xs u5 t w4.heap.size)
                  have HT60_ : Hid (w4.heap.size ≤ W60.heap.size) := Lib.hid (by rw [hWn]; exact Nat.le_trans HT59_.out (by simp))
                  have HG60_ : Hid (BxV W60 W0.heap.size [.int .i64 0, .int .i64 0, .int .i64 0, .int .i64 0]) := Lib.hid (by rw [hWn]; exact HG59_.out.al _)
                  have HL60_3 : Hid (NL W60 W59.heap.size [0, 0, 1, 2, 3]) := Lib.hid (by rw [hWn]; exact new_nums W59 [0, 0, 1, 2, 3] 3 _ rfl)
                  have HN60_3 : Hid (W59.heap.size ≠ B) := Lib.hid (by have := HS59_.out.dk.cur.lt; omega)
                  have hHeld : (fun w' : World => w'.cell? ⟨F, 1, none⟩ = some (.int .i64 x1)) W60 := HS60_.out.f1
                  clear hWn HS59_ HT59_ HG59_
                  refine wpAnyH_ready (rs := [4, 6]) (by kernel_rfl) (by simp) ?_
                  refine AllReadyH.cons rfl (fun K hK => ?_) (AllReadyH.cons rfl (fun K hK => ?_) AllReadyH.nil)
                  · go_simp
                    go_at_call 76
                    refine (amongZ_any B (M + 0) W59.heap.size 0 5 5 [0, 0, 1, 2, 3] _ HS60_.out.dk.cur (by omega) rfl (by omega) (by omega) HN60_3.out HL60_3.out).mono ?_
                    rintro e W61 ⟨ev, rfl, mev, hc, hg⟩
                    have bev : 0 ≤ ev ∧ ev ≤ 3 := by simp at mev; omega
                    clear mev
                    have HS61_ := Lib.hid (HS60_.out.step hlt hwF hBlo hc hg)
                    have HT61_ : Hid (w4.heap.size ≤ W61.heap.size) := Lib.hid (Nat.le_trans HT60_.out hg.size)
                    have HG61_ : Hid (BxV W61 W0.heap.size [.int .i64 0, .int .i64 0, .int .i64 0, .int .i64 0]) := Lib.hid (HG60_.out.grown hg (by have := HGT.out; have := HB4.out; simp; omega))
                    clear hc hg HS60_ HT60_ HL60_3 HG60_
                    (try go_wp2_with fail)
                    refine hK.out _ _ ?_ (fun hHeld => ?_)
                    · exact HS61_.out.f1
                    · clear hK K
                      (try simp only [Act.put, List.setIfInBounds_toArray, List.set_cons_zero, List.set_cons_succ, List.getElem_toArray, List.getElem_cons_succ, List.getElem_cons_zero])
                      refine wpAnyH_ready (rs := [6]) (by kernel_rfl) (by simp) ?_
                      refine AllReadyH.cons rfl (fun K hK => ?_) AllReadyH.nil
                      · go_simp
                        refine hK.out _ _ ?_ (fun hHeld => ?_)
                        · exact (HS61_.out.al _).f1
                        · clear hK K hHeld
                          (try simp only [Act.put, List.setIfInBounds_toArray, List.set_cons_zero, List.set_cons_succ, List.getElem_toArray, List.getElem_cons_succ, List.getElem_cons_zero])
                          refine gen_al (W := W61) ?_
                          intro W62 hWn
                          have HS62_ := Lib.hid (by rw [hWn]; exact HS61_.out.al _ : SSt w W62 B (M + 2) F lo hi x0 x1 x2 g c xs u5 t w4.heap.size)
                          have HT62_ : Hid (w4.heap.size ≤ W62.heap.size) := Lib.hid (by rw [hWn]; exact Nat.le_trans HT61_.out (by simp))
                          have HG62_ : Hid (BxV W62 W0.heap.size [.int .i64 0, .int .i64 0, .int .i64 0, .int .i64 0]) := Lib.hid (by rw [hWn]; exact HG61_.out.al _)
                          have HL62_6 : Hid (NL W62 W61.heap.size [0, 30, 365, 1000]) := Lib.hid (by rw [hWn]; exact new_nums W61 [0, 30, 365, 1000] 3 _ rfl)
                          have HN62_6 : Hid (W61.heap.size ≠ B) := Lib.hid (by have := HS61_.out.dk.cur.lt; omega)
                          have hHeld : (fun w' : World => w'.cell? ⟨F, 1, none⟩ = some (.int .i64 x1)) W62 := HS62_.out.f1
                          clear hWn HS61_ HT61_ HG61_
                          refine wpAnyH_ready (rs := [7]) (by kernel_rfl) (by simp) ?_
                          refine AllReadyH.cons rfl (fun K hK => ?_) AllReadyH.nil
                          · go_simp
                            go_at_call 76
                            refine (amongZ_any B (M + 2) W61.heap.size 0 4 4 [0, 30, 365, 1000] _ HS62_.out.dk.cur (by omega) rfl (by omega) (by omega) HN62_6.out HL62_6.out).mono ?_
                            rintro e W63 ⟨dy, rfl, mdy, hc, hg⟩
                            have bdy : 0 ≤ dy ∧ dy ≤ 1000 := by simp at mdy; omega
                            clear mdy
                            have HS63_ := Lib.hid (HS62_.out.step hlt hwF hBlo hc hg)
                            have HT63_ : Hid (w4.heap.size ≤ W63.heap.size) := Lib.hid (Nat.le_trans HT62_.out hg.size)
                            have HG63_ : Hid (BxV W63 W0.heap.size [.int .i64 0, .int .i64 0, .int .i64 0, .int .i64 0]) := Lib.hid (HG62_.out.grown hg (by have := HGT.out; have := HB4.out; simp; omega))
                            clear hc hg HS62_ HT62_ HL62_6 HG62_
                            (try go_wp2_with fail)
                            refine hK.out _ _ ?_ (fun hHeld => ?_)
                            · exact HS63_.out.f1
                            · clear hK K
                              (try simp only [Act.put, List.setIfInBounds_toArray, List.set_cons_zero, List.set_cons_succ, List.getElem_toArray, List.getElem_cons_succ, List.getElem_cons_zero])
                              refine wpAnyH_ready (rs := [9]) (by kernel_rfl) (by simp) ?_
                              refine AllReadyH.cons rfl (fun K hK => ?_) AllReadyH.nil
                              · go_simp
                                go_at_call 55
                                refine (pick_any B (M + 4) 3 _ HS63_.out.dk.cur (by omega) (by omega) (by omega)).mono ?_
                                rintro e W64 ⟨p, rfl, hp0, hp1, hc, hg⟩
                                have hwp : IntKind.i64.wrap (1 + p) = 1 + p := Go.IntWalk.i64_in _ (by omega)
                                have HS64_ := Lib.hid (HS63_.out.step hlt hwF hBlo hc hg)
                                have HT64_ : Hid (w4.heap.size ≤ W64.heap.size) := Lib.hid (Nat.le_trans HT63_.out hg.size)
                                have HG64_ : Hid (BxV W64 W0.heap.size [.int .i64 0, .int .i64 0, .int .i64 0, .int .i64 0]) := Lib.hid (HG63_.out.grown hg (by have := HGT.out; have := HB4.out; simp; omega))
                                clear hc hg HS63_ HT63_ HG63_
                                (try go_wp2_with fail)
                                refine hK.out _ _ ?_ (fun hHeld => ?_)
                                · exact HS64_.out.f1
                                · clear hK K
                                  (try simp only [Act.put, List.setIfInBounds_toArray, List.set_cons_zero, List.set_cons_succ, List.getElem_toArray, List.getElem_cons_succ, List.getElem_cons_zero])
                                  refine wpAnyH_take (i := 10) (v := ?_) rfl (by kernel_rfl) (by kernel_rfl) (by kernel_rfl) (fun _ _ _ h => h) (Or.inl ⟨by rfl, ?_⟩) (by assumption) ?_
                                  rotate_left
                                  · (intro w hSw; (try dsimp only at hSw); go_simp; first | done | with_reducible rfl)
                                  (try simp only [Act.put, List.setIfInBounds_toArray, List.set_cons_zero, List.set_cons_succ, List.getElem_toArray, List.getElem_cons_succ, List.getElem_cons_zero])
                                  refine wpAnyH_take (i := 11) (v := ?_) rfl (by kernel_rfl) (by kernel_rfl) (by kernel_rfl) (fun _ _ _ h => h) (Or.inl ⟨by rfl, ?_⟩) (by assumption) ?_
                                  rotate_left
                                  · (intro w hSw; (try dsimp only at hSw); go_simp; first | done | with_reducible rfl)
                                  (try simp only [Act.put, List.setIfInBounds_toArray, List.set_cons_zero, List.set_cons_succ, List.getElem_toArray, List.getElem_cons_succ, List.getElem_cons_zero])
                                  have q1 : w.heap.size ≤ W0.heap.size := by have := HGT.out; have := HB4.out; omega
                                  have q2 : F < W0.heap.size := by have := HGT.out; have := HB4.out; omega
                                  have q3 : g ≠ W0.heap.size := by have := HGT.out; have := HB4.out; omega
                                  have q4 : w4.heap.size ≤ W0.heap.size := HGT.out
                                  have z0 := HG64_.out.cell 0
                                  have z1 := HG64_.out.cell 1
                                  have z2 := HG64_.out.cell 2
                                  have z3 := HG64_.out.cell 3
                                  have y0 := HG64_.out.frozen 0
                                  have y1 := HG64_.out.frozen 1
                                  have y2 := HG64_.out.frozen 2
                                  have y3 := HG64_.out.frozen 3
                                  simp at z0 z1 z2 z3
                                  have HF9 := Lib.hid (SSt.put (G := W0.heap.size) (j := 3) (x := .int .i64 (1 + p)) (SSt.put (G := W0.heap.size) (j := 2) (x := .int .i64 dy) (SSt.put (G := W0.heap.size) (j := 1) (x := .int .i64 ev) (SSt.put (G := W0.heap.size) (j := 0) (x := .int .i64 x1) HS64_.out q1 hlt q2 q3 q4) q1 hlt q2 q3 q4) q1 hlt q2 q3 q4) q1 hlt q2 q3 q4)
                                  have HB9 := Lib.hid (BxV.set (cs' := [.int .i64 x1, .int .i64 ev, .int .i64 dy, .int .i64 (1 + p)]) 3 (.int .i64 (1 + p)) (BxV.set (cs' := [.int .i64 x1, .int .i64 ev, .int .i64 dy, .int .i64 0]) 2 (.int .i64 dy) (BxV.set (cs' := [.int .i64 x1, .int .i64 ev, .int .i64 0, .int .i64 0]) 1 (.int .i64 ev) (BxV.set (cs' := [.int .i64 x1, .int .i64 0, .int .i64 0, .int .i64 0]) 0 (.int .i64 x1) HG64_.out rfl) rfl) rfl) rfl)
                                  refine wpAnyH_ready (rs := [13]) (by kernel_rfl) (by simp) ?_
                                  refine AllReadyH.cons rfl (fun K hK => ?_) AllReadyH.nil
                                  go_simp
                                  refine hK.out _ _ ?_ (fun hHeld => ?_)
                                  · exact HF9.out.f1
                                  · clear hK K
                                    (try simp only [Act.put, List.setIfInBounds_toArray, List.set_cons_zero, List.set_cons_succ, List.getElem_toArray, List.getElem_cons_succ, List.getElem_cons_zero])
                                    refine wpAnyH_done (by kernel_rfl) ?_ _
                                    (try go_wp2_with fail)
                                    go_meet
                                    exact ⟨_, ev, dy, p, rfl, bev, bdy, ⟨hp0, hp1⟩, q2, q4, HF9, HB9⟩
                  · go_simp
                    refine hK.out _ _ ?_ (fun hHeld => ?_)
                    · exact (HS60_.out.al _).f1
                    · clear hK K hHeld
                      (try simp only [Act.put, List.setIfInBounds_toArray, List.set_cons_zero, List.set_cons_succ, List.getElem_toArray, List.getElem_cons_succ, List.getElem_cons_zero])
                      refine gen_al (W := W60) ?_
                      intro W65 hWn
                      have HS65_ := Lib.hid (by rw [hWn]; exact HS60_.out.al _ : SSt w W65 B (M + 0) F lo hi x0 x1 x2 g c xs u5 t w4.heap.size)
                      have HT65_ : Hid (w4.heap.size ≤ W65.heap.size) := Lib.hid (by rw [hWn]; exact Nat.le_trans HT60_.out (by simp))
                      have HL65_3 : Hid (NL W65 W59.heap.size [0, 0, 1, 2, 3]) := Lib.hid (by rw [hWn]; exact HL60_3.out.al _)
                      have HG65_ : Hid (BxV W65 W0.heap.size [.int .i64 0, .int .i64 0, .int .i64 0, .int .i64 0]) := Lib.hid (by rw [hWn]; exact HG60_.out.al _)
                      have HL65_6 : Hid (NL W65 W60.heap.size [0, 30, 365, 1000]) := Lib.hid (by rw [hWn]; exact new_nums W60 [0, 30, 365, 1000] 3 _ rfl)
                      have HN65_6 : Hid (W60.heap.size ≠ B) := Lib.hid (by have := HS60_.out.dk.cur.lt; omega)
                      have hHeld : (fun w' : World => w'.cell? ⟨F, 1, none⟩ = some (.int .i64 x1)) W65 := HS65_.out.f1
                      clear hWn HS60_ HT60_ HL60_3 HG60_
                      refine wpAnyH_ready (rs := [4]) (by kernel_rfl) (by simp) ?_
                      refine AllReadyH.cons rfl (fun K hK => ?_) AllReadyH.nil
                      · go_simp
                        go_at_call 76
                        refine (amongZ_any B (M + 0) W59.heap.size 0 5 5 [0, 0, 1, 2, 3] _ HS65_.out.dk.cur (by omega) rfl (by omega) (by omega) HN60_3.out HL65_3.out).mono ?_
                        rintro e W66 ⟨ev, rfl, mev, hc, hg⟩
                        have bev : 0 ≤ ev ∧ ev ≤ 3 := by simp at mev; omega
                        clear mev
                        have HS66_ := Lib.hid (HS65_.out.step hlt hwF hBlo hc hg)
                        have HT66_ : Hid (w4.heap.size ≤ W66.heap.size) := Lib.hid (Nat.le_trans HT65_.out hg.size)
                        have HL66_6 : Hid (NL W66 W60.heap.size [0, 30, 365, 1000]) := Lib.hid (HL65_6.out.grown hg HN65_6.out)
                        have HG66_ : Hid (BxV W66 W0.heap.size [.int .i64 0, .int .i64 0, .int .i64 0, .int .i64 0]) := Lib.hid (HG65_.out.grown hg (by have := HGT.out; have := HB4.out; simp; omega))
                        clear hc hg HS65_ HT65_ HL65_3 HL65_6 HG65_
                        (try go_wp2_with fail)
                        refine hK.out _ _ ?_ (fun hHeld => ?_)
                        · exact HS66_.out.f1
                        · clear hK K
                          (try simp only [Act.put, List.setIfInBounds_toArray, List.set_cons_zero, List.set_cons_succ, List.getElem_toArray, List.getElem_cons_succ, List.getElem_cons_zero])
                          refine wpAnyH_ready (rs := [7]) (by kernel_rfl) (by simp) ?_
                          refine AllReadyH.cons rfl (fun K hK => ?_) AllReadyH.nil
                          · go_simp
                            go_at_call 76
                            refine (amongZ_any B (M + 2) W60.heap.size 0 4 4 [0, 30, 365, 1000] _ HS66_.out.dk.cur (by omega) rfl (by omega) (by omega) HN65_6.out HL66_6.out).mono ?_
                            rintro e W67 ⟨dy, rfl, mdy, hc, hg⟩
                            have bdy : 0 ≤ dy ∧ dy ≤ 1000 := by simp at mdy; omega
                            clear mdy
                            have HS67_ := Lib.hid (HS66_.out.step hlt hwF hBlo hc hg)
                            have HT67_ : Hid (w4.heap.size ≤ W67.heap.size) := Lib.hid (Nat.le_trans HT66_.out hg.size)
                            have HG67_ : Hid (BxV W67 W0.heap.size [.int .i64 0, .int .i64 0, .int .i64 0, .int .i64 0]) := Lib.hid (HG66_.out.grown hg (by have := HGT.out; have := HB4.out; simp; omega))
                            clear hc hg HS66_ HT66_ HL66_6 HG66_
                            (try go_wp2_with fail)
                            refine hK.out _ _ ?_ (fun hHeld => ?_)
                            · exact HS67_.out.f1
                            · clear hK K
                              (try simp only [Act.put, List.setIfInBounds_toArray, List.set_cons_zero, List.set_cons_succ, List.getElem_toArray, List.getElem_cons_succ, List.getElem_cons_zero])
                              refine wpAnyH_ready (rs := [9]) (by kernel_rfl) (by simp) ?_
                              refine AllReadyH.cons rfl (fun K hK => ?_) AllReadyH.nil
                              · go_simp
                                go_at_call 55
                                refine (pick_any B (M + 4) 3 _ HS67_.out.dk.cur (by omega) (by omega) (by omega)).mono ?_
                                rintro e W68 ⟨p, rfl, hp0, hp1, hc, hg⟩
                                have hwp : IntKind.i64.wrap (1 + p) = 1 + p := Go.IntWalk.i64_in _ (by omega)
                                have HS68_ := Lib.hid (HS67_.out.step hlt hwF hBlo hc hg)
                                have HT68_ : Hid (w4.heap.size ≤ W68.heap.size) := Lib.hid (Nat.le_trans HT67_.out hg.size)
                                have HG68_ : Hid (BxV W68 W0.heap.size [.int .i64 0, .int .i64 0, .int .i64 0, .int .i64 0]) := Lib.hid (HG67_.out.grown hg (by have := HGT.out; have := HB4.out; simp; omega))
                                clear hc hg HS67_ HT67_ HG67_
                                (try go_wp2_with fail)
                                refine hK.out _ _ ?_ (fun hHeld => ?_)
                                · exact HS68_.out.f1
                                · clear hK K
                                  (try simp only [Act.put, List.setIfInBounds_toArray, List.set_cons_zero, List.set_cons_succ, List.getElem_toArray, List.getElem_cons_succ, List.getElem_cons_zero])
                                  refine wpAnyH_take (i := 10) (v := ?_) rfl (by kernel_rfl) (by kernel_rfl) (by kernel_rfl) (fun _ _ _ h => h) (Or.inl ⟨by rfl, ?_⟩) (by assumption) ?_
                                  rotate_left
                                  · (intro w hSw; (try dsimp only at hSw); go_simp; first | done | with_reducible rfl)
                                  (try simp only [Act.put, List.setIfInBounds_toArray, List.set_cons_zero, List.set_cons_succ, List.getElem_toArray, List.getElem_cons_succ, List.getElem_cons_zero])
                                  refine wpAnyH_take (i := 11) (v := ?_) rfl (by kernel_rfl) (by kernel_rfl) (by kernel_rfl) (fun _ _ _ h => h) (Or.inl ⟨by rfl, ?_⟩) (by assumption) ?_
                                  rotate_left
                                  · (intro w hSw; (try dsimp only at hSw); go_simp; first | done | with_reducible rfl)
                                  (try simp only [Act.put, List.setIfInBounds_toArray, List.set_cons_zero, List.set_cons_succ, List.getElem_toArray, List.getElem_cons_succ, List.getElem_cons_zero])
                                  have q1 : w.heap.size ≤ W0.heap.size := by have := HGT.out; have := HB4.out; omega
                                  have q2 : F < W0.heap.size := by have := HGT.out; have := HB4.out; omega
                                  have q3 : g ≠ W0.heap.size := by have := HGT.out; have := HB4.out; omega
                                  have q4 : w4.heap.size ≤ W0.heap.size := HGT.out
                                  have z0 := HG68_.out.cell 0
                                  have z1 := HG68_.out.cell 1
                                  have z2 := HG68_.out.cell 2
                                  have z3 := HG68_.out.cell 3
                                  have y0 := HG68_.out.frozen 0
                                  have y1 := HG68_.out.frozen 1
                                  have y2 := HG68_.out.frozen 2
                                  have y3 := HG68_.out.frozen 3
                                  simp at z0 z1 z2 z3
                                  have HF9 := Lib.hid (SSt.put (G := W0.heap.size) (j := 3) (x := .int .i64 (1 + p)) (SSt.put (G := W0.heap.size) (j := 2) (x := .int .i64 dy) (SSt.put (G := W0.heap.size) (j := 1) (x := .int .i64 ev) (SSt.put (G := W0.heap.size) (j := 0) (x := .int .i64 x1) HS68_.out q1 hlt q2 q3 q4) q1 hlt q2 q3 q4) q1 hlt q2 q3 q4) q1 hlt q2 q3 q4)
                                  have HB9 := Lib.hid (BxV.set (cs' := [.int .i64 x1, .int .i64 ev, .int .i64 dy, .int .i64 (1 + p)]) 3 (.int .i64 (1 + p)) (BxV.set (cs' := [.int .i64 x1, .int .i64 ev, .int .i64 dy, .int .i64 0]) 2 (.int .i64 dy) (BxV.set (cs' := [.int .i64 x1, .int .i64 ev, .int .i64 0, .int .i64 0]) 1 (.int .i64 ev) (BxV.set (cs' := [.int .i64 x1, .int .i64 0, .int .i64 0, .int .i64 0]) 0 (.int .i64 x1) HG68_.out rfl) rfl) rfl) rfl)
                                  refine wpAnyH_ready (rs := [13]) (by kernel_rfl) (by simp) ?_
                                  refine AllReadyH.cons rfl (fun K hK => ?_) AllReadyH.nil
                                  go_simp
                                  refine hK.out _ _ ?_ (fun hHeld => ?_)
                                  · exact HF9.out.f1
                                  · clear hK K
                                    (try simp only [Act.put, List.setIfInBounds_toArray, List.set_cons_zero, List.set_cons_succ, List.getElem_toArray, List.getElem_cons_succ, List.getElem_cons_zero])
                                    refine wpAnyH_done (by kernel_rfl) ?_ _
                                    (try go_wp2_with fail)
                                    go_meet
                                    exact ⟨_, ev, dy, p, rfl, bev, bdy, ⟨hp0, hp1⟩, q2, q4, HF9, HB9⟩
              · go_simp
                refine hK.out _ _ ?_ (fun hHeld => ?_)
                · exact (HS59_.out.al _).f1
                · clear hK K hHeld
                  (try simp only [Act.put, List.setIfInBounds_toArray, List.set_cons_zero, List.set_cons_succ, List.getElem_toArray, List.getElem_cons_succ, List.getElem_cons_zero])
                  refine gen_al (W := W59) ?_
                  intro W69 hWn
                  have HS69_ := Lib.hid (by rw [hWn]; exact HS59_.out.al _ : SSt w W69 B (M + 0) F lo hi x0 x1 x2 g c xs u5 t w4.heap.size)
                  have HT69_ : Hid (w4.heap.size ≤ W69.heap.size) := Lib.hid (by rw [hWn]; exact Nat.le_trans HT59_.out (by simp))
                  have HG69_ : Hid (BxV W69 W0.heap.size [.int .i64 0, .int .i64 0, .int .i64 0, .int .i64 0]) := Lib.hid (by rw [hWn]; exact HG59_.out.al _)
                  have HL69_6 : Hid (NL W69 W59.heap.size [0, 30, 365, 1000]) := Lib.hid (by rw [hWn]; exact new_nums W59 [0, 30, 365, 1000] 3 _ rfl)
                  have HN69_6 : Hid (W59.heap.size ≠ B) := Lib.hid (by have := HS59_.out.dk.cur.lt; omega)
                  have hHeld : (fun w' : World => w'.cell? ⟨F, 1, none⟩ = some (.int .i64 x1)) W69 := HS69_.out.f1
                  clear hWn HS59_ HT59_ HG59_
                  refine wpAnyH_ready (rs := [3]) (by kernel_rfl) (by simp) ?_
                  refine AllReadyH.cons rfl (fun K hK => ?_) AllReadyH.nil
                  · go_simp
                    refine hK.out _ _ ?_ (fun hHeld => ?_)
                    · exact (HS69_.out.al _).f1
                    · clear hK K hHeld
                      (try simp only [Act.put, List.setIfInBounds_toArray, List.set_cons_zero, List.set_cons_succ, List.getElem_toArray, List.getElem_cons_succ, List.getElem_cons_zero])
                      refine gen_al (W := W69) ?_
                      intro W70 hWn
                      have HS70_ := Lib.hid (by rw [hWn]; exact HS69_.out.al _ : SSt w W70 B (M + 0) F lo hi x0 x1 x2 g c xs u5 t w4.heap.size)
                      have HT70_ : Hid (w4.heap.size ≤ W70.heap.size) := Lib.hid (by rw [hWn]; exact Nat.le_trans HT69_.out (by simp))
                      have HL70_6 : Hid (NL W70 W59.heap.size [0, 30, 365, 1000]) := Lib.hid (by rw [hWn]; exact HL69_6.out.al _)
                      have HG70_ : Hid (BxV W70 W0.heap.size [.int .i64 0, .int .i64 0, .int .i64 0, .int .i64 0]) := Lib.hid (by rw [hWn]; exact HG69_.out.al _)
                      have HL70_3 : Hid (NL W70 W69.heap.size [0, 0, 1, 2, 3]) := Lib.hid (by rw [hWn]; exact new_nums W69 [0, 0, 1, 2, 3] 3 _ rfl)
                      have HN70_3 : Hid (W69.heap.size ≠ B) := Lib.hid (by have := HS69_.out.dk.cur.lt; omega)
                      have hHeld : (fun w' : World => w'.cell? ⟨F, 1, none⟩ = some (.int .i64 x1)) W70 := HS70_.out.f1
                      clear hWn HS69_ HT69_ HL69_6 HG69_
                      refine wpAnyH_ready (rs := [4]) (by kernel_rfl) (by simp) ?_
                      refine AllReadyH.cons rfl (fun K hK => ?_) AllReadyH.nil
                      · go_simp
                        go_at_call 76
                        refine (amongZ_any B (M + 0) W69.heap.size 0 5 5 [0, 0, 1, 2, 3] _ HS70_.out.dk.cur (by omega) rfl (by omega) (by omega) HN70_3.out HL70_3.out).mono ?_
                        rintro e W71 ⟨ev, rfl, mev, hc, hg⟩
                        have bev : 0 ≤ ev ∧ ev ≤ 3 := by simp at mev; omega
                        clear mev
                        have HS71_ := Lib.hid (HS70_.out.step hlt hwF hBlo hc hg)
                        have HT71_ : Hid (w4.heap.size ≤ W71.heap.size) := Lib.hid (Nat.le_trans HT70_.out hg.size)
                        have HL71_6 : Hid (NL W71 W59.heap.size [0, 30, 365, 1000]) := Lib.hid (HL70_6.out.grown hg HN69_6.out)
                        have HG71_ : Hid (BxV W71 W0.heap.size [.int .i64 0, .int .i64 0, .int .i64 0, .int .i64 0]) := Lib.hid (HG70_.out.grown hg (by have := HGT.out; have := HB4.out; simp; omega))
                        clear hc hg HS70_ HT70_ HL70_3 HL70_6 HG70_
                        (try go_wp2_with fail)
                        refine hK.out _ _ ?_ (fun hHeld => ?_)
                        · exact HS71_.out.f1
                        · clear hK K
                          (try simp only [Act.put, List.setIfInBounds_toArray, List.set_cons_zero, List.set_cons_succ, List.getElem_toArray, List.getElem_cons_succ, List.getElem_cons_zero])
                          refine wpAnyH_ready (rs := [7]) (by kernel_rfl) (by simp) ?_
                          refine AllReadyH.cons rfl (fun K hK => ?_) AllReadyH.nil
                          · go_simp
                            go_at_call 76
                            refine (amongZ_any B (M + 2) W59.heap.size 0 4 4 [0, 30, 365, 1000] _ HS71_.out.dk.cur (by omega) rfl (by omega) (by omega) HN69_6.out HL71_6.out).mono ?_
                            rintro e W72 ⟨dy, rfl, mdy, hc, hg⟩
                            have bdy : 0 ≤ dy ∧ dy ≤ 1000 := by simp at mdy; omega
                            clear mdy
                            have HS72_ := Lib.hid (HS71_.out.step hlt hwF hBlo hc hg)
                            have HT72_ : Hid (w4.heap.size ≤ W72.heap.size) := Lib.hid (Nat.le_trans HT71_.out hg.size)
                            have HG72_ : Hid (BxV W72 W0.heap.size [.int .i64 0, .int .i64 0, .int .i64 0, .int .i64 0]) := Lib.hid (HG71_.out.grown hg (by have := HGT.out; have := HB4.out; simp; omega))
                            clear hc hg HS71_ HT71_ HL71_6 HG71_
                            (try go_wp2_with fail)
                            refine hK.out _ _ ?_ (fun hHeld => ?_)
                            · exact HS72_.out.f1
                            · clear hK K
                              (try simp only [Act.put, List.setIfInBounds_toArray, List.set_cons_zero, List.set_cons_succ, List.getElem_toArray, List.getElem_cons_succ, List.getElem_cons_zero])
                              refine wpAnyH_ready (rs := [9]) (by kernel_rfl) (by simp) ?_
                              refine AllReadyH.cons rfl (fun K hK => ?_) AllReadyH.nil
                              · go_simp
                                go_at_call 55
                                refine (pick_any B (M + 4) 3 _ HS72_.out.dk.cur (by omega) (by omega) (by omega)).mono ?_
                                rintro e W73 ⟨p, rfl, hp0, hp1, hc, hg⟩
                                have hwp : IntKind.i64.wrap (1 + p) = 1 + p := Go.IntWalk.i64_in _ (by omega)
                                have HS73_ := Lib.hid (HS72_.out.step hlt hwF hBlo hc hg)
                                have HT73_ : Hid (w4.heap.size ≤ W73.heap.size) := Lib.hid (Nat.le_trans HT72_.out hg.size)
                                have HG73_ : Hid (BxV W73 W0.heap.size [.int .i64 0, .int .i64 0, .int .i64 0, .int .i64 0]) := Lib.hid (HG72_.out.grown hg (by have := HGT.out; have := HB4.out; simp; omega))
                                clear hc hg HS72_ HT72_ HG72_
                                (try go_wp2_with fail)
                                refine hK.out _ _ ?_ (fun hHeld => ?_)
                                · exact HS73_.out.f1
                                · clear hK K
                                  (try simp only [Act.put, List.setIfInBounds_toArray, List.set_cons_zero, List.set_cons_succ, List.getElem_toArray, List.getElem_cons_succ, List.getElem_cons_zero])
                                  refine wpAnyH_take (i := 10) (v := ?_) rfl (by kernel_rfl) (by kernel_rfl) (by kernel_rfl) (fun _ _ _ h => h) (Or.inl ⟨by rfl, ?_⟩) (by assumption) ?_
                                  rotate_left
                                  · (intro w hSw; (try dsimp only at hSw); go_simp; first | done | with_reducible rfl)
                                  (try simp only [Act.put, List.setIfInBounds_toArray, List.set_cons_zero, List.set_cons_succ, List.getElem_toArray, List.getElem_cons_succ, List.getElem_cons_zero])
                                  refine wpAnyH_take (i := 11) (v := ?_) rfl (by kernel_rfl) (by kernel_rfl) (by kernel_rfl) (fun _ _ _ h => h) (Or.inl ⟨by rfl, ?_⟩) (by assumption) ?_
                                  rotate_left
                                  · (intro w hSw; (try dsimp only at hSw); go_simp; first | done | with_reducible rfl)
                                  (try simp only [Act.put, List.setIfInBounds_toArray, List.set_cons_zero, List.set_cons_succ, List.getElem_toArray, List.getElem_cons_succ, List.getElem_cons_zero])
                                  have q1 : w.heap.size ≤ W0.heap.size := by have := HGT.out; have := HB4.out; omega
                                  have q2 : F < W0.heap.size := by have := HGT.out; have := HB4.out; omega
                                  have q3 : g ≠ W0.heap.size := by have := HGT.out; have := HB4.out; omega
                                  have q4 : w4.heap.size ≤ W0.heap.size := HGT.out
                                  have z0 := HG73_.out.cell 0
                                  have z1 := HG73_.out.cell 1
                                  have z2 := HG73_.out.cell 2
                                  have z3 := HG73_.out.cell 3
                                  have y0 := HG73_.out.frozen 0
                                  have y1 := HG73_.out.frozen 1
                                  have y2 := HG73_.out.frozen 2
                                  have y3 := HG73_.out.frozen 3
                                  simp at z0 z1 z2 z3
                                  have HF9 := Lib.hid (SSt.put (G := W0.heap.size) (j := 3) (x := .int .i64 (1 + p)) (SSt.put (G := W0.heap.size) (j := 2) (x := .int .i64 dy) (SSt.put (G := W0.heap.size) (j := 1) (x := .int .i64 ev) (SSt.put (G := W0.heap.size) (j := 0) (x := .int .i64 x1) HS73_.out q1 hlt q2 q3 q4) q1 hlt q2 q3 q4) q1 hlt q2 q3 q4) q1 hlt q2 q3 q4)
                                  have HB9 := Lib.hid (BxV.set (cs' := [.int .i64 x1, .int .i64 ev, .int .i64 dy, .int .i64 (1 + p)]) 3 (.int .i64 (1 + p)) (BxV.set (cs' := [.int .i64 x1, .int .i64 ev, .int .i64 dy, .int .i64 0]) 2 (.int .i64 dy) (BxV.set (cs' := [.int .i64 x1, .int .i64 ev, .int .i64 0, .int .i64 0]) 1 (.int .i64 ev) (BxV.set (cs' := [.int .i64 x1, .int .i64 0, .int .i64 0, .int .i64 0]) 0 (.int .i64 x1) HG73_.out rfl) rfl) rfl) rfl)
                                  refine wpAnyH_ready (rs := [13]) (by kernel_rfl) (by simp) ?_
                                  refine AllReadyH.cons rfl (fun K hK => ?_) AllReadyH.nil
                                  go_simp
                                  refine hK.out _ _ ?_ (fun hHeld => ?_)
                                  · exact HF9.out.f1
                                  · clear hK K
                                    (try simp only [Act.put, List.setIfInBounds_toArray, List.set_cons_zero, List.set_cons_succ, List.getElem_toArray, List.getElem_cons_succ, List.getElem_cons_zero])
                                    refine wpAnyH_done (by kernel_rfl) ?_ _
                                    (try go_wp2_with fail)
                                    go_meet
                                    exact ⟨_, ev, dy, p, rfl, bev, bdy, ⟨hp0, hp1⟩, q2, q4, HF9, HB9⟩
        case rest =>
          obtain ⟨G, ev, dy, p, rfl, bev, bdy, ⟨hp0, hp1⟩, hFG, hGT, HS5, HG5⟩ := hcut
          have HT : Hid (w4.heap.size ≤ G) := Lib.hid hGT
          have HBF4 : Hid (B < w4.heap.size ∧ F < w4.heap.size ∧ w.heap.size ≤ w4.heap.size) := Lib.hid ⟨HS4.out.dk.cur.lt, HS4.out.box.lt, HS4.out.dk.sz⟩
          clear hGT HS4
          obtain ⟨W5, hW5⟩ : ∃ x, x = wc := ⟨_, rfl⟩
          subst hW5
          have f3 := HS5.out.box.cell 3
          simp at f3
          by_cases hx : xs.length = 0
          · have hx2 : ¬ (0 : Int) < (xs.length : Int) := by omega
            have hx3 : decide ((0 : Int) < (xs.length : Int)) = false := decide_eq_false hx2
            clear hx
            have g0 := HG5.out.cell 0
            have g1 := HG5.out.cell 1
            have g2 := HG5.out.cell 2
            have g3 := HG5.out.cell 3
            simp at g0 g1 g2 g3
            obtain ⟨ys, b9, hres⟩ : ∃ ys b, putRes t ⟨x1, ev, dy, 1 + p⟩ = (ys, b) := ⟨_, _, rfl⟩
            have HRES := Lib.hid hres
            clear hres
            go_wp2_with fail
            refine (specPutRule_any _ t ⟨x1, ev, dy, 1 + p⟩ _ HS5.out.rus.row ⟨ix1, by show inI ev; unfold inI; omega, by show inI dy; unfold inI; omega, by show inI (1 + p); unfold inI; omega⟩ (by omega) ys b9 HRES.out).mono ?_
            rintro e w9 ⟨v9, rfl, ho9, b9_⟩
            have hu9 := HS5.out.dk.sz
            have HS9 := Lib.hid (HS5.out.below b9_)
            have HX9 := Lib.hid (ho9.wide hu9 (Nat.le_refl _))
            have hsz9 := b9_.size
            have hl9 := HG5.out.lt
            (try simp at hl9)
            (try simp at hsz9)
            clear ho9 b9_ HS5 HG5 g0 g1 g2 g3
            cases b9
            · go_wp2_with fail
              go_roundw
              case rel => exact ⟨k - 1, t, by omega, rfl, htl, Lib.hid (HS9.out.le (by have := HM.out; omega) (by have := HT.out; omega))⟩
              case measure => simp [intOf]; omega
            · have hyl := put_eight HRES.out
              go_wp2_with fail
              go_roundw
              case rel => exact ⟨k - 1, ys, by omega, rfl, by omega, Lib.hid ((HS9.out.lst HX9.out).le (by have := HM.out; omega) (Nat.le_refl _))⟩
              case measure => simp [intOf]; omega
          · have hx2 : (0 : Int) < (xs.length : Int) := by omega
            have hx3 : decide ((0 : Int) < (xs.length : Int)) = true := decide_eq_true hx2
            go_wp2_with fail
            refine (one_any B (M + 6) 2 _ HS5.out.dk.cur (by omega) (by omega) (by omega)).mono ?_
            rintro e w6 ⟨bb, rfl, hc, hg⟩
            have HS6 := Lib.hid (HS5.out.step hlt hwF hBlo hc hg)
            have HG6 := Lib.hid (HG5.out.grown hg (by simp; omega))
            clear hc hg HS5 HG5 f3
            cases bb
            · have g0 := HG6.out.cell 0
              have g1 := HG6.out.cell 1
              have g2 := HG6.out.cell 2
              have g3 := HG6.out.cell 3
              simp at g0 g1 g2 g3
              obtain ⟨ys, b9, hres⟩ : ∃ ys b, putRes t ⟨x1, ev, dy, 1 + p⟩ = (ys, b) := ⟨_, _, rfl⟩
              have HRES := Lib.hid hres
              clear hres
              go_wp2_with fail
              refine (specPutRule_any _ t ⟨x1, ev, dy, 1 + p⟩ _ HS6.out.rus.row ⟨ix1, by show inI ev; unfold inI; omega, by show inI dy; unfold inI; omega, by show inI (1 + p); unfold inI; omega⟩ (by omega) ys b9 HRES.out).mono ?_
              rintro e w9 ⟨v9, rfl, ho9, b9_⟩
              have hu9 := HS6.out.dk.sz
              have HS9 := Lib.hid (HS6.out.below b9_)
              have HX9 := Lib.hid (ho9.wide hu9 (Nat.le_refl _))
              have hsz9 := b9_.size
              have hl9 := HG6.out.lt
              (try simp at hl9)
              (try simp at hsz9)
              clear ho9 b9_ HS6 HG6 g0 g1 g2 g3
              cases b9
              · go_wp2_with fail
                go_roundw
                case rel => exact ⟨k - 1, t, by omega, rfl, htl, Lib.hid (HS9.out.le (by have := HM.out; omega) (by have := HT.out; omega))⟩
                case measure => simp [intOf]; omega
              · have hyl := put_eight HRES.out
                go_wp2_with fail
                go_roundw
                case rel => exact ⟨k - 1, ys, by omega, rfl, by omega, Lib.hid ((HS9.out.lst HX9.out).le (by have := HM.out; omega) (Nat.le_refl _))⟩
                case measure => simp [intOf]; omega
            · go_upto_region 7 with fail
              have f1 := HS6.out.box.cell 3
              simp at f1
              have e1 := HG6.out.cell 1
              have e1f := HG6.out.frozen 1
              simp at e1
              go_region_law (first | (go_simp; go_at_call 55; refine (pick_any B (M + 8) xs.length _ HS6.out.drew.dk.cur (by omega) (by omega) (by omega)).mono ?_; rintro e w7 ⟨i0, rfl, hi0, hi1, hc, hg⟩; obtain ⟨i, rfl⟩ := Int.eq_ofNat_of_zero_le hi0; have hil : i < xs.length := (by omega); have HS7 := Lib.hid (HS6.out.drew.step hlt hwF hBlo hc hg); have HG7 := Lib.hid (HG6.out.drew.grown hg (by simp; omega)); have f17 := HS7.out.box.cell 3; simp at f17; have e17 := HG7.out.cell 1; have e17f := HG7.out.frozen 1; simp at e17; have HEV : Hid (inI xs[i].kind) := Lib.hid (HS7.out.evs.2.1 _ (List.getElem_mem hil)).1; have ci := HS7.out.evs.1.cell i 0 (by simpa using hil) (by omega); simp [evC] at ci; clear hc hg))
              all_goals
                have HS8 := Lib.hid (HS7.out.put (G := G) (j := 1) (x := .int .i64 (xs[i].kind)) (by omega) hlt hFG (by omega) HT.out)
                have HG8 := Lib.hid (HG7.out.set (cs' := [.int .i64 x1, .int .i64 xs[i].kind, .int .i64 dy, .int .i64 (1 + p)]) 1 (.int .i64 xs[i].kind) rfl)
                clear HS7 HG7 e1 e1f f1 e17 e17f f17 ci HS6 HG6
                have g0 := HG8.out.cell 0
                have g1 := HG8.out.cell 1
                have g2 := HG8.out.cell 2
                have g3 := HG8.out.cell 3
                simp at g0 g1 g2 g3
                obtain ⟨ys, b9, hres⟩ : ∃ ys b, putRes t ⟨x1, xs[i].kind, dy, 1 + p⟩ = (ys, b) := ⟨_, _, rfl⟩
                have HRES := Lib.hid hres
                clear hres
                go_wp2_with fail
                refine (specPutRule_any _ t ⟨x1, xs[i].kind, dy, 1 + p⟩ _ HS8.out.rus.row ⟨ix1, HEV.out, by show inI dy; unfold inI; omega, by show inI (1 + p); unfold inI; omega⟩ (by omega) ys b9 HRES.out).mono ?_
                rintro e w9 ⟨v9, rfl, ho9, b9_⟩
                have hu9 := HS8.out.dk.sz
                have HS9 := Lib.hid (HS8.out.below b9_)
                have HX9 := Lib.hid (ho9.wide hu9 (Nat.le_refl _))
                have hsz9 := b9_.size
                have hl9 := HG8.out.lt
                (try simp at hl9)
                (try simp at hsz9)
                clear ho9 b9_ HS8 HG8 g0 g1 g2 g3
                cases b9
                · go_wp2_with fail
                  go_roundw
                  case rel => exact ⟨k - 1, t, by omega, rfl, htl, Lib.hid (HS9.out.le (by have := HM.out; omega) (by have := HT.out; omega))⟩
                  case measure => simp [intOf]; omega
                · have hyl := put_eight HRES.out
                  go_wp2_with fail
                  go_roundw
                  case rel => exact ⟨k - 1, ys, by omega, rfl, by omega, Lib.hid ((HS9.out.lst HX9.out).le (by have := HM.out; omega) (Nat.le_refl _))⟩
                  case measure => simp [intOf]; omega
    · obtain rfl : k = 0 := by omega
      go_wp2_with fail
      go_ret
      exact ⟨_, t, rfl, by omega, HS.out.rus, HS.out.dk.cur.le_K (by omega), HS.out.dk.gr⟩
end Go.Proofs.Ytdbomnhakikmfaa
