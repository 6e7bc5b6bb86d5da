/- The draw of a record. -/
import Derived.Test.YtenjajcknmfhfaaDrawRu
import Derived.Test.YtenjajcknmfhfaaAddX
import Derived.Test.YtenjajcknmfhfaaGen
import Derived.BigRegion
import Derived.Deep.RegionLawGrows
namespace Go.Proofs.Ytenjajcknmfhfaa
set_option linter.unusedVariables false
set_option linter.unusedSimpArgs false
open Go.RowKit Go.Sort

def RecordDrawn (w : World) (B K : Nat) (e : Ending) (w' : World) : Prop := ∃ (r : Rec) (g c : Nat), e = .returned (.agg #[.int .i64 r.id, .int .i64 r.series, .int .i64 r.made, .slice (some ⟨g, 0, none⟩) r.evs.length c]) ∧ r.ok ∧ (-1 ≤ r.made ∧ r.made ≤ 20001) ∧ r.evs.length ≤ 8 ∧
  EvsO w.heap.size w'.heap.size w' (.slice (some ⟨g, 0, none⟩) r.evs.length c) r.evs ∧ Cur w' B K ∧ w.grownBy w' (some B)
theorem EvsO.empty' {lo L : Nat} {w : World} (hL : w.heap.size = L) (h : lo ≤ L) : EvsO lo (w.alloc (.cells #[] 174 (0, 0))).heap.size (w.alloc (.cells #[] 174 (0, 0))) (.slice (some ⟨L, 0, none⟩) 0 0) [] := by
  subst hL
  have := World.ownsRow_made (base := lo) (e := 174) (size := 2) w #[] 0 h (Nat.zero_le _) rfl
  exact ⟨⟨by simpa using this, by simp⟩, by simp, fun g hg => by simp [Value.ownBlock] at hg; subst hg; simp⟩
theorem EvsO.ofRow {lo n : Nat} {w : World} {v : Value} {t : List Ev} (h : w.ownsRow lo 174 2 v n ((t.map evC).flatten)) (hn : n = t.length) (hok : ∀ f ∈ t, f.ok) : EvsO lo w.heap.size w v t :=
  ⟨⟨by rw [List.length_map, ← hn]; exact h, fun cs hc => by obtain ⟨x, _, rfl⟩ := List.mem_map.1 hc; rfl⟩, hok, fun g hg => (h.lt g hg).2⟩
theorem EvsO.ownR {lo hi : Nat} {w : World} {v : Value} {t : List Ev} (h : EvsO lo hi w v t) : w.ownsRow lo 174 2 v t.length ((t.map evC).flatten) := by
  have := h.1.1
  rwa [List.length_map] at this
theorem ev_snoc {lo n : Nat} {w : World} {v : Value} {t : List Ev} {a b : Int} (hown : w.ownsRow lo 174 2 v n ((t.map evC).flatten ++ [.int .i64 a, .int .i64 b])) (hn : n = t.length + 1) (hok : ∀ f ∈ t, f.ok) (ha : inI a) (hb : inI b) : EvsO lo w.heap.size w v (t ++ [⟨a, b⟩]) := by
  refine EvsO.ofRow (n := n) ?_ (by simp [hn]) (fun f hf => ?_)
  · have e : ((t ++ [(⟨a, b⟩ : Ev)]).map evC).flatten = ((t.map evC).flatten ++ [.int .i64 a, .int .i64 b] : List Value) := by
      rw [List.map_append, List.flatten_append]
      simp [evC]
    rw [e]; exact hown
  · rcases List.mem_append.1 hf with h | h
    · exact hok f h
    · rw [List.mem_singleton.1 h]; exact ⟨ha, hb⟩
/-- What the loops of a record's draw carry: the cursor, the result's box, the record's box, its events. -/
structure RSt (w wx : World) (B K R F : Nat) (x0 x1 x2 : Int) (g c : Nat) (xs : List Ev) : Prop where
  dk : Dk w wx B K
  res : BxV wx R [.int .i64 0, .int .i64 0, .int .i64 0, .slice none 0 0]
  box : BxV wx F [.int .i64 x0, .int .i64 x1, .int .i64 x2, .slice (some ⟨g, 0, none⟩) xs.length c]
  evs : EvsO w.heap.size wx.heap.size wx (.slice (some ⟨g, 0, none⟩) xs.length c) xs
  gF : g ≠ F
  gR : g ≠ R
theorem RSt.step {w wx w' : World} {B K K' R F : Nat} {x0 x1 x2 : Int} {g c : Nat} {xs : List Ev} (h : RSt w wx B K R F x0 x1 x2 g c xs) (hB : B < w.heap.size) (hR : w.heap.size ≤ R) (hF : w.heap.size ≤ F) (hc : Cur w' B K') (hg : wx.grownBy w' (some B)) : RSt w w' B K' R F x0 x1 x2 g c xs :=
  ⟨h.dk.step hc hg, h.res.grown hg (by simp; omega), h.box.grown hg (by simp; omega), (h.evs.grown hg hB).wide (Nat.le_refl _) hg.size, h.gF, h.gR⟩
theorem RSt.below {w wx w' : World} {B K R F : Nat} {x0 x1 x2 : Int} {g c : Nat} {xs : List Ev} (h : RSt w wx B K R F x0 x1 x2 g c xs) (hb : Below wx.heap.size wx w') : RSt w w' B K R F x0 x1 x2 g c xs :=
  ⟨h.dk.below hb, h.res.below hb, h.box.below hb, (h.evs.below hb).wide (Nat.le_refl _) hb.size, h.gF, h.gR⟩
theorem RSt.al {w wx : World} {B K R F : Nat} {x0 x1 x2 : Int} {g c : Nat} {xs : List Ev} (h : RSt w wx B K R F x0 x1 x2 g c xs) (o : Obj) : RSt w (wx.alloc o) B K R F x0 x1 x2 g c xs := h.below (below_al (Below.refl _ _) o)
theorem RSt.drew {w wx : World} {B K R F : Nat} {x0 x1 x2 : Int} {g c : Nat} {xs : List Ev} (h : RSt w wx B K R F x0 x1 x2 g c xs) : RSt w wx.drew B K R F x0 x1 x2 g c xs := h.below (Below.refl _ _).drew
theorem RSt.le {w wx : World} {B K K' R F : Nat} {x0 x1 x2 : Int} {g c : Nat} {xs : List Ev} (h : RSt w wx B K R F x0 x1 x2 g c xs) (hk : K ≤ K') : RSt w wx B K' R F x0 x1 x2 g c xs := ⟨h.dk.le hk, h.res, h.box, h.evs, h.gF, h.gR⟩
theorem RSt.put1 {w wx : World} {B K R F : Nat} {x0 x1 x2 y : Int} {g c : Nat} {xs : List Ev} (h : RSt w wx B K R F x0 x1 x2 g c xs) (hF : w.heap.size ≤ F) (hB : B < F) (hR : R ≠ F) : RSt w (wx.setCell ⟨F, 1, none⟩ (.int .i64 y)) B K R F x0 y x2 g c xs :=
  ⟨h.dk.set hF hB, h.res.other hR, h.box.set 1 _ rfl, by have := h.evs.setOther (G := F) (j := 1) (x := .int .i64 y) (fun k hk => by simp [Value.ownBlock] at hk; subst hk; exact h.gF); simpa using this, h.gF, h.gR⟩
theorem RSt.put2 {w wx : World} {B K R F : Nat} {x0 x1 x2 y : Int} {g c : Nat} {xs : List Ev} (h : RSt w wx B K R F x0 x1 x2 g c xs) (hF : w.heap.size ≤ F) (hB : B < F) (hR : R ≠ F) : RSt w (wx.setCell ⟨F, 2, none⟩ (.int .i64 y)) B K R F x0 x1 y g c xs :=
  ⟨h.dk.set hF hB, h.res.other hR, h.box.set 2 _ rfl, by have := h.evs.setOther (G := F) (j := 2) (x := .int .i64 y) (fun k hk => by simp [Value.ownBlock] at hk; subst hk; exact h.gF); simpa using this, h.gF, h.gR⟩
theorem RSt.f3 {w wx : World} {B K R F : Nat} {x0 x1 x2 : Int} {g c : Nat} {xs : List Ev} (h : RSt w wx B K R F x0 x1 x2 g c xs) : wx.cell? ⟨F, 3, none⟩ = some (.slice (some ⟨g, 0, none⟩) xs.length c) := by have := h.box.cell 3; simpa using this
/-- One event more: the append, and the store into the box. -/
theorem RSt.fin {w wx w7 : World} {B K R F : Nat} {x0 x1 x2 a b : Int} {g c g' c' : Nat} {xs : List Ev} (h : RSt w wx B K R F x0 x1 x2 g c xs) (hB : B < w.heap.size) (hF : w.heap.size ≤ F) (hRF : R ≠ F)
    (hown : w7.ownsRow w.heap.size 174 2 (.slice (some ⟨g', 0, none⟩) (xs.length + 1) c') (xs.length + 1) ((xs.map evC).flatten ++ [.int .i64 a, .int .i64 b])) (hg : wx.grownBy w7 (Value.slice (some ⟨g, 0, none⟩) xs.length c).ownBlock) (hat : g' = g ∨ g' = wx.heap.size) (ha : inI a) (hb : inI b) :
    RSt w (w7.setCell ⟨F, 3, none⟩ (.slice (some ⟨g', 0, none⟩) (xs.length + 1) c')) B K R F x0 x1 x2 g' c' (xs ++ [⟨a, b⟩]) ∧ BxV w7 F [.int .i64 x0, .int .i64 x1, .int .i64 x2, .slice (some ⟨g, 0, none⟩) xs.length c] := by
  have hgF : g' ≠ F := by rcases hat with e | e; · rw [e]; exact h.gF
                          · have := h.box.lt; omega
  have hgR : g' ≠ R := by rcases hat with e | e; · rw [e]; exact h.gR
                          · have := h.res.lt; omega
  have hge : w.heap.size ≤ g := (h.evs.1.ge g rfl)
  have hb7 : BxV w7 F [.int .i64 x0, .int .i64 x1, .int .i64 x2, .slice (some ⟨g, 0, none⟩) xs.length c] := h.box.grown hg (by simp [Value.ownBlock]; exact fun e => h.gF e.symm)
  have hr7 : BxV w7 R [.int .i64 0, .int .i64 0, .int .i64 0, .slice none 0 0] := h.res.grown hg (by simp [Value.ownBlock]; exact fun e => h.gR e.symm)
  have hd7 : Dk w w7 B K := h.dk.app hg (fun k hk => by simp [Value.ownBlock] at hk; omega) hB
  have he7 := ev_snoc hown rfl h.evs.2.1 ha hb
  refine ⟨⟨hd7.set hF (by omega), hr7.other hRF, ?_, ?_, hgF, hgR⟩, hb7⟩
  · have := hb7.set (cs' := [.int .i64 x0, .int .i64 x1, .int .i64 x2, .slice (some ⟨g', 0, none⟩) (xs.length + 1) c']) 3 (.slice (some ⟨g', 0, none⟩) (xs.length + 1) c') rfl
    simpa using this
  · have := he7.setOther (G := F) (j := 3) (x := .slice (some ⟨g', 0, none⟩) (xs.length + 1) c') (fun k hk => by simp [Value.ownBlock] at hk; subst hk; exact hgF)
    simpa using this
set_option maxRecDepth 20000 in
set_option maxHeartbeats 8000000 in
theorem record_any (B K : Nat) (id : Int) (w : World) (h : Cur w B K) (hK : K ≤ 40000) (hid : inI id) :
    Calls Try.prog 101 #[.pointer (some ⟨B, 0, none⟩), .int .i64 id] w (RecordDrawn w B (K + 60)) := by
  obtain ⟨i0, hi, hz0, hz1, hz2⟩ := info_parts Try.info_event
  have hlt := h.lt
  obtain ⟨R, hR⟩ : ∃ R, w.heap.size = R := ⟨_, rfl⟩
  have HD0 : Hid (Dk w (w.alloc (.cells #[.int .i64 0, .int .i64 0, .int .i64 0, .slice none 0 0] 63 (0, 0))) B K) := Lib.hid ((Dk.start h).al _)
  have HR0 : Hid (BxV (w.alloc (.cells #[.int .i64 0, .int .i64 0, .int .i64 0, .slice none 0 0] 63 (0, 0))) R [.int .i64 0, .int .i64 0, .int .i64 0, .slice none 0 0]) := Lib.hid (BxV.new' hR _ _)
  have hRB : B < R := by omega
  have hwR : w.heap.size ≤ R := by omega
  clear h
  have HRE := Lib.hid hR
  clear hR
  go_enter Try.func101, Try.ntmps101
  go_upto_region 1 with fail
  try rw [HRE.out]
  generalize hW0 : w.alloc (.cells #[.int .i64 0, .int .i64 0, .int .i64 0, .slice none 0 0] 63 (0, 0)) = W0 at *
  have HW0 := Lib.hid hW0
  clear hW0
  go_wp2_with fail
  refine (amongZ_any B (K + 0) W0.heap.size 0 6 6 [1, 2, 3, 3, 7, 99] _ (HD0.out.al (.cells (([1, 2, 3, 3, 7, 99] : List Int).map (Value.int .i64)).toArray 3)).cur (by omega) rfl (by omega) (by omega) (by have := HD0.out.cur.lt; omega) (new_nums W0 [1, 2, 3, 3, 7, 99] 3 _ rfl)).mono ?_
  rintro e w1 ⟨x1, rfl, mx1, hc, hg⟩
  have HD1 := Lib.hid ((HD0.out.al (.cells (([1, 2, 3, 3, 7, 99] : List Int).map (Value.int .i64)).toArray 3)).step hc hg)
  have HR0_1 := Lib.hid ((HR0.out.al (.cells (([1, 2, 3, 3, 7, 99] : List Int).map (Value.int .i64)).toArray 3)).grown hg (by simp; omega))
  clear hc hg HD0 HR0
  have bx1 : 1 ≤ x1 ∧ x1 ≤ 99 := by simp at mx1; omega
  have ix1 : inI x1 := by unfold inI; omega
  clear mx1
  go_wp2_with fail
  refine (amongZ_any B (K + 2) w1.heap.size 0 5 5 [0, 100, 100, 500, 3000] _ (HD1.out.al (.cells (([0, 100, 100, 500, 3000] : List Int).map (Value.int .i64)).toArray 3)).cur (by omega) rfl (by omega) (by omega) (by have := HD1.out.cur.lt; omega) (new_nums w1 [0, 100, 100, 500, 3000] 3 _ rfl)).mono ?_
  rintro e w2 ⟨x2, rfl, mx2, hc, hg⟩
  have HD2 := Lib.hid ((HD1.out.al (.cells (([0, 100, 100, 500, 3000] : List Int).map (Value.int .i64)).toArray 3)).step hc hg)
  have HR0_2 := Lib.hid ((HR0_1.out.al (.cells (([0, 100, 100, 500, 3000] : List Int).map (Value.int .i64)).toArray 3)).grown hg (by simp; omega))
  clear hc hg HD1 HR0_1
  have bx2 : 0 ≤ x2 ∧ x2 ≤ 3000 := by simp at mx2; omega
  have ix2 : inI x2 := by unfold inI; omega
  clear mx2
  obtain ⟨L, hL⟩ : ∃ L, w2.heap.size = L := ⟨_, rfl⟩
  obtain ⟨F, hF⟩ : ∃ F, L + 1 = F := ⟨_, rfl⟩
  have hwL : w.heap.size ≤ L := by rw [← hL]; exact HD2.out.sz
  have hRL : R < L := by rw [← hL]; exact HR0_2.out.lt
  have hwF : w.heap.size ≤ F := by omega
  have hRF : R ≠ F := by omega
  have hBF : B < F := by omega
  have hs1 : (w2.alloc (.cells #[] 174 (0, 0))).heap.size = F := by rw [← hF, ← hL]; simp
  have HS9 : Hid (RSt w ((w2.alloc (.cells #[] 174 (0, 0))).alloc (.cells #[.int .i64 id, .int .i64 x1, .int .i64 x2, .slice (some ⟨L, 0, none⟩) 0 0] 63 (0, 0))) B (K + 4) R F id x1 x2 L 0 []) := Lib.hid ⟨(HD2.out.al _).al _, (HR0_2.out.al _).al _, BxV.new' hs1 _ _, by
    have h1 := (EvsO.empty' (lo := w.heap.size) hL hwL).below (below_al (Below.refl _ _) (.cells #[.int .i64 id, .int .i64 x1, .int .i64 x2, .slice (some ⟨L, 0, none⟩) 0 0] 63 (0, 0)))
    exact h1.wide (Nat.le_refl _) (by simp), by omega, by omega⟩
  clear HD2 HR0_2 hs1
  go_upto_region 2 with fail
  try rw [hL]
  try rw [hF]
  have HLE := Lib.hid hL
  clear hL
  generalize hW9 : (w2.alloc (.cells #[] 174 (0, 0))).alloc (.cells #[.int .i64 id, .int .i64 x1, .int .i64 x2, .slice (some ⟨L, 0, none⟩) 0 0] 63 (0, 0)) = W9 at *
  have HW9 := Lib.hid hW9
  clear hW9
  go_wp2_with fail
  go_loopw [6] (fun kk wr => ∃ (k g c : Nat) (xs : List Ev), 1 ≤ k ∧ k ≤ 7 ∧ kk = .int .i64 k ∧ xs.length + 1 ≤ k ∧ Hid (RSt w wr B (K + 4 + 4 * k) R F id x1 x2 g c xs)) (fun kk _ => 7 - (intOf kk).toNat)
  case atStart => exact ⟨1, L, 0, [], by omega, by omega, rfl, by simp, Lib.hid (HS9.out.le (by omega))⟩
  case round =>
    clear HS9
    obtain ⟨k, g, c, xs, hk1, hk7, rfl, hxl, HS⟩ := hrel
    have hkp : IntKind.i64.wrap ((k : Int) + 1) = (k : Int) + 1 := Go.IntWalk.i64_in _ (by omega)
    by_cases hq : k ≤ 6
    · have hq1 : decide ((k : Int) ≤ 6) = true := decide_eq_true (by omega)
      have hq2 : (k : Int) ≤ 6 := by omega
      go_wp2_with fail
      refine (one_any B (K + 4 + 4 * k) 3 _ HS.out.dk.cur (by omega) (by omega) (by omega)).mono ?_
      rintro e w2 ⟨b, rfl, hc, hg⟩
      have HS2 := Lib.hid (HS.out.step hlt hwR hwF hc hg)
      clear hc hg HS
      cases b
      · go_wp2_with fail
        go_roundw
        case rel => exact ⟨k + 1, g, c, xs, by omega, by omega, by go_num, by omega, Lib.hid (HS2.out.le (by omega))⟩
        case measure => simp [intOf]; omega
      · have HSd := Lib.hid HS2.out.drew
        have f2 := HS2.out.box.cell 2
        have f3 := HS2.out.box.cell 3
        have ff := HS2.out.box.frozen 3
        simp at f2 f3
        have f2x : ∀ o, (w2.alloc o).cell? ⟨F, 2, none⟩ = some (.int .i64 x2) := fun o => below_al_cell f2 o
        have f3x : ∀ o, (w2.alloc o).cell? ⟨F, 3, none⟩ = some (.slice (some ⟨g, 0, none⟩) xs.length c) := fun o => below_al_cell f3 o
        go_upto_region 6 with fail
        go_region_law (first | (go_simp; go_at_call 77; refine (amongZ_any B (K + 4 + 4 * k + 2 + 0) w2.heap.size 0 5 5 [0, 1, 30, 365, 1000] _ ((HS2.out.al (.cells (([0, 1, 30, 365, 1000] : List Int).map (Value.int .i64)).toArray 3)).drew).dk.cur (by omega) rfl (by omega) (by omega) (by have := HS2.out.dk.cur.lt; have := HS2.out.dk.sz; omega) (new_nums w2 [0, 1, 30, 365, 1000] 3 _ rfl)).mono ?_; rintro e wa1 ⟨r, rfl, mr, hc, hg⟩; have HS1_ := Lib.hid (((HS2.out.al (.cells (([0, 1, 30, 365, 1000] : List Int).map (Value.int .i64)).toArray 3)).drew).step hlt hwR hwF hc hg); have br : 0 ≤ r ∧ r ≤ 1000 := (by simp at mr; omega); have g2_1 := HS1_.out.box.cell 2; have g3_1 := HS1_.out.box.cell 3; have gf_1 := HS1_.out.box.frozen 3; simp at g2_1 g3_1; have g2x_1 : ∀ o, (wa1.alloc o).cell? ⟨F, 2, none⟩ = some (.int .i64 x2) := (fun o => below_al_cell g2_1 o); have g3x_1 : ∀ o, (wa1.alloc o).cell? ⟨F, 3, none⟩ = some (.slice (some ⟨g, 0, none⟩) xs.length c) := (fun o => below_al_cell g3_1 o); have hwr : IntKind.i64.wrap (x2 + r) = x2 + r := Go.IntWalk.i64_in _ (by omega); clear hc hg mr) | (rw [if_pos (by rfl)]; refine wp_append_at _ _ _ _ rfl w.heap.size 174 i0 (.agg #[.int .i64 0, .int .i64 0]) 2 16 Try.underlying61 hi hz0 hz1 hz2 rfl (by decide) (.slice (some ⟨g, 0, none⟩) xs.length c) xs.length ((xs.map evC).flatten) (by rfl) (by exact (HS1_.out.al (.cells #[.int .i64 ((k : Int)), .int .i64 (x2 + r)] 174 (0, 0))).evs.ownR) ⟨wa1.heap.size, 0, none⟩ 1 1 [.int .i64 ((k : Int)), .int .i64 (x2 + r)] (by rfl) rfl (by exact two_new rfl) (by simp [Value.oneCell']) (by unfold maxLen; omega) (by omega) (by have := HS1_.out.dk.sz; simp; omega) ?_; intro v' w7 hown' hgrow hat; obtain ⟨g', c', rfl, hge⟩ := own_form hown' (Nat.succ_pos _); have hat2 : g' = g ∨ g' = (wa1.alloc (.cells #[.int .i64 ((k : Int)), .int .i64 (x2 + r)] 174 (0, 0))).heap.size := (by simpa [Value.ownBlock] using hat); have HZ := Lib.hid ((HS1_.out.al (.cells #[.int .i64 ((k : Int)), .int .i64 (x2 + r)] 174 (0, 0))).fin hlt hwF hRF hown' hgrow hat2 (by unfold inI; omega) (by unfold inI; omega)); have h2_7 := HZ.out.2.cell 2; have h3_7 := HZ.out.2.cell 3; have hf_7 := HZ.out.2.frozen 3; simp at h2_7 h3_7; clear hown' hgrow hat hat2))
        all_goals
          go_wp2_with fail
          go_roundw
          case rel => exact ⟨k + 1, g', c', xs ++ [⟨(k : Int), x2 + r⟩], by omega, by omega, by go_num, by simp; omega, Lib.hid (HZ.out.1.le (K' := K + 4 + 4 * (k + 1)) (by omega))⟩
          case measure => simp [intOf]; omega
    · obtain ⟨M, hM⟩ : ∃ M, K + 4 + 4 * k = M := ⟨_, rfl⟩
      rw [hM] at HS
      have hM2 : M ≤ K + 40 := by omega
      clear hM hkp
      have hq3 : ¬ (k : Int) ≤ 6 := by omega
      have hq4 : decide ((k : Int) ≤ 6) = false := decide_eq_false hq3
      have hxl6 : xs.length ≤ 6 := by omega
      clear hxl hk1 hk7 hq
      go_upto_block 2 with (first | (go_at_call 81; refine (pick_any B M 48 _ HS.out.dk.cur (by omega) (by omega) (by omega)).mono ?_; rintro e w2 ⟨m, rfl, hm0, hm1, hc, hg⟩; have HS2 := Lib.hid (HS.out.step hlt hwR hwF hc hg); clear hc hg HS))
      go_cut [5] from 6 to 63 (fun q wx => q = .pointer (some ⟨F, 0, none⟩) ∧ ∃ (y1 y2 : Int) (g c : Nat) (xs : List Ev), xs.length ≤ 7 ∧ inI y1 ∧ (-1 ≤ y2 ∧ y2 ≤ 20001) ∧ Hid (RSt w wx B (M + 8) R F id y1 y2 g c xs))
      case first =>
        by_cases e0 : m = 0
        · subst e0
          go_wp2_with fail
          refine (amongZ_any B (M + 2) w2.heap.size 0 2 2 [0, 100] _ (HS2.out.al (.cells (([0, 100] : List Int).map (Value.int .i64)).toArray 3)).dk.cur (by omega) rfl (by omega) (by omega) (by have := HS2.out.dk.cur.lt; have := HS2.out.dk.sz; omega) (new_nums w2 [0, 100] 3 _ rfl)).mono ?_
          rintro e w3 ⟨r, rfl, mr, hc, hg⟩
          have HS3 := Lib.hid ((HS2.out.al (.cells (([0, 100] : List Int).map (Value.int .i64)).toArray 3)).step hlt hwR hwF hc hg)
          have br : 0 ≤ r ∧ r ≤ 100 := by simp at mr; omega
          have fc := HS3.out.box.cell 1
          have ff := HS3.out.box.frozen 1
          simp at fc
          clear hc hg mr HS2
          go_wp2_with fail
          go_meet
          exact ⟨rfl, r, x2, g, c, xs, by omega, by unfold inI; omega, by omega, Lib.hid ((HS3.out.put1 hwF hBF hRF).le (by omega))⟩
        · have b0 : (m == 0) = false := beq_eq_false_iff_ne.2 e0
          by_cases e1 : m = 1
          · subst e1
            go_wp2_with fail
            refine (amongZ_any B (M + 2) w2.heap.size 0 3 3 [-1, 20001, 19999] _ (HS2.out.al (.cells (([-1, 20001, 19999] : List Int).map (Value.int .i64)).toArray 3)).dk.cur (by omega) rfl (by omega) (by omega) (by have := HS2.out.dk.cur.lt; have := HS2.out.dk.sz; omega) (new_nums w2 [-1, 20001, 19999] 3 _ rfl)).mono ?_
            rintro e w3 ⟨r, rfl, mr, hc, hg⟩
            have HS3 := Lib.hid ((HS2.out.al (.cells (([-1, 20001, 19999] : List Int).map (Value.int .i64)).toArray 3)).step hlt hwR hwF hc hg)
            have br : -1 ≤ r ∧ r ≤ 20001 := by simp at mr; omega
            have fc := HS3.out.box.cell 2
            have ff := HS3.out.box.frozen 2
            simp at fc
            clear hc hg mr HS2
            go_wp2_with fail
            go_meet
            exact ⟨rfl, x1, r, g, c, xs, by omega, ix1, by omega, Lib.hid ((HS3.out.put2 hwF hBF hRF).le (by omega))⟩
          · have b1 : (m == 1) = false := beq_eq_false_iff_ne.2 e1
            by_cases e2 : m = 2
            · subst e2
              go_upto_region 13 with fail
              have HSd := Lib.hid HS2.out.drew
              refine wp_region_held_drew (S := (fun _ : World => True)) (by kernel_rfl) trivial (fun hHeld => ?_)
              refine gen_dr (W := w2) ?_
              intro V0 hV0 hz0
              have HS0_ := Lib.hid (by rw [hV0]; exact HSd.out : RSt w V0 B (M + 2 + 0) R F id x1 x2 g c xs)
              replace hHeld : (fun _ : World => True) V0 := trivial
              clear hV0 hz0 HSd HS2
              refine wpAnyH_take (i := 0) (v := ?_) rfl (by kernel_rfl) (by kernel_rfl) (by kernel_rfl) (fun _ _ _ h => h) (Or.inl ⟨by rfl, ?_⟩) (by assumption) ?_
              rotate_left
              · (intro w hSw; (try dsimp only at hSw); go_simp; first | done | with_reducible rfl)
              (try simp only [Act.put, List.setIfInBounds_toArray, List.set_cons_zero, List.set_cons_succ, List.getElem_toArray, List.getElem_cons_succ, List.getElem_cons_zero])
              refine wpAnyH_take (i := 2) (v := ?_) rfl (by kernel_rfl) (by kernel_rfl) (by kernel_rfl) (fun _ _ _ h => h) (Or.inl ⟨by rfl, ?_⟩) (by assumption) ?_
              rotate_left
              · (intro w hSw; (try dsimp only at hSw); go_simp; first | done | with_reducible rfl)
              (try simp only [Act.put, List.setIfInBounds_toArray, List.set_cons_zero, List.set_cons_succ, List.getElem_toArray, List.getElem_cons_succ, List.getElem_cons_zero])
              refine wpAnyH_take (i := 5) (v := ?_) rfl (by kernel_rfl) (by kernel_rfl) (by kernel_rfl) (fun _ _ _ h => h) (Or.inl ⟨by rfl, ?_⟩) (by assumption) ?_
              rotate_left
              · (intro w hSw; (try dsimp only at hSw); go_simp; first | done | with_reducible rfl)
              (try simp only [Act.put, List.setIfInBounds_toArray, List.set_cons_zero, List.set_cons_succ, List.getElem_toArray, List.getElem_cons_succ, List.getElem_cons_zero])
              refine wpAnyH_ready (rs := [1, 3, 6]) (by kernel_rfl) (by simp) ?_
              refine AllReadyH.cons rfl (fun K hK => ?_) (AllReadyH.cons rfl (fun K hK => ?_) (AllReadyH.cons rfl (fun K hK => ?_) AllReadyH.nil))
              · have f3_1 := HS0_.out.f3
                go_simp
                refine hK.out _ _ trivial (fun hHeld => ?_)
                clear hK K f3_1
                (try simp only [Act.put, List.setIfInBounds_toArray, List.set_cons_zero, List.set_cons_succ, List.getElem_toArray, List.getElem_cons_succ, List.getElem_cons_zero])
                refine wpAnyH_ready (rs := [3, 6]) (by kernel_rfl) (by simp) ?_
                refine AllReadyH.cons rfl (fun K hK => ?_) (AllReadyH.cons rfl (fun K hK => ?_) AllReadyH.nil)
                · go_simp
                  refine hK.out _ _ trivial (fun hHeld => ?_)
                  clear hK K hHeld
                  (try simp only [Act.put, List.setIfInBounds_toArray, List.set_cons_zero, List.set_cons_succ, List.getElem_toArray, List.getElem_cons_succ, List.getElem_cons_zero])
                  refine gen_al (W := V0) ?_
                  intro V2 hWn
                  have HS2_ := Lib.hid (by rw [hWn]; exact HS0_.out.al _ : RSt w V2 B (M + 2 + 0) R F id x1 x2 g c xs)
                  have HL2_3 : Hid (NL V2 V0.heap.size [1, 9, 10]) := Lib.hid (by rw [hWn]; exact new_nums V0 [1, 9, 10] 3 _ rfl)
                  have HN2_3 : Hid (V0.heap.size ≠ B) := Lib.hid (by have := HS0_.out.dk.cur.lt; omega)
                  have hHeld : (fun _ : World => True) V2 := trivial
                  clear hWn HS0_
                  refine wpAnyH_ready (rs := [4, 6]) (by kernel_rfl) (by simp) ?_
                  refine AllReadyH.cons rfl (fun K hK => ?_) (AllReadyH.cons rfl (fun K hK => ?_) AllReadyH.nil)
                  · go_simp
                    go_at_call 77
                    refine (amongZ_any B (M + 2 + 0) V0.heap.size 0 3 3 [1, 9, 10] _ HS2_.out.dk.cur (by omega) rfl (by omega) (by omega) HN2_3.out HL2_3.out).mono ?_
                    rintro e V3 ⟨ra, rfl, mra, hc, hg⟩
                    have bra : 1 ≤ ra ∧ ra ≤ 10 := by simp at mra; omega
                    clear mra
                    have HS3_ := Lib.hid (HS2_.out.step hlt hwR hwF hc hg)
                    clear hc hg HS2_ HL2_3
                    (try go_wp2_with fail)
                    refine hK.out _ _ trivial (fun hHeld => ?_)
                    clear hK K
                    (try simp only [Act.put, List.setIfInBounds_toArray, List.set_cons_zero, List.set_cons_succ, List.getElem_toArray, List.getElem_cons_succ, List.getElem_cons_zero])
                    refine wpAnyH_ready (rs := [6]) (by kernel_rfl) (by simp) ?_
                    refine AllReadyH.cons rfl (fun K hK => ?_) AllReadyH.nil
                    · go_simp
                      refine hK.out _ _ trivial (fun hHeld => ?_)
                      clear hK K hHeld
                      (try simp only [Act.put, List.setIfInBounds_toArray, List.set_cons_zero, List.set_cons_succ, List.getElem_toArray, List.getElem_cons_succ, List.getElem_cons_zero])
                      refine gen_al (W := V3) ?_
                      intro V4 hWn
                      have HS4_ := Lib.hid (by rw [hWn]; exact HS3_.out.al _ : RSt w V4 B (M + 2 + 2) R F id x1 x2 g c xs)
                      have HL4_6 : Hid (NL V4 V3.heap.size [0, 20000]) := Lib.hid (by rw [hWn]; exact new_nums V3 [0, 20000] 3 _ rfl)
                      have HN4_6 : Hid (V3.heap.size ≠ B) := Lib.hid (by have := HS3_.out.dk.cur.lt; omega)
                      have hHeld : (fun _ : World => True) V4 := trivial
                      clear hWn HS3_
                      refine wpAnyH_ready (rs := [7]) (by kernel_rfl) (by simp) ?_
                      refine AllReadyH.cons rfl (fun K hK => ?_) AllReadyH.nil
                      · go_simp
                        go_at_call 77
                        refine (amongZ_any B (M + 2 + 2) V3.heap.size 0 2 2 [0, 20000] _ HS4_.out.dk.cur (by omega) rfl (by omega) (by omega) HN4_6.out HL4_6.out).mono ?_
                        rintro e V5 ⟨rb, rfl, mrb, hc, hg⟩
                        have brb : 0 ≤ rb ∧ rb ≤ 20000 := by simp at mrb; omega
                        clear mrb
                        have HS5_ := Lib.hid (HS4_.out.step hlt hwR hwF hc hg)
                        clear hc hg HS4_ HL4_6
                        (try go_wp2_with fail)
                        refine hK.out _ _ trivial (fun hHeld => ?_)
                        clear hK K
                        (try simp only [Act.put, List.setIfInBounds_toArray, List.set_cons_zero, List.set_cons_succ, List.getElem_toArray, List.getElem_cons_succ, List.getElem_cons_zero])
                        refine wpAnyH_take (i := 8) (v := ?_) rfl (by kernel_rfl) (by kernel_rfl) (by kernel_rfl) (fun _ _ _ h => h) (Or.inl ⟨by rfl, ?_⟩) (by assumption) ?_
                        rotate_left
                        · (intro w hSw; (try dsimp only at hSw); go_simp; first | done | with_reducible rfl)
                        (try simp only [Act.put, List.setIfInBounds_toArray, List.set_cons_zero, List.set_cons_succ, List.getElem_toArray, List.getElem_cons_succ, List.getElem_cons_zero])
                        refine wpAnyH_ready (rs := [9]) (by kernel_rfl) (by simp) ?_
                        refine AllReadyH.cons rfl (fun K hK => ?_) AllReadyH.nil
                        · go_simp
                          refine hK.out _ _ trivial (fun hHeld => ?_)
                          clear hK K hHeld
                          (try simp only [Act.put, List.setIfInBounds_toArray, List.set_cons_zero, List.set_cons_succ, List.getElem_toArray, List.getElem_cons_succ, List.getElem_cons_zero])
                          refine gen_al (W := V5) ?_
                          intro V6 hWn
                          have HS6_ := Lib.hid (by rw [hWn]; exact HS5_.out.al _ : RSt w V6 B (M + 2 + 4) R F id x1 x2 g c xs)
                          have HE6 : Hid (∀ j u, ([.int .i64 ra, .int .i64 rb] : List Value)[j]? = some u → V6.cell? ((⟨V5.heap.size, 0, none⟩ : Addr).add j) = some u) := Lib.hid (by rw [hWn]; exact two_new rfl)
                          have hHeld : (fun _ : World => True) V6 := trivial
                          clear hWn HS5_
                          refine wpAnyH_ready (rs := [10]) (by kernel_rfl) (by simp) ?_
                          refine AllReadyH.cons rfl (fun K hK => ?_) AllReadyH.nil
                          rw [if_pos (by rfl)]
                          refine wp_append_at _ _ _ _ rfl w.heap.size 174 i0 (.agg #[.int .i64 0, .int .i64 0]) 2 16 Try.underlying61 hi hz0 hz1 hz2 rfl (by decide) (.slice (some ⟨g, 0, none⟩) xs.length c) xs.length ((xs.map evC).flatten) (by rfl) (by exact HS6_.out.evs.ownR) ⟨V5.heap.size, 0, none⟩ 1 1 [.int .i64 ra, .int .i64 rb] (by rfl) rfl HE6.out (by simp [Value.oneCell']) (by unfold maxLen; omega) (by omega) (by have := HS6_.out.dk.sz; omega) ?_
                          intro v' w7 hown' hgrow hat
                          obtain ⟨g', c', rfl, hge⟩ := own_form hown' (Nat.succ_pos _)
                          have hat2 : g' = g ∨ g' = V6.heap.size := by simpa [Value.ownBlock] using hat
                          have HZ := Lib.hid (HS6_.out.fin hlt hwF hRF hown' hgrow hat2 (by unfold inI; omega) (by unfold inI; omega))
                          have h2_7 := HZ.out.2.cell 2
                          have h3_7 := HZ.out.2.cell 3
                          have hf_7 := HZ.out.2.frozen 3
                          simp at h2_7 h3_7
                          clear hown' hgrow hat hat2
                          refine hK.out _ _ trivial (fun hHeld => ?_)
                          clear hK K
                          (try simp only [Act.put, List.setIfInBounds_toArray, List.set_cons_zero, List.set_cons_succ, List.getElem_toArray, List.getElem_cons_succ, List.getElem_cons_zero])
                          refine wpAnyH_take (i := 11) (v := ?_) rfl (by kernel_rfl) (by kernel_rfl) (by kernel_rfl) (fun _ _ _ h => h) (Or.inl ⟨by rfl, ?_⟩) (by assumption) ?_
                          rotate_left
                          · (intro w hSw; (try dsimp only at hSw); go_simp; first | done | with_reducible rfl)
                          (try simp only [Act.put, List.setIfInBounds_toArray, List.set_cons_zero, List.set_cons_succ, List.getElem_toArray, List.getElem_cons_succ, List.getElem_cons_zero])
                          refine wpAnyH_ready (rs := [12]) (by kernel_rfl) (by simp) ?_
                          refine AllReadyH.cons rfl (fun K hK => ?_) AllReadyH.nil
                          go_simp
                          refine hK.out _ _ trivial (fun hHeld => ?_)
                          clear hK K
                          (try simp only [Act.put, List.setIfInBounds_toArray, List.set_cons_zero, List.set_cons_succ, List.getElem_toArray, List.getElem_cons_succ, List.getElem_cons_zero])
                          refine wpAnyH_done (by kernel_rfl) ?_ _
                          (try go_wp2_with fail)
                          go_meet
                          exact ⟨rfl, x1, x2, g', c', xs ++ [⟨ra, rb⟩], by simp; omega, ix1, by omega, Lib.hid (HZ.out.1.le (by omega))⟩
                  · go_simp
                    refine hK.out _ _ trivial (fun hHeld => ?_)
                    clear hK K hHeld
                    (try simp only [Act.put, List.setIfInBounds_toArray, List.set_cons_zero, List.set_cons_succ, List.getElem_toArray, List.getElem_cons_succ, List.getElem_cons_zero])
                    refine gen_al (W := V2) ?_
                    intro V7 hWn
                    have HS7_ := Lib.hid (by rw [hWn]; exact HS2_.out.al _ : RSt w V7 B (M + 2 + 0) R F id x1 x2 g c xs)
                    have HL7_3 : Hid (NL V7 V0.heap.size [1, 9, 10]) := Lib.hid (by rw [hWn]; exact HL2_3.out.al _)
                    have HL7_6 : Hid (NL V7 V2.heap.size [0, 20000]) := Lib.hid (by rw [hWn]; exact new_nums V2 [0, 20000] 3 _ rfl)
                    have HN7_6 : Hid (V2.heap.size ≠ B) := Lib.hid (by have := HS2_.out.dk.cur.lt; omega)
                    have hHeld : (fun _ : World => True) V7 := trivial
                    clear hWn HS2_ HL2_3
                    refine wpAnyH_ready (rs := [4]) (by kernel_rfl) (by simp) ?_
                    refine AllReadyH.cons rfl (fun K hK => ?_) AllReadyH.nil
                    · go_simp
                      go_at_call 77
                      refine (amongZ_any B (M + 2 + 0) V0.heap.size 0 3 3 [1, 9, 10] _ HS7_.out.dk.cur (by omega) rfl (by omega) (by omega) HN2_3.out HL7_3.out).mono ?_
                      rintro e V8 ⟨ra, rfl, mra, hc, hg⟩
                      have bra : 1 ≤ ra ∧ ra ≤ 10 := by simp at mra; omega
                      clear mra
                      have HS8_ := Lib.hid (HS7_.out.step hlt hwR hwF hc hg)
                      have HL8_6 : Hid (NL V8 V2.heap.size [0, 20000]) := Lib.hid (HL7_6.out.grown hg HN7_6.out)
                      clear hc hg HS7_ HL7_3 HL7_6
                      (try go_wp2_with fail)
                      refine hK.out _ _ trivial (fun hHeld => ?_)
                      clear hK K
                      (try simp only [Act.put, List.setIfInBounds_toArray, List.set_cons_zero, List.set_cons_succ, List.getElem_toArray, List.getElem_cons_succ, List.getElem_cons_zero])
                      refine wpAnyH_ready (rs := [7]) (by kernel_rfl) (by simp) ?_
                      refine AllReadyH.cons rfl (fun K hK => ?_) AllReadyH.nil
                      · go_simp
                        go_at_call 77
                        refine (amongZ_any B (M + 2 + 2) V2.heap.size 0 2 2 [0, 20000] _ HS8_.out.dk.cur (by omega) rfl (by omega) (by omega) HN7_6.out HL8_6.out).mono ?_
                        rintro e V9 ⟨rb, rfl, mrb, hc, hg⟩
                        have brb : 0 ≤ rb ∧ rb ≤ 20000 := by simp at mrb; omega
                        clear mrb
                        have HS9_ := Lib.hid (HS8_.out.step hlt hwR hwF hc hg)
                        clear hc hg HS8_ HL8_6
                        (try go_wp2_with fail)
                        refine hK.out _ _ trivial (fun hHeld => ?_)
                        clear hK K
                        (try simp only [Act.put, List.setIfInBounds_toArray, List.set_cons_zero, List.set_cons_succ, List.getElem_toArray, List.getElem_cons_succ, List.getElem_cons_zero])
                        refine wpAnyH_take (i := 8) (v := ?_) rfl (by kernel_rfl) (by kernel_rfl) (by kernel_rfl) (fun _ _ _ h => h) (Or.inl ⟨by rfl, ?_⟩) (by assumption) ?_
                        rotate_left
                        · (intro w hSw; (try dsimp only at hSw); go_simp; first | done | with_reducible rfl)
                        (try simp only [Act.put, List.setIfInBounds_toArray, List.set_cons_zero, List.set_cons_succ, List.getElem_toArray, List.getElem_cons_succ, List.getElem_cons_zero])
                        refine wpAnyH_ready (rs := [9]) (by kernel_rfl) (by simp) ?_
                        refine AllReadyH.cons rfl (fun K hK => ?_) AllReadyH.nil
                        · go_simp
                          refine hK.out _ _ trivial (fun hHeld => ?_)
                          clear hK K hHeld
                          (try simp only [Act.put, List.setIfInBounds_toArray, List.set_cons_zero, List.set_cons_succ, List.getElem_toArray, List.getElem_cons_succ, List.getElem_cons_zero])
                          refine gen_al (W := V9) ?_
                          intro V10 hWn
                          have HS10_ := Lib.hid (by rw [hWn]; exact HS9_.out.al _ : RSt w V10 B (M + 2 + 4) R F id x1 x2 g c xs)
                          have HE10 : Hid (∀ j u, ([.int .i64 ra, .int .i64 rb] : List Value)[j]? = some u → V10.cell? ((⟨V9.heap.size, 0, none⟩ : Addr).add j) = some u) := Lib.hid (by rw [hWn]; exact two_new rfl)
                          have hHeld : (fun _ : World => True) V10 := trivial
                          clear hWn HS9_
                          refine wpAnyH_ready (rs := [10]) (by kernel_rfl) (by simp) ?_
                          refine AllReadyH.cons rfl (fun K hK => ?_) AllReadyH.nil
                          rw [if_pos (by rfl)]
                          refine wp_append_at _ _ _ _ rfl w.heap.size 174 i0 (.agg #[.int .i64 0, .int .i64 0]) 2 16 Try.underlying61 hi hz0 hz1 hz2 rfl (by decide) (.slice (some ⟨g, 0, none⟩) xs.length c) xs.length ((xs.map evC).flatten) (by rfl) (by exact HS10_.out.evs.ownR) ⟨V9.heap.size, 0, none⟩ 1 1 [.int .i64 ra, .int .i64 rb] (by rfl) rfl HE10.out (by simp [Value.oneCell']) (by unfold maxLen; omega) (by omega) (by have := HS10_.out.dk.sz; omega) ?_
                          intro v' w7 hown' hgrow hat
                          obtain ⟨g', c', rfl, hge⟩ := own_form hown' (Nat.succ_pos _)
                          have hat2 : g' = g ∨ g' = V10.heap.size := by simpa [Value.ownBlock] using hat
                          have HZ := Lib.hid (HS10_.out.fin hlt hwF hRF hown' hgrow hat2 (by unfold inI; omega) (by unfold inI; omega))
                          have h2_7 := HZ.out.2.cell 2
                          have h3_7 := HZ.out.2.cell 3
                          have hf_7 := HZ.out.2.frozen 3
                          simp at h2_7 h3_7
                          clear hown' hgrow hat hat2
                          refine hK.out _ _ trivial (fun hHeld => ?_)
                          clear hK K
                          (try simp only [Act.put, List.setIfInBounds_toArray, List.set_cons_zero, List.set_cons_succ, List.getElem_toArray, List.getElem_cons_succ, List.getElem_cons_zero])
                          refine wpAnyH_take (i := 11) (v := ?_) rfl (by kernel_rfl) (by kernel_rfl) (by kernel_rfl) (fun _ _ _ h => h) (Or.inl ⟨by rfl, ?_⟩) (by assumption) ?_
                          rotate_left
                          · (intro w hSw; (try dsimp only at hSw); go_simp; first | done | with_reducible rfl)
                          (try simp only [Act.put, List.setIfInBounds_toArray, List.set_cons_zero, List.set_cons_succ, List.getElem_toArray, List.getElem_cons_succ, List.getElem_cons_zero])
                          refine wpAnyH_ready (rs := [12]) (by kernel_rfl) (by simp) ?_
                          refine AllReadyH.cons rfl (fun K hK => ?_) AllReadyH.nil
                          go_simp
                          refine hK.out _ _ trivial (fun hHeld => ?_)
                          clear hK K
                          (try simp only [Act.put, List.setIfInBounds_toArray, List.set_cons_zero, List.set_cons_succ, List.getElem_toArray, List.getElem_cons_succ, List.getElem_cons_zero])
                          refine wpAnyH_done (by kernel_rfl) ?_ _
                          (try go_wp2_with fail)
                          go_meet
                          exact ⟨rfl, x1, x2, g', c', xs ++ [⟨ra, rb⟩], by simp; omega, ix1, by omega, Lib.hid (HZ.out.1.le (by omega))⟩
                · go_simp
                  refine hK.out _ _ trivial (fun hHeld => ?_)
                  clear hK K hHeld
                  (try simp only [Act.put, List.setIfInBounds_toArray, List.set_cons_zero, List.set_cons_succ, List.getElem_toArray, List.getElem_cons_succ, List.getElem_cons_zero])
                  refine gen_al (W := V0) ?_
                  intro V11 hWn
                  have HS11_ := Lib.hid (by rw [hWn]; exact HS0_.out.al _ : RSt w V11 B (M + 2 + 0) R F id x1 x2 g c xs)
                  have HL11_6 : Hid (NL V11 V0.heap.size [0, 20000]) := Lib.hid (by rw [hWn]; exact new_nums V0 [0, 20000] 3 _ rfl)
                  have HN11_6 : Hid (V0.heap.size ≠ B) := Lib.hid (by have := HS0_.out.dk.cur.lt; omega)
                  have hHeld : (fun _ : World => True) V11 := trivial
                  clear hWn HS0_
                  refine wpAnyH_ready (rs := [3]) (by kernel_rfl) (by simp) ?_
                  refine AllReadyH.cons rfl (fun K hK => ?_) AllReadyH.nil
                  · go_simp
                    refine hK.out _ _ trivial (fun hHeld => ?_)
                    clear hK K hHeld
                    (try simp only [Act.put, List.setIfInBounds_toArray, List.set_cons_zero, List.set_cons_succ, List.getElem_toArray, List.getElem_cons_succ, List.getElem_cons_zero])
                    refine gen_al (W := V11) ?_
                    intro V12 hWn
                    have HS12_ := Lib.hid (by rw [hWn]; exact HS11_.out.al _ : RSt w V12 B (M + 2 + 0) R F id x1 x2 g c xs)
                    have HL12_6 : Hid (NL V12 V0.heap.size [0, 20000]) := Lib.hid (by rw [hWn]; exact HL11_6.out.al _)
                    have HL12_3 : Hid (NL V12 V11.heap.size [1, 9, 10]) := Lib.hid (by rw [hWn]; exact new_nums V11 [1, 9, 10] 3 _ rfl)
                    have HN12_3 : Hid (V11.heap.size ≠ B) := Lib.hid (by have := HS11_.out.dk.cur.lt; omega)
                    have hHeld : (fun _ : World => True) V12 := trivial
                    clear hWn HS11_ HL11_6
                    refine wpAnyH_ready (rs := [4]) (by kernel_rfl) (by simp) ?_
                    refine AllReadyH.cons rfl (fun K hK => ?_) AllReadyH.nil
                    · go_simp
                      go_at_call 77
                      refine (amongZ_any B (M + 2 + 0) V11.heap.size 0 3 3 [1, 9, 10] _ HS12_.out.dk.cur (by omega) rfl (by omega) (by omega) HN12_3.out HL12_3.out).mono ?_
                      rintro e V13 ⟨ra, rfl, mra, hc, hg⟩
                      have bra : 1 ≤ ra ∧ ra ≤ 10 := by simp at mra; omega
                      clear mra
                      have HS13_ := Lib.hid (HS12_.out.step hlt hwR hwF hc hg)
                      have HL13_6 : Hid (NL V13 V0.heap.size [0, 20000]) := Lib.hid (HL12_6.out.grown hg HN11_6.out)
                      clear hc hg HS12_ HL12_3 HL12_6
                      (try go_wp2_with fail)
                      refine hK.out _ _ trivial (fun hHeld => ?_)
                      clear hK K
                      (try simp only [Act.put, List.setIfInBounds_toArray, List.set_cons_zero, List.set_cons_succ, List.getElem_toArray, List.getElem_cons_succ, List.getElem_cons_zero])
                      refine wpAnyH_ready (rs := [7]) (by kernel_rfl) (by simp) ?_
                      refine AllReadyH.cons rfl (fun K hK => ?_) AllReadyH.nil
                      · go_simp
                        go_at_call 77
                        refine (amongZ_any B (M + 2 + 2) V0.heap.size 0 2 2 [0, 20000] _ HS13_.out.dk.cur (by omega) rfl (by omega) (by omega) HN11_6.out HL13_6.out).mono ?_
                        rintro e V14 ⟨rb, rfl, mrb, hc, hg⟩
                        have brb : 0 ≤ rb ∧ rb ≤ 20000 := by simp at mrb; omega
                        clear mrb
                        have HS14_ := Lib.hid (HS13_.out.step hlt hwR hwF hc hg)
                        clear hc hg HS13_ HL13_6
                        (try go_wp2_with fail)
                        refine hK.out _ _ trivial (fun hHeld => ?_)
                        clear hK K
                        (try simp only [Act.put, List.setIfInBounds_toArray, List.set_cons_zero, List.set_cons_succ, List.getElem_toArray, List.getElem_cons_succ, List.getElem_cons_zero])
                        refine wpAnyH_take (i := 8) (v := ?_) rfl (by kernel_rfl) (by kernel_rfl) (by kernel_rfl) (fun _ _ _ h => h) (Or.inl ⟨by rfl, ?_⟩) (by assumption) ?_
                        rotate_left
                        · (intro w hSw; (try dsimp only at hSw); go_simp; first | done | with_reducible rfl)
                        (try simp only [Act.put, List.setIfInBounds_toArray, List.set_cons_zero, List.set_cons_succ, List.getElem_toArray, List.getElem_cons_succ, List.getElem_cons_zero])
                        refine wpAnyH_ready (rs := [9]) (by kernel_rfl) (by simp) ?_
                        refine AllReadyH.cons rfl (fun K hK => ?_) AllReadyH.nil
                        · go_simp
                          refine hK.out _ _ trivial (fun hHeld => ?_)
                          clear hK K hHeld
                          (try simp only [Act.put, List.setIfInBounds_toArray, List.set_cons_zero, List.set_cons_succ, List.getElem_toArray, List.getElem_cons_succ, List.getElem_cons_zero])
                          refine gen_al (W := V14) ?_
                          intro V15 hWn
                          have HS15_ := Lib.hid (by rw [hWn]; exact HS14_.out.al _ : RSt w V15 B (M + 2 + 4) R F id x1 x2 g c xs)
                          have HE15 : Hid (∀ j u, ([.int .i64 ra, .int .i64 rb] : List Value)[j]? = some u → V15.cell? ((⟨V14.heap.size, 0, none⟩ : Addr).add j) = some u) := Lib.hid (by rw [hWn]; exact two_new rfl)
                          have hHeld : (fun _ : World => True) V15 := trivial
                          clear hWn HS14_
                          refine wpAnyH_ready (rs := [10]) (by kernel_rfl) (by simp) ?_
                          refine AllReadyH.cons rfl (fun K hK => ?_) AllReadyH.nil
                          rw [if_pos (by rfl)]
                          refine wp_append_at _ _ _ _ rfl w.heap.size 174 i0 (.agg #[.int .i64 0, .int .i64 0]) 2 16 Try.underlying61 hi hz0 hz1 hz2 rfl (by decide) (.slice (some ⟨g, 0, none⟩) xs.length c) xs.length ((xs.map evC).flatten) (by rfl) (by exact HS15_.out.evs.ownR) ⟨V14.heap.size, 0, none⟩ 1 1 [.int .i64 ra, .int .i64 rb] (by rfl) rfl HE15.out (by simp [Value.oneCell']) (by unfold maxLen; omega) (by omega) (by have := HS15_.out.dk.sz; omega) ?_
                          intro v' w7 hown' hgrow hat
                          obtain ⟨g', c', rfl, hge⟩ := own_form hown' (Nat.succ_pos _)
                          have hat2 : g' = g ∨ g' = V15.heap.size := by simpa [Value.ownBlock] using hat
                          have HZ := Lib.hid (HS15_.out.fin hlt hwF hRF hown' hgrow hat2 (by unfold inI; omega) (by unfold inI; omega))
                          have h2_7 := HZ.out.2.cell 2
                          have h3_7 := HZ.out.2.cell 3
                          have hf_7 := HZ.out.2.frozen 3
                          simp at h2_7 h3_7
                          clear hown' hgrow hat hat2
                          refine hK.out _ _ trivial (fun hHeld => ?_)
                          clear hK K
                          (try simp only [Act.put, List.setIfInBounds_toArray, List.set_cons_zero, List.set_cons_succ, List.getElem_toArray, List.getElem_cons_succ, List.getElem_cons_zero])
                          refine wpAnyH_take (i := 11) (v := ?_) rfl (by kernel_rfl) (by kernel_rfl) (by kernel_rfl) (fun _ _ _ h => h) (Or.inl ⟨by rfl, ?_⟩) (by assumption) ?_
                          rotate_left
                          · (intro w hSw; (try dsimp only at hSw); go_simp; first | done | with_reducible rfl)
                          (try simp only [Act.put, List.setIfInBounds_toArray, List.set_cons_zero, List.set_cons_succ, List.getElem_toArray, List.getElem_cons_succ, List.getElem_cons_zero])
                          refine wpAnyH_ready (rs := [12]) (by kernel_rfl) (by simp) ?_
                          refine AllReadyH.cons rfl (fun K hK => ?_) AllReadyH.nil
                          go_simp
                          refine hK.out _ _ trivial (fun hHeld => ?_)
                          clear hK K
                          (try simp only [Act.put, List.setIfInBounds_toArray, List.set_cons_zero, List.set_cons_succ, List.getElem_toArray, List.getElem_cons_succ, List.getElem_cons_zero])
                          refine wpAnyH_done (by kernel_rfl) ?_ _
                          (try go_wp2_with fail)
                          go_meet
                          exact ⟨rfl, x1, x2, g', c', xs ++ [⟨ra, rb⟩], by simp; omega, ix1, by omega, Lib.hid (HZ.out.1.le (by omega))⟩
              · go_simp
                refine hK.out _ _ trivial (fun hHeld => ?_)
                clear hK K hHeld
                (try simp only [Act.put, List.setIfInBounds_toArray, List.set_cons_zero, List.set_cons_succ, List.getElem_toArray, List.getElem_cons_succ, List.getElem_cons_zero])
                refine gen_al (W := V0) ?_
                intro V16 hWn
                have HS16_ := Lib.hid (by rw [hWn]; exact HS0_.out.al _ : RSt w V16 B (M + 2 + 0) R F id x1 x2 g c xs)
                have HL16_3 : Hid (NL V16 V0.heap.size [1, 9, 10]) := Lib.hid (by rw [hWn]; exact new_nums V0 [1, 9, 10] 3 _ rfl)
                have HN16_3 : Hid (V0.heap.size ≠ B) := Lib.hid (by have := HS0_.out.dk.cur.lt; omega)
                have hHeld : (fun _ : World => True) V16 := trivial
                clear hWn HS0_
                refine wpAnyH_ready (rs := [1, 4, 6]) (by kernel_rfl) (by simp) ?_
                refine AllReadyH.cons rfl (fun K hK => ?_) (AllReadyH.cons rfl (fun K hK => ?_) (AllReadyH.cons rfl (fun K hK => ?_) AllReadyH.nil))
                · have f3_17 := HS16_.out.f3
                  go_simp
                  refine hK.out _ _ trivial (fun hHeld => ?_)
                  clear hK K f3_17
                  (try simp only [Act.put, List.setIfInBounds_toArray, List.set_cons_zero, List.set_cons_succ, List.getElem_toArray, List.getElem_cons_succ, List.getElem_cons_zero])
                  refine wpAnyH_ready (rs := [4, 6]) (by kernel_rfl) (by simp) ?_
                  refine AllReadyH.cons rfl (fun K hK => ?_) (AllReadyH.cons rfl (fun K hK => ?_) AllReadyH.nil)
                  · go_simp
                    go_at_call 77
                    refine (amongZ_any B (M + 2 + 0) V0.heap.size 0 3 3 [1, 9, 10] _ HS16_.out.dk.cur (by omega) rfl (by omega) (by omega) HN16_3.out HL16_3.out).mono ?_
                    rintro e V18 ⟨ra, rfl, mra, hc, hg⟩
                    have bra : 1 ≤ ra ∧ ra ≤ 10 := by simp at mra; omega
                    clear mra
                    have HS18_ := Lib.hid (HS16_.out.step hlt hwR hwF hc hg)
                    clear hc hg HS16_ HL16_3
                    (try go_wp2_with fail)
                    refine hK.out _ _ trivial (fun hHeld => ?_)
                    clear hK K
                    (try simp only [Act.put, List.setIfInBounds_toArray, List.set_cons_zero, List.set_cons_succ, List.getElem_toArray, List.getElem_cons_succ, List.getElem_cons_zero])
                    refine wpAnyH_ready (rs := [6]) (by kernel_rfl) (by simp) ?_
                    refine AllReadyH.cons rfl (fun K hK => ?_) AllReadyH.nil
                    · go_simp
                      refine hK.out _ _ trivial (fun hHeld => ?_)
                      clear hK K hHeld
                      (try simp only [Act.put, List.setIfInBounds_toArray, List.set_cons_zero, List.set_cons_succ, List.getElem_toArray, List.getElem_cons_succ, List.getElem_cons_zero])
                      refine gen_al (W := V18) ?_
                      intro V19 hWn
                      have HS19_ := Lib.hid (by rw [hWn]; exact HS18_.out.al _ : RSt w V19 B (M + 2 + 2) R F id x1 x2 g c xs)
                      have HL19_6 : Hid (NL V19 V18.heap.size [0, 20000]) := Lib.hid (by rw [hWn]; exact new_nums V18 [0, 20000] 3 _ rfl)
                      have HN19_6 : Hid (V18.heap.size ≠ B) := Lib.hid (by have := HS18_.out.dk.cur.lt; omega)
                      have hHeld : (fun _ : World => True) V19 := trivial
                      clear hWn HS18_
                      refine wpAnyH_ready (rs := [7]) (by kernel_rfl) (by simp) ?_
                      refine AllReadyH.cons rfl (fun K hK => ?_) AllReadyH.nil
                      · go_simp
                        go_at_call 77
                        refine (amongZ_any B (M + 2 + 2) V18.heap.size 0 2 2 [0, 20000] _ HS19_.out.dk.cur (by omega) rfl (by omega) (by omega) HN19_6.out HL19_6.out).mono ?_
                        rintro e V20 ⟨rb, rfl, mrb, hc, hg⟩
                        have brb : 0 ≤ rb ∧ rb ≤ 20000 := by simp at mrb; omega
                        clear mrb
                        have HS20_ := Lib.hid (HS19_.out.step hlt hwR hwF hc hg)
                        clear hc hg HS19_ HL19_6
                        (try go_wp2_with fail)
                        refine hK.out _ _ trivial (fun hHeld => ?_)
                        clear hK K
                        (try simp only [Act.put, List.setIfInBounds_toArray, List.set_cons_zero, List.set_cons_succ, List.getElem_toArray, List.getElem_cons_succ, List.getElem_cons_zero])
                        refine wpAnyH_take (i := 8) (v := ?_) rfl (by kernel_rfl) (by kernel_rfl) (by kernel_rfl) (fun _ _ _ h => h) (Or.inl ⟨by rfl, ?_⟩) (by assumption) ?_
                        rotate_left
                        · (intro w hSw; (try dsimp only at hSw); go_simp; first | done | with_reducible rfl)
                        (try simp only [Act.put, List.setIfInBounds_toArray, List.set_cons_zero, List.set_cons_succ, List.getElem_toArray, List.getElem_cons_succ, List.getElem_cons_zero])
                        refine wpAnyH_ready (rs := [9]) (by kernel_rfl) (by simp) ?_
                        refine AllReadyH.cons rfl (fun K hK => ?_) AllReadyH.nil
                        · go_simp
                          refine hK.out _ _ trivial (fun hHeld => ?_)
                          clear hK K hHeld
                          (try simp only [Act.put, List.setIfInBounds_toArray, List.set_cons_zero, List.set_cons_succ, List.getElem_toArray, List.getElem_cons_succ, List.getElem_cons_zero])
                          refine gen_al (W := V20) ?_
                          intro V21 hWn
                          have HS21_ := Lib.hid (by rw [hWn]; exact HS20_.out.al _ : RSt w V21 B (M + 2 + 4) R F id x1 x2 g c xs)
                          have HE21 : Hid (∀ j u, ([.int .i64 ra, .int .i64 rb] : List Value)[j]? = some u → V21.cell? ((⟨V20.heap.size, 0, none⟩ : Addr).add j) = some u) := Lib.hid (by rw [hWn]; exact two_new rfl)
                          have hHeld : (fun _ : World => True) V21 := trivial
                          clear hWn HS20_
                          refine wpAnyH_ready (rs := [10]) (by kernel_rfl) (by simp) ?_
                          refine AllReadyH.cons rfl (fun K hK => ?_) AllReadyH.nil
                          rw [if_pos (by rfl)]
                          refine wp_append_at _ _ _ _ rfl w.heap.size 174 i0 (.agg #[.int .i64 0, .int .i64 0]) 2 16 Try.underlying61 hi hz0 hz1 hz2 rfl (by decide) (.slice (some ⟨g, 0, none⟩) xs.length c) xs.length ((xs.map evC).flatten) (by rfl) (by exact HS21_.out.evs.ownR) ⟨V20.heap.size, 0, none⟩ 1 1 [.int .i64 ra, .int .i64 rb] (by rfl) rfl HE21.out (by simp [Value.oneCell']) (by unfold maxLen; omega) (by omega) (by have := HS21_.out.dk.sz; omega) ?_
                          intro v' w7 hown' hgrow hat
                          obtain ⟨g', c', rfl, hge⟩ := own_form hown' (Nat.succ_pos _)
                          have hat2 : g' = g ∨ g' = V21.heap.size := by simpa [Value.ownBlock] using hat
                          have HZ := Lib.hid (HS21_.out.fin hlt hwF hRF hown' hgrow hat2 (by unfold inI; omega) (by unfold inI; omega))
                          have h2_7 := HZ.out.2.cell 2
                          have h3_7 := HZ.out.2.cell 3
                          have hf_7 := HZ.out.2.frozen 3
                          simp at h2_7 h3_7
                          clear hown' hgrow hat hat2
                          refine hK.out _ _ trivial (fun hHeld => ?_)
                          clear hK K
                          (try simp only [Act.put, List.setIfInBounds_toArray, List.set_cons_zero, List.set_cons_succ, List.getElem_toArray, List.getElem_cons_succ, List.getElem_cons_zero])
                          refine wpAnyH_take (i := 11) (v := ?_) rfl (by kernel_rfl) (by kernel_rfl) (by kernel_rfl) (fun _ _ _ h => h) (Or.inl ⟨by rfl, ?_⟩) (by assumption) ?_
                          rotate_left
                          · (intro w hSw; (try dsimp only at hSw); go_simp; first | done | with_reducible rfl)
                          (try simp only [Act.put, List.setIfInBounds_toArray, List.set_cons_zero, List.set_cons_succ, List.getElem_toArray, List.getElem_cons_succ, List.getElem_cons_zero])
                          refine wpAnyH_ready (rs := [12]) (by kernel_rfl) (by simp) ?_
                          refine AllReadyH.cons rfl (fun K hK => ?_) AllReadyH.nil
                          go_simp
                          refine hK.out _ _ trivial (fun hHeld => ?_)
                          clear hK K
                          (try simp only [Act.put, List.setIfInBounds_toArray, List.set_cons_zero, List.set_cons_succ, List.getElem_toArray, List.getElem_cons_succ, List.getElem_cons_zero])
                          refine wpAnyH_done (by kernel_rfl) ?_ _
                          (try go_wp2_with fail)
                          go_meet
                          exact ⟨rfl, x1, x2, g', c', xs ++ [⟨ra, rb⟩], by simp; omega, ix1, by omega, Lib.hid (HZ.out.1.le (by omega))⟩
                  · go_simp
                    refine hK.out _ _ trivial (fun hHeld => ?_)
                    clear hK K hHeld
                    (try simp only [Act.put, List.setIfInBounds_toArray, List.set_cons_zero, List.set_cons_succ, List.getElem_toArray, List.getElem_cons_succ, List.getElem_cons_zero])
                    refine gen_al (W := V16) ?_
                    intro V22 hWn
                    have HS22_ := Lib.hid (by rw [hWn]; exact HS16_.out.al _ : RSt w V22 B (M + 2 + 0) R F id x1 x2 g c xs)
                    have HL22_3 : Hid (NL V22 V0.heap.size [1, 9, 10]) := Lib.hid (by rw [hWn]; exact HL16_3.out.al _)
                    have HL22_6 : Hid (NL V22 V16.heap.size [0, 20000]) := Lib.hid (by rw [hWn]; exact new_nums V16 [0, 20000] 3 _ rfl)
                    have HN22_6 : Hid (V16.heap.size ≠ B) := Lib.hid (by have := HS16_.out.dk.cur.lt; omega)
                    have hHeld : (fun _ : World => True) V22 := trivial
                    clear hWn HS16_ HL16_3
                    refine wpAnyH_ready (rs := [4]) (by kernel_rfl) (by simp) ?_
                    refine AllReadyH.cons rfl (fun K hK => ?_) AllReadyH.nil
                    · go_simp
                      go_at_call 77
                      refine (amongZ_any B (M + 2 + 0) V0.heap.size 0 3 3 [1, 9, 10] _ HS22_.out.dk.cur (by omega) rfl (by omega) (by omega) HN16_3.out HL22_3.out).mono ?_
                      rintro e V23 ⟨ra, rfl, mra, hc, hg⟩
                      have bra : 1 ≤ ra ∧ ra ≤ 10 := by simp at mra; omega
                      clear mra
                      have HS23_ := Lib.hid (HS22_.out.step hlt hwR hwF hc hg)
                      have HL23_6 : Hid (NL V23 V16.heap.size [0, 20000]) := Lib.hid (HL22_6.out.grown hg HN22_6.out)
                      clear hc hg HS22_ HL22_3 HL22_6
                      (try go_wp2_with fail)
                      refine hK.out _ _ trivial (fun hHeld => ?_)
                      clear hK K
                      (try simp only [Act.put, List.setIfInBounds_toArray, List.set_cons_zero, List.set_cons_succ, List.getElem_toArray, List.getElem_cons_succ, List.getElem_cons_zero])
                      refine wpAnyH_ready (rs := [7]) (by kernel_rfl) (by simp) ?_
                      refine AllReadyH.cons rfl (fun K hK => ?_) AllReadyH.nil
                      · go_simp
                        go_at_call 77
                        refine (amongZ_any B (M + 2 + 2) V16.heap.size 0 2 2 [0, 20000] _ HS23_.out.dk.cur (by omega) rfl (by omega) (by omega) HN22_6.out HL23_6.out).mono ?_
                        rintro e V24 ⟨rb, rfl, mrb, hc, hg⟩
                        have brb : 0 ≤ rb ∧ rb ≤ 20000 := by simp at mrb; omega
                        clear mrb
                        have HS24_ := Lib.hid (HS23_.out.step hlt hwR hwF hc hg)
                        clear hc hg HS23_ HL23_6
                        (try go_wp2_with fail)
                        refine hK.out _ _ trivial (fun hHeld => ?_)
                        clear hK K
                        (try simp only [Act.put, List.setIfInBounds_toArray, List.set_cons_zero, List.set_cons_succ, List.getElem_toArray, List.getElem_cons_succ, List.getElem_cons_zero])
                        refine wpAnyH_take (i := 8) (v := ?_) rfl (by kernel_rfl) (by kernel_rfl) (by kernel_rfl) (fun _ _ _ h => h) (Or.inl ⟨by rfl, ?_⟩) (by assumption) ?_
                        rotate_left
                        · (intro w hSw; (try dsimp only at hSw); go_simp; first | done | with_reducible rfl)
                        (try simp only [Act.put, List.setIfInBounds_toArray, List.set_cons_zero, List.set_cons_succ, List.getElem_toArray, List.getElem_cons_succ, List.getElem_cons_zero])
                        refine wpAnyH_ready (rs := [9]) (by kernel_rfl) (by simp) ?_
                        refine AllReadyH.cons rfl (fun K hK => ?_) AllReadyH.nil
                        · go_simp
                          refine hK.out _ _ trivial (fun hHeld => ?_)
                          clear hK K hHeld
                          (try simp only [Act.put, List.setIfInBounds_toArray, List.set_cons_zero, List.set_cons_succ, List.getElem_toArray, List.getElem_cons_succ, List.getElem_cons_zero])
                          refine gen_al (W := V24) ?_
                          intro V25 hWn
                          have HS25_ := Lib.hid (by rw [hWn]; exact HS24_.out.al _ : RSt w V25 B (M + 2 + 4) R F id x1 x2 g c xs)
                          have HE25 : Hid (∀ j u, ([.int .i64 ra, .int .i64 rb] : List Value)[j]? = some u → V25.cell? ((⟨V24.heap.size, 0, none⟩ : Addr).add j) = some u) := Lib.hid (by rw [hWn]; exact two_new rfl)
                          have hHeld : (fun _ : World => True) V25 := trivial
                          clear hWn HS24_
                          refine wpAnyH_ready (rs := [10]) (by kernel_rfl) (by simp) ?_
                          refine AllReadyH.cons rfl (fun K hK => ?_) AllReadyH.nil
                          rw [if_pos (by rfl)]
                          refine wp_append_at _ _ _ _ rfl w.heap.size 174 i0 (.agg #[.int .i64 0, .int .i64 0]) 2 16 Try.underlying61 hi hz0 hz1 hz2 rfl (by decide) (.slice (some ⟨g, 0, none⟩) xs.length c) xs.length ((xs.map evC).flatten) (by rfl) (by exact HS25_.out.evs.ownR) ⟨V24.heap.size, 0, none⟩ 1 1 [.int .i64 ra, .int .i64 rb] (by rfl) rfl HE25.out (by simp [Value.oneCell']) (by unfold maxLen; omega) (by omega) (by have := HS25_.out.dk.sz; omega) ?_
                          intro v' w7 hown' hgrow hat
                          obtain ⟨g', c', rfl, hge⟩ := own_form hown' (Nat.succ_pos _)
                          have hat2 : g' = g ∨ g' = V25.heap.size := by simpa [Value.ownBlock] using hat
                          have HZ := Lib.hid (HS25_.out.fin hlt hwF hRF hown' hgrow hat2 (by unfold inI; omega) (by unfold inI; omega))
                          have h2_7 := HZ.out.2.cell 2
                          have h3_7 := HZ.out.2.cell 3
                          have hf_7 := HZ.out.2.frozen 3
                          simp at h2_7 h3_7
                          clear hown' hgrow hat hat2
                          refine hK.out _ _ trivial (fun hHeld => ?_)
                          clear hK K
                          (try simp only [Act.put, List.setIfInBounds_toArray, List.set_cons_zero, List.set_cons_succ, List.getElem_toArray, List.getElem_cons_succ, List.getElem_cons_zero])
                          refine wpAnyH_take (i := 11) (v := ?_) rfl (by kernel_rfl) (by kernel_rfl) (by kernel_rfl) (fun _ _ _ h => h) (Or.inl ⟨by rfl, ?_⟩) (by assumption) ?_
                          rotate_left
                          · (intro w hSw; (try dsimp only at hSw); go_simp; first | done | with_reducible rfl)
                          (try simp only [Act.put, List.setIfInBounds_toArray, List.set_cons_zero, List.set_cons_succ, List.getElem_toArray, List.getElem_cons_succ, List.getElem_cons_zero])
                          refine wpAnyH_ready (rs := [12]) (by kernel_rfl) (by simp) ?_
                          refine AllReadyH.cons rfl (fun K hK => ?_) AllReadyH.nil
                          go_simp
                          refine hK.out _ _ trivial (fun hHeld => ?_)
                          clear hK K
                          (try simp only [Act.put, List.setIfInBounds_toArray, List.set_cons_zero, List.set_cons_succ, List.getElem_toArray, List.getElem_cons_succ, List.getElem_cons_zero])
                          refine wpAnyH_done (by kernel_rfl) ?_ _
                          (try go_wp2_with fail)
                          go_meet
                          exact ⟨rfl, x1, x2, g', c', xs ++ [⟨ra, rb⟩], by simp; omega, ix1, by omega, Lib.hid (HZ.out.1.le (by omega))⟩
                · go_simp
                  go_at_call 77
                  refine (amongZ_any B (M + 2 + 0) V0.heap.size 0 3 3 [1, 9, 10] _ HS16_.out.dk.cur (by omega) rfl (by omega) (by omega) HN16_3.out HL16_3.out).mono ?_
                  rintro e V26 ⟨ra, rfl, mra, hc, hg⟩
                  have bra : 1 ≤ ra ∧ ra ≤ 10 := by simp at mra; omega
                  clear mra
                  have HS26_ := Lib.hid (HS16_.out.step hlt hwR hwF hc hg)
                  clear hc hg HS16_ HL16_3
                  (try go_wp2_with fail)
                  refine hK.out _ _ trivial (fun hHeld => ?_)
                  clear hK K
                  (try simp only [Act.put, List.setIfInBounds_toArray, List.set_cons_zero, List.set_cons_succ, List.getElem_toArray, List.getElem_cons_succ, List.getElem_cons_zero])
                  refine wpAnyH_ready (rs := [1, 6]) (by kernel_rfl) (by simp) ?_
                  refine AllReadyH.cons rfl (fun K hK => ?_) (AllReadyH.cons rfl (fun K hK => ?_) AllReadyH.nil)
                  · have f3_27 := HS26_.out.f3
                    go_simp
                    refine hK.out _ _ trivial (fun hHeld => ?_)
                    clear hK K f3_27
                    (try simp only [Act.put, List.setIfInBounds_toArray, List.set_cons_zero, List.set_cons_succ, List.getElem_toArray, List.getElem_cons_succ, List.getElem_cons_zero])
                    refine wpAnyH_ready (rs := [6]) (by kernel_rfl) (by simp) ?_
                    refine AllReadyH.cons rfl (fun K hK => ?_) AllReadyH.nil
                    · go_simp
                      refine hK.out _ _ trivial (fun hHeld => ?_)
                      clear hK K hHeld
                      (try simp only [Act.put, List.setIfInBounds_toArray, List.set_cons_zero, List.set_cons_succ, List.getElem_toArray, List.getElem_cons_succ, List.getElem_cons_zero])
                      refine gen_al (W := V26) ?_
                      intro V28 hWn
                      have HS28_ := Lib.hid (by rw [hWn]; exact HS26_.out.al _ : RSt w V28 B (M + 2 + 2) R F id x1 x2 g c xs)
                      have HL28_6 : Hid (NL V28 V26.heap.size [0, 20000]) := Lib.hid (by rw [hWn]; exact new_nums V26 [0, 20000] 3 _ rfl)
                      have HN28_6 : Hid (V26.heap.size ≠ B) := Lib.hid (by have := HS26_.out.dk.cur.lt; omega)
                      have hHeld : (fun _ : World => True) V28 := trivial
                      clear hWn HS26_
                      refine wpAnyH_ready (rs := [7]) (by kernel_rfl) (by simp) ?_
                      refine AllReadyH.cons rfl (fun K hK => ?_) AllReadyH.nil
                      · go_simp
                        go_at_call 77
                        refine (amongZ_any B (M + 2 + 2) V26.heap.size 0 2 2 [0, 20000] _ HS28_.out.dk.cur (by omega) rfl (by omega) (by omega) HN28_6.out HL28_6.out).mono ?_
                        rintro e V29 ⟨rb, rfl, mrb, hc, hg⟩
                        have brb : 0 ≤ rb ∧ rb ≤ 20000 := by simp at mrb; omega
                        clear mrb
                        have HS29_ := Lib.hid (HS28_.out.step hlt hwR hwF hc hg)
                        clear hc hg HS28_ HL28_6
                        (try go_wp2_with fail)
                        refine hK.out _ _ trivial (fun hHeld => ?_)
                        clear hK K
                        (try simp only [Act.put, List.setIfInBounds_toArray, List.set_cons_zero, List.set_cons_succ, List.getElem_toArray, List.getElem_cons_succ, List.getElem_cons_zero])
                        refine wpAnyH_take (i := 8) (v := ?_) rfl (by kernel_rfl) (by kernel_rfl) (by kernel_rfl) (fun _ _ _ h => h) (Or.inl ⟨by rfl, ?_⟩) (by assumption) ?_
                        rotate_left
                        · (intro w hSw; (try dsimp only at hSw); go_simp; first | done | with_reducible rfl)
                        (try simp only [Act.put, List.setIfInBounds_toArray, List.set_cons_zero, List.set_cons_succ, List.getElem_toArray, List.getElem_cons_succ, List.getElem_cons_zero])
                        refine wpAnyH_ready (rs := [9]) (by kernel_rfl) (by simp) ?_
                        refine AllReadyH.cons rfl (fun K hK => ?_) AllReadyH.nil
                        · go_simp
                          refine hK.out _ _ trivial (fun hHeld => ?_)
                          clear hK K hHeld
                          (try simp only [Act.put, List.setIfInBounds_toArray, List.set_cons_zero, List.set_cons_succ, List.getElem_toArray, List.getElem_cons_succ, List.getElem_cons_zero])
                          refine gen_al (W := V29) ?_
                          intro V30 hWn
                          have HS30_ := Lib.hid (by rw [hWn]; exact HS29_.out.al _ : RSt w V30 B (M + 2 + 4) R F id x1 x2 g c xs)
                          have HE30 : Hid (∀ j u, ([.int .i64 ra, .int .i64 rb] : List Value)[j]? = some u → V30.cell? ((⟨V29.heap.size, 0, none⟩ : Addr).add j) = some u) := Lib.hid (by rw [hWn]; exact two_new rfl)
                          have hHeld : (fun _ : World => True) V30 := trivial
                          clear hWn HS29_
                          refine wpAnyH_ready (rs := [10]) (by kernel_rfl) (by simp) ?_
                          refine AllReadyH.cons rfl (fun K hK => ?_) AllReadyH.nil
                          rw [if_pos (by rfl)]
                          refine wp_append_at _ _ _ _ rfl w.heap.size 174 i0 (.agg #[.int .i64 0, .int .i64 0]) 2 16 Try.underlying61 hi hz0 hz1 hz2 rfl (by decide) (.slice (some ⟨g, 0, none⟩) xs.length c) xs.length ((xs.map evC).flatten) (by rfl) (by exact HS30_.out.evs.ownR) ⟨V29.heap.size, 0, none⟩ 1 1 [.int .i64 ra, .int .i64 rb] (by rfl) rfl HE30.out (by simp [Value.oneCell']) (by unfold maxLen; omega) (by omega) (by have := HS30_.out.dk.sz; omega) ?_
                          intro v' w7 hown' hgrow hat
                          obtain ⟨g', c', rfl, hge⟩ := own_form hown' (Nat.succ_pos _)
                          have hat2 : g' = g ∨ g' = V30.heap.size := by simpa [Value.ownBlock] using hat
                          have HZ := Lib.hid (HS30_.out.fin hlt hwF hRF hown' hgrow hat2 (by unfold inI; omega) (by unfold inI; omega))
                          have h2_7 := HZ.out.2.cell 2
                          have h3_7 := HZ.out.2.cell 3
                          have hf_7 := HZ.out.2.frozen 3
                          simp at h2_7 h3_7
                          clear hown' hgrow hat hat2
                          refine hK.out _ _ trivial (fun hHeld => ?_)
                          clear hK K
                          (try simp only [Act.put, List.setIfInBounds_toArray, List.set_cons_zero, List.set_cons_succ, List.getElem_toArray, List.getElem_cons_succ, List.getElem_cons_zero])
                          refine wpAnyH_take (i := 11) (v := ?_) rfl (by kernel_rfl) (by kernel_rfl) (by kernel_rfl) (fun _ _ _ h => h) (Or.inl ⟨by rfl, ?_⟩) (by assumption) ?_
                          rotate_left
                          · (intro w hSw; (try dsimp only at hSw); go_simp; first | done | with_reducible rfl)
                          (try simp only [Act.put, List.setIfInBounds_toArray, List.set_cons_zero, List.set_cons_succ, List.getElem_toArray, List.getElem_cons_succ, List.getElem_cons_zero])
                          refine wpAnyH_ready (rs := [12]) (by kernel_rfl) (by simp) ?_
                          refine AllReadyH.cons rfl (fun K hK => ?_) AllReadyH.nil
                          go_simp
                          refine hK.out _ _ trivial (fun hHeld => ?_)
                          clear hK K
                          (try simp only [Act.put, List.setIfInBounds_toArray, List.set_cons_zero, List.set_cons_succ, List.getElem_toArray, List.getElem_cons_succ, List.getElem_cons_zero])
                          refine wpAnyH_done (by kernel_rfl) ?_ _
                          (try go_wp2_with fail)
                          go_meet
                          exact ⟨rfl, x1, x2, g', c', xs ++ [⟨ra, rb⟩], by simp; omega, ix1, by omega, Lib.hid (HZ.out.1.le (by omega))⟩
                  · go_simp
                    refine hK.out _ _ trivial (fun hHeld => ?_)
                    clear hK K hHeld
                    (try simp only [Act.put, List.setIfInBounds_toArray, List.set_cons_zero, List.set_cons_succ, List.getElem_toArray, List.getElem_cons_succ, List.getElem_cons_zero])
                    refine gen_al (W := V26) ?_
                    intro V31 hWn
                    have HS31_ := Lib.hid (by rw [hWn]; exact HS26_.out.al _ : RSt w V31 B (M + 2 + 2) R F id x1 x2 g c xs)
                    have HL31_6 : Hid (NL V31 V26.heap.size [0, 20000]) := Lib.hid (by rw [hWn]; exact new_nums V26 [0, 20000] 3 _ rfl)
                    have HN31_6 : Hid (V26.heap.size ≠ B) := Lib.hid (by have := HS26_.out.dk.cur.lt; omega)
                    have hHeld : (fun _ : World => True) V31 := trivial
                    clear hWn HS26_
                    refine wpAnyH_ready (rs := [1, 7]) (by kernel_rfl) (by simp) ?_
                    refine AllReadyH.cons rfl (fun K hK => ?_) (AllReadyH.cons rfl (fun K hK => ?_) AllReadyH.nil)
                    · have f3_32 := HS31_.out.f3
                      go_simp
                      refine hK.out _ _ trivial (fun hHeld => ?_)
                      clear hK K f3_32
                      (try simp only [Act.put, List.setIfInBounds_toArray, List.set_cons_zero, List.set_cons_succ, List.getElem_toArray, List.getElem_cons_succ, List.getElem_cons_zero])
                      refine wpAnyH_ready (rs := [7]) (by kernel_rfl) (by simp) ?_
                      refine AllReadyH.cons rfl (fun K hK => ?_) AllReadyH.nil
                      · go_simp
                        go_at_call 77
                        refine (amongZ_any B (M + 2 + 2) V26.heap.size 0 2 2 [0, 20000] _ HS31_.out.dk.cur (by omega) rfl (by omega) (by omega) HN31_6.out HL31_6.out).mono ?_
                        rintro e V33 ⟨rb, rfl, mrb, hc, hg⟩
                        have brb : 0 ≤ rb ∧ rb ≤ 20000 := by simp at mrb; omega
                        clear mrb
                        have HS33_ := Lib.hid (HS31_.out.step hlt hwR hwF hc hg)
                        clear hc hg HS31_ HL31_6
                        (try go_wp2_with fail)
                        refine hK.out _ _ trivial (fun hHeld => ?_)
                        clear hK K
                        (try simp only [Act.put, List.setIfInBounds_toArray, List.set_cons_zero, List.set_cons_succ, List.getElem_toArray, List.getElem_cons_succ, List.getElem_cons_zero])
                        refine wpAnyH_take (i := 8) (v := ?_) rfl (by kernel_rfl) (by kernel_rfl) (by kernel_rfl) (fun _ _ _ h => h) (Or.inl ⟨by rfl, ?_⟩) (by assumption) ?_
                        rotate_left
                        · (intro w hSw; (try dsimp only at hSw); go_simp; first | done | with_reducible rfl)
                        (try simp only [Act.put, List.setIfInBounds_toArray, List.set_cons_zero, List.set_cons_succ, List.getElem_toArray, List.getElem_cons_succ, List.getElem_cons_zero])
                        refine wpAnyH_ready (rs := [9]) (by kernel_rfl) (by simp) ?_
                        refine AllReadyH.cons rfl (fun K hK => ?_) AllReadyH.nil
                        · go_simp
                          refine hK.out _ _ trivial (fun hHeld => ?_)
                          clear hK K hHeld
                          (try simp only [Act.put, List.setIfInBounds_toArray, List.set_cons_zero, List.set_cons_succ, List.getElem_toArray, List.getElem_cons_succ, List.getElem_cons_zero])
                          refine gen_al (W := V33) ?_
                          intro V34 hWn
                          have HS34_ := Lib.hid (by rw [hWn]; exact HS33_.out.al _ : RSt w V34 B (M + 2 + 4) R F id x1 x2 g c xs)
                          have HE34 : Hid (∀ j u, ([.int .i64 ra, .int .i64 rb] : List Value)[j]? = some u → V34.cell? ((⟨V33.heap.size, 0, none⟩ : Addr).add j) = some u) := Lib.hid (by rw [hWn]; exact two_new rfl)
                          have hHeld : (fun _ : World => True) V34 := trivial
                          clear hWn HS33_
                          refine wpAnyH_ready (rs := [10]) (by kernel_rfl) (by simp) ?_
                          refine AllReadyH.cons rfl (fun K hK => ?_) AllReadyH.nil
                          rw [if_pos (by rfl)]
                          refine wp_append_at _ _ _ _ rfl w.heap.size 174 i0 (.agg #[.int .i64 0, .int .i64 0]) 2 16 Try.underlying61 hi hz0 hz1 hz2 rfl (by decide) (.slice (some ⟨g, 0, none⟩) xs.length c) xs.length ((xs.map evC).flatten) (by rfl) (by exact HS34_.out.evs.ownR) ⟨V33.heap.size, 0, none⟩ 1 1 [.int .i64 ra, .int .i64 rb] (by rfl) rfl HE34.out (by simp [Value.oneCell']) (by unfold maxLen; omega) (by omega) (by have := HS34_.out.dk.sz; omega) ?_
                          intro v' w7 hown' hgrow hat
                          obtain ⟨g', c', rfl, hge⟩ := own_form hown' (Nat.succ_pos _)
                          have hat2 : g' = g ∨ g' = V34.heap.size := by simpa [Value.ownBlock] using hat
                          have HZ := Lib.hid (HS34_.out.fin hlt hwF hRF hown' hgrow hat2 (by unfold inI; omega) (by unfold inI; omega))
                          have h2_7 := HZ.out.2.cell 2
                          have h3_7 := HZ.out.2.cell 3
                          have hf_7 := HZ.out.2.frozen 3
                          simp at h2_7 h3_7
                          clear hown' hgrow hat hat2
                          refine hK.out _ _ trivial (fun hHeld => ?_)
                          clear hK K
                          (try simp only [Act.put, List.setIfInBounds_toArray, List.set_cons_zero, List.set_cons_succ, List.getElem_toArray, List.getElem_cons_succ, List.getElem_cons_zero])
                          refine wpAnyH_take (i := 11) (v := ?_) rfl (by kernel_rfl) (by kernel_rfl) (by kernel_rfl) (fun _ _ _ h => h) (Or.inl ⟨by rfl, ?_⟩) (by assumption) ?_
                          rotate_left
                          · (intro w hSw; (try dsimp only at hSw); go_simp; first | done | with_reducible rfl)
                          (try simp only [Act.put, List.setIfInBounds_toArray, List.set_cons_zero, List.set_cons_succ, List.getElem_toArray, List.getElem_cons_succ, List.getElem_cons_zero])
                          refine wpAnyH_ready (rs := [12]) (by kernel_rfl) (by simp) ?_
                          refine AllReadyH.cons rfl (fun K hK => ?_) AllReadyH.nil
                          go_simp
                          refine hK.out _ _ trivial (fun hHeld => ?_)
                          clear hK K
                          (try simp only [Act.put, List.setIfInBounds_toArray, List.set_cons_zero, List.set_cons_succ, List.getElem_toArray, List.getElem_cons_succ, List.getElem_cons_zero])
                          refine wpAnyH_done (by kernel_rfl) ?_ _
                          (try go_wp2_with fail)
                          go_meet
                          exact ⟨rfl, x1, x2, g', c', xs ++ [⟨ra, rb⟩], by simp; omega, ix1, by omega, Lib.hid (HZ.out.1.le (by omega))⟩
                    · go_simp
                      go_at_call 77
                      refine (amongZ_any B (M + 2 + 2) V26.heap.size 0 2 2 [0, 20000] _ HS31_.out.dk.cur (by omega) rfl (by omega) (by omega) HN31_6.out HL31_6.out).mono ?_
                      rintro e V35 ⟨rb, rfl, mrb, hc, hg⟩
                      have brb : 0 ≤ rb ∧ rb ≤ 20000 := by simp at mrb; omega
                      clear mrb
                      have HS35_ := Lib.hid (HS31_.out.step hlt hwR hwF hc hg)
                      clear hc hg HS31_ HL31_6
                      (try go_wp2_with fail)
                      refine hK.out _ _ trivial (fun hHeld => ?_)
                      clear hK K
                      (try simp only [Act.put, List.setIfInBounds_toArray, List.set_cons_zero, List.set_cons_succ, List.getElem_toArray, List.getElem_cons_succ, List.getElem_cons_zero])
                      refine wpAnyH_take (i := 8) (v := ?_) rfl (by kernel_rfl) (by kernel_rfl) (by kernel_rfl) (fun _ _ _ h => h) (Or.inl ⟨by rfl, ?_⟩) (by assumption) ?_
                      rotate_left
                      · (intro w hSw; (try dsimp only at hSw); go_simp; first | done | with_reducible rfl)
                      (try simp only [Act.put, List.setIfInBounds_toArray, List.set_cons_zero, List.set_cons_succ, List.getElem_toArray, List.getElem_cons_succ, List.getElem_cons_zero])
                      refine wpAnyH_ready (rs := [1, 9]) (by kernel_rfl) (by simp) ?_
                      refine AllReadyH.cons rfl (fun K hK => ?_) (AllReadyH.cons rfl (fun K hK => ?_) AllReadyH.nil)
                      · have f3_36 := HS35_.out.f3
                        go_simp
                        refine hK.out _ _ trivial (fun hHeld => ?_)
                        clear hK K f3_36
                        (try simp only [Act.put, List.setIfInBounds_toArray, List.set_cons_zero, List.set_cons_succ, List.getElem_toArray, List.getElem_cons_succ, List.getElem_cons_zero])
                        refine wpAnyH_ready (rs := [9]) (by kernel_rfl) (by simp) ?_
                        refine AllReadyH.cons rfl (fun K hK => ?_) AllReadyH.nil
                        · go_simp
                          refine hK.out _ _ trivial (fun hHeld => ?_)
                          clear hK K hHeld
                          (try simp only [Act.put, List.setIfInBounds_toArray, List.set_cons_zero, List.set_cons_succ, List.getElem_toArray, List.getElem_cons_succ, List.getElem_cons_zero])
                          refine gen_al (W := V35) ?_
                          intro V37 hWn
                          have HS37_ := Lib.hid (by rw [hWn]; exact HS35_.out.al _ : RSt w V37 B (M + 2 + 4) R F id x1 x2 g c xs)
                          have HE37 : Hid (∀ j u, ([.int .i64 ra, .int .i64 rb] : List Value)[j]? = some u → V37.cell? ((⟨V35.heap.size, 0, none⟩ : Addr).add j) = some u) := Lib.hid (by rw [hWn]; exact two_new rfl)
                          have hHeld : (fun _ : World => True) V37 := trivial
                          clear hWn HS35_
                          refine wpAnyH_ready (rs := [10]) (by kernel_rfl) (by simp) ?_
                          refine AllReadyH.cons rfl (fun K hK => ?_) AllReadyH.nil
                          rw [if_pos (by rfl)]
                          refine wp_append_at _ _ _ _ rfl w.heap.size 174 i0 (.agg #[.int .i64 0, .int .i64 0]) 2 16 Try.underlying61 hi hz0 hz1 hz2 rfl (by decide) (.slice (some ⟨g, 0, none⟩) xs.length c) xs.length ((xs.map evC).flatten) (by rfl) (by exact HS37_.out.evs.ownR) ⟨V35.heap.size, 0, none⟩ 1 1 [.int .i64 ra, .int .i64 rb] (by rfl) rfl HE37.out (by simp [Value.oneCell']) (by unfold maxLen; omega) (by omega) (by have := HS37_.out.dk.sz; omega) ?_
                          intro v' w7 hown' hgrow hat
                          obtain ⟨g', c', rfl, hge⟩ := own_form hown' (Nat.succ_pos _)
                          have hat2 : g' = g ∨ g' = V37.heap.size := by simpa [Value.ownBlock] using hat
                          have HZ := Lib.hid (HS37_.out.fin hlt hwF hRF hown' hgrow hat2 (by unfold inI; omega) (by unfold inI; omega))
                          have h2_7 := HZ.out.2.cell 2
                          have h3_7 := HZ.out.2.cell 3
                          have hf_7 := HZ.out.2.frozen 3
                          simp at h2_7 h3_7
                          clear hown' hgrow hat hat2
                          refine hK.out _ _ trivial (fun hHeld => ?_)
                          clear hK K
                          (try simp only [Act.put, List.setIfInBounds_toArray, List.set_cons_zero, List.set_cons_succ, List.getElem_toArray, List.getElem_cons_succ, List.getElem_cons_zero])
                          refine wpAnyH_take (i := 11) (v := ?_) rfl (by kernel_rfl) (by kernel_rfl) (by kernel_rfl) (fun _ _ _ h => h) (Or.inl ⟨by rfl, ?_⟩) (by assumption) ?_
                          rotate_left
                          · (intro w hSw; (try dsimp only at hSw); go_simp; first | done | with_reducible rfl)
                          (try simp only [Act.put, List.setIfInBounds_toArray, List.set_cons_zero, List.set_cons_succ, List.getElem_toArray, List.getElem_cons_succ, List.getElem_cons_zero])
                          refine wpAnyH_ready (rs := [12]) (by kernel_rfl) (by simp) ?_
                          refine AllReadyH.cons rfl (fun K hK => ?_) AllReadyH.nil
                          go_simp
                          refine hK.out _ _ trivial (fun hHeld => ?_)
                          clear hK K
                          (try simp only [Act.put, List.setIfInBounds_toArray, List.set_cons_zero, List.set_cons_succ, List.getElem_toArray, List.getElem_cons_succ, List.getElem_cons_zero])
                          refine wpAnyH_done (by kernel_rfl) ?_ _
                          (try go_wp2_with fail)
                          go_meet
                          exact ⟨rfl, x1, x2, g', c', xs ++ [⟨ra, rb⟩], by simp; omega, ix1, by omega, Lib.hid (HZ.out.1.le (by omega))⟩
                      · go_simp
                        refine hK.out _ _ trivial (fun hHeld => ?_)
                        clear hK K hHeld
                        (try simp only [Act.put, List.setIfInBounds_toArray, List.set_cons_zero, List.set_cons_succ, List.getElem_toArray, List.getElem_cons_succ, List.getElem_cons_zero])
                        refine gen_al (W := V35) ?_
                        intro V38 hWn
                        have HS38_ := Lib.hid (by rw [hWn]; exact HS35_.out.al _ : RSt w V38 B (M + 2 + 4) R F id x1 x2 g c xs)
                        have HE38 : Hid (∀ j u, ([.int .i64 ra, .int .i64 rb] : List Value)[j]? = some u → V38.cell? ((⟨V35.heap.size, 0, none⟩ : Addr).add j) = some u) := Lib.hid (by rw [hWn]; exact two_new rfl)
                        have hHeld : (fun _ : World => True) V38 := trivial
                        clear hWn HS35_
                        refine wpAnyH_ready (rs := [1]) (by kernel_rfl) (by simp) ?_
                        refine AllReadyH.cons rfl (fun K hK => ?_) AllReadyH.nil
                        · have f3_39 := HS38_.out.f3
                          go_simp
                          refine hK.out _ _ trivial (fun hHeld => ?_)
                          clear hK K f3_39
                          (try simp only [Act.put, List.setIfInBounds_toArray, List.set_cons_zero, List.set_cons_succ, List.getElem_toArray, List.getElem_cons_succ, List.getElem_cons_zero])
                          refine wpAnyH_ready (rs := [10]) (by kernel_rfl) (by simp) ?_
                          refine AllReadyH.cons rfl (fun K hK => ?_) AllReadyH.nil
                          rw [if_pos (by rfl)]
                          refine wp_append_at _ _ _ _ rfl w.heap.size 174 i0 (.agg #[.int .i64 0, .int .i64 0]) 2 16 Try.underlying61 hi hz0 hz1 hz2 rfl (by decide) (.slice (some ⟨g, 0, none⟩) xs.length c) xs.length ((xs.map evC).flatten) (by rfl) (by exact HS38_.out.evs.ownR) ⟨V35.heap.size, 0, none⟩ 1 1 [.int .i64 ra, .int .i64 rb] (by rfl) rfl HE38.out (by simp [Value.oneCell']) (by unfold maxLen; omega) (by omega) (by have := HS38_.out.dk.sz; omega) ?_
                          intro v' w7 hown' hgrow hat
                          obtain ⟨g', c', rfl, hge⟩ := own_form hown' (Nat.succ_pos _)
                          have hat2 : g' = g ∨ g' = V38.heap.size := by simpa [Value.ownBlock] using hat
                          have HZ := Lib.hid (HS38_.out.fin hlt hwF hRF hown' hgrow hat2 (by unfold inI; omega) (by unfold inI; omega))
                          have h2_7 := HZ.out.2.cell 2
                          have h3_7 := HZ.out.2.cell 3
                          have hf_7 := HZ.out.2.frozen 3
                          simp at h2_7 h3_7
                          clear hown' hgrow hat hat2
                          refine hK.out _ _ trivial (fun hHeld => ?_)
                          clear hK K
                          (try simp only [Act.put, List.setIfInBounds_toArray, List.set_cons_zero, List.set_cons_succ, List.getElem_toArray, List.getElem_cons_succ, List.getElem_cons_zero])
                          refine wpAnyH_take (i := 11) (v := ?_) rfl (by kernel_rfl) (by kernel_rfl) (by kernel_rfl) (fun _ _ _ h => h) (Or.inl ⟨by rfl, ?_⟩) (by assumption) ?_
                          rotate_left
                          · (intro w hSw; (try dsimp only at hSw); go_simp; first | done | with_reducible rfl)
                          (try simp only [Act.put, List.setIfInBounds_toArray, List.set_cons_zero, List.set_cons_succ, List.getElem_toArray, List.getElem_cons_succ, List.getElem_cons_zero])
                          refine wpAnyH_ready (rs := [12]) (by kernel_rfl) (by simp) ?_
                          refine AllReadyH.cons rfl (fun K hK => ?_) AllReadyH.nil
                          go_simp
                          refine hK.out _ _ trivial (fun hHeld => ?_)
                          clear hK K
                          (try simp only [Act.put, List.setIfInBounds_toArray, List.set_cons_zero, List.set_cons_succ, List.getElem_toArray, List.getElem_cons_succ, List.getElem_cons_zero])
                          refine wpAnyH_done (by kernel_rfl) ?_ _
                          (try go_wp2_with fail)
                          go_meet
                          exact ⟨rfl, x1, x2, g', c', xs ++ [⟨ra, rb⟩], by simp; omega, ix1, by omega, Lib.hid (HZ.out.1.le (by omega))⟩
                · go_simp
                  refine hK.out _ _ trivial (fun hHeld => ?_)
                  clear hK K hHeld
                  (try simp only [Act.put, List.setIfInBounds_toArray, List.set_cons_zero, List.set_cons_succ, List.getElem_toArray, List.getElem_cons_succ, List.getElem_cons_zero])
                  refine gen_al (W := V16) ?_
                  intro V40 hWn
                  have HS40_ := Lib.hid (by rw [hWn]; exact HS16_.out.al _ : RSt w V40 B (M + 2 + 0) R F id x1 x2 g c xs)
                  have HL40_3 : Hid (NL V40 V0.heap.size [1, 9, 10]) := Lib.hid (by rw [hWn]; exact HL16_3.out.al _)
                  have HL40_6 : Hid (NL V40 V16.heap.size [0, 20000]) := Lib.hid (by rw [hWn]; exact new_nums V16 [0, 20000] 3 _ rfl)
                  have HN40_6 : Hid (V16.heap.size ≠ B) := Lib.hid (by have := HS16_.out.dk.cur.lt; omega)
                  have hHeld : (fun _ : World => True) V40 := trivial
                  clear hWn HS16_ HL16_3
                  refine wpAnyH_ready (rs := [1, 4]) (by kernel_rfl) (by simp) ?_
                  refine AllReadyH.cons rfl (fun K hK => ?_) (AllReadyH.cons rfl (fun K hK => ?_) AllReadyH.nil)
                  · have f3_41 := HS40_.out.f3
                    go_simp
                    refine hK.out _ _ trivial (fun hHeld => ?_)
                    clear hK K f3_41
                    (try simp only [Act.put, List.setIfInBounds_toArray, List.set_cons_zero, List.set_cons_succ, List.getElem_toArray, List.getElem_cons_succ, List.getElem_cons_zero])
                    refine wpAnyH_ready (rs := [4]) (by kernel_rfl) (by simp) ?_
                    refine AllReadyH.cons rfl (fun K hK => ?_) AllReadyH.nil
                    · go_simp
                      go_at_call 77
                      refine (amongZ_any B (M + 2 + 0) V0.heap.size 0 3 3 [1, 9, 10] _ HS40_.out.dk.cur (by omega) rfl (by omega) (by omega) HN16_3.out HL40_3.out).mono ?_
                      rintro e V42 ⟨ra, rfl, mra, hc, hg⟩
                      have bra : 1 ≤ ra ∧ ra ≤ 10 := by simp at mra; omega
                      clear mra
                      have HS42_ := Lib.hid (HS40_.out.step hlt hwR hwF hc hg)
                      have HL42_6 : Hid (NL V42 V16.heap.size [0, 20000]) := Lib.hid (HL40_6.out.grown hg HN40_6.out)
                      clear hc hg HS40_ HL40_3 HL40_6
                      (try go_wp2_with fail)
                      refine hK.out _ _ trivial (fun hHeld => ?_)
                      clear hK K
                      (try simp only [Act.put, List.setIfInBounds_toArray, List.set_cons_zero, List.set_cons_succ, List.getElem_toArray, List.getElem_cons_succ, List.getElem_cons_zero])
                      refine wpAnyH_ready (rs := [7]) (by kernel_rfl) (by simp) ?_
                      refine AllReadyH.cons rfl (fun K hK => ?_) AllReadyH.nil
                      · go_simp
                        go_at_call 77
                        refine (amongZ_any B (M + 2 + 2) V16.heap.size 0 2 2 [0, 20000] _ HS42_.out.dk.cur (by omega) rfl (by omega) (by omega) HN40_6.out HL42_6.out).mono ?_
                        rintro e V43 ⟨rb, rfl, mrb, hc, hg⟩
                        have brb : 0 ≤ rb ∧ rb ≤ 20000 := by simp at mrb; omega
                        clear mrb
                        have HS43_ := Lib.hid (HS42_.out.step hlt hwR hwF hc hg)
                        clear hc hg HS42_ HL42_6
                        (try go_wp2_with fail)
                        refine hK.out _ _ trivial (fun hHeld => ?_)
                        clear hK K
                        (try simp only [Act.put, List.setIfInBounds_toArray, List.set_cons_zero, List.set_cons_succ, List.getElem_toArray, List.getElem_cons_succ, List.getElem_cons_zero])
                        refine wpAnyH_take (i := 8) (v := ?_) rfl (by kernel_rfl) (by kernel_rfl) (by kernel_rfl) (fun _ _ _ h => h) (Or.inl ⟨by rfl, ?_⟩) (by assumption) ?_
                        rotate_left
                        · (intro w hSw; (try dsimp only at hSw); go_simp; first | done | with_reducible rfl)
                        (try simp only [Act.put, List.setIfInBounds_toArray, List.set_cons_zero, List.set_cons_succ, List.getElem_toArray, List.getElem_cons_succ, List.getElem_cons_zero])
                        refine wpAnyH_ready (rs := [9]) (by kernel_rfl) (by simp) ?_
                        refine AllReadyH.cons rfl (fun K hK => ?_) AllReadyH.nil
                        · go_simp
                          refine hK.out _ _ trivial (fun hHeld => ?_)
                          clear hK K hHeld
                          (try simp only [Act.put, List.setIfInBounds_toArray, List.set_cons_zero, List.set_cons_succ, List.getElem_toArray, List.getElem_cons_succ, List.getElem_cons_zero])
                          refine gen_al (W := V43) ?_
                          intro V44 hWn
                          have HS44_ := Lib.hid (by rw [hWn]; exact HS43_.out.al _ : RSt w V44 B (M + 2 + 4) R F id x1 x2 g c xs)
                          have HE44 : Hid (∀ j u, ([.int .i64 ra, .int .i64 rb] : List Value)[j]? = some u → V44.cell? ((⟨V43.heap.size, 0, none⟩ : Addr).add j) = some u) := Lib.hid (by rw [hWn]; exact two_new rfl)
                          have hHeld : (fun _ : World => True) V44 := trivial
                          clear hWn HS43_
                          refine wpAnyH_ready (rs := [10]) (by kernel_rfl) (by simp) ?_
                          refine AllReadyH.cons rfl (fun K hK => ?_) AllReadyH.nil
                          rw [if_pos (by rfl)]
                          refine wp_append_at _ _ _ _ rfl w.heap.size 174 i0 (.agg #[.int .i64 0, .int .i64 0]) 2 16 Try.underlying61 hi hz0 hz1 hz2 rfl (by decide) (.slice (some ⟨g, 0, none⟩) xs.length c) xs.length ((xs.map evC).flatten) (by rfl) (by exact HS44_.out.evs.ownR) ⟨V43.heap.size, 0, none⟩ 1 1 [.int .i64 ra, .int .i64 rb] (by rfl) rfl HE44.out (by simp [Value.oneCell']) (by unfold maxLen; omega) (by omega) (by have := HS44_.out.dk.sz; omega) ?_
                          intro v' w7 hown' hgrow hat
                          obtain ⟨g', c', rfl, hge⟩ := own_form hown' (Nat.succ_pos _)
                          have hat2 : g' = g ∨ g' = V44.heap.size := by simpa [Value.ownBlock] using hat
                          have HZ := Lib.hid (HS44_.out.fin hlt hwF hRF hown' hgrow hat2 (by unfold inI; omega) (by unfold inI; omega))
                          have h2_7 := HZ.out.2.cell 2
                          have h3_7 := HZ.out.2.cell 3
                          have hf_7 := HZ.out.2.frozen 3
                          simp at h2_7 h3_7
                          clear hown' hgrow hat hat2
                          refine hK.out _ _ trivial (fun hHeld => ?_)
                          clear hK K
                          (try simp only [Act.put, List.setIfInBounds_toArray, List.set_cons_zero, List.set_cons_succ, List.getElem_toArray, List.getElem_cons_succ, List.getElem_cons_zero])
                          refine wpAnyH_take (i := 11) (v := ?_) rfl (by kernel_rfl) (by kernel_rfl) (by kernel_rfl) (fun _ _ _ h => h) (Or.inl ⟨by rfl, ?_⟩) (by assumption) ?_
                          rotate_left
                          · (intro w hSw; (try dsimp only at hSw); go_simp; first | done | with_reducible rfl)
                          (try simp only [Act.put, List.setIfInBounds_toArray, List.set_cons_zero, List.set_cons_succ, List.getElem_toArray, List.getElem_cons_succ, List.getElem_cons_zero])
                          refine wpAnyH_ready (rs := [12]) (by kernel_rfl) (by simp) ?_
                          refine AllReadyH.cons rfl (fun K hK => ?_) AllReadyH.nil
                          go_simp
                          refine hK.out _ _ trivial (fun hHeld => ?_)
                          clear hK K
                          (try simp only [Act.put, List.setIfInBounds_toArray, List.set_cons_zero, List.set_cons_succ, List.getElem_toArray, List.getElem_cons_succ, List.getElem_cons_zero])
                          refine wpAnyH_done (by kernel_rfl) ?_ _
                          (try go_wp2_with fail)
                          go_meet
                          exact ⟨rfl, x1, x2, g', c', xs ++ [⟨ra, rb⟩], by simp; omega, ix1, by omega, Lib.hid (HZ.out.1.le (by omega))⟩
                  · go_simp
                    go_at_call 77
                    refine (amongZ_any B (M + 2 + 0) V0.heap.size 0 3 3 [1, 9, 10] _ HS40_.out.dk.cur (by omega) rfl (by omega) (by omega) HN16_3.out HL40_3.out).mono ?_
                    rintro e V45 ⟨ra, rfl, mra, hc, hg⟩
                    have bra : 1 ≤ ra ∧ ra ≤ 10 := by simp at mra; omega
                    clear mra
                    have HS45_ := Lib.hid (HS40_.out.step hlt hwR hwF hc hg)
                    have HL45_6 : Hid (NL V45 V16.heap.size [0, 20000]) := Lib.hid (HL40_6.out.grown hg HN40_6.out)
                    clear hc hg HS40_ HL40_3 HL40_6
                    (try go_wp2_with fail)
                    refine hK.out _ _ trivial (fun hHeld => ?_)
                    clear hK K
                    (try simp only [Act.put, List.setIfInBounds_toArray, List.set_cons_zero, List.set_cons_succ, List.getElem_toArray, List.getElem_cons_succ, List.getElem_cons_zero])
                    refine wpAnyH_ready (rs := [1, 7]) (by kernel_rfl) (by simp) ?_
                    refine AllReadyH.cons rfl (fun K hK => ?_) (AllReadyH.cons rfl (fun K hK => ?_) AllReadyH.nil)
                    · have f3_46 := HS45_.out.f3
                      go_simp
                      refine hK.out _ _ trivial (fun hHeld => ?_)
                      clear hK K f3_46
                      (try simp only [Act.put, List.setIfInBounds_toArray, List.set_cons_zero, List.set_cons_succ, List.getElem_toArray, List.getElem_cons_succ, List.getElem_cons_zero])
                      refine wpAnyH_ready (rs := [7]) (by kernel_rfl) (by simp) ?_
                      refine AllReadyH.cons rfl (fun K hK => ?_) AllReadyH.nil
                      · go_simp
                        go_at_call 77
                        refine (amongZ_any B (M + 2 + 2) V16.heap.size 0 2 2 [0, 20000] _ HS45_.out.dk.cur (by omega) rfl (by omega) (by omega) HN40_6.out HL45_6.out).mono ?_
                        rintro e V47 ⟨rb, rfl, mrb, hc, hg⟩
                        have brb : 0 ≤ rb ∧ rb ≤ 20000 := by simp at mrb; omega
                        clear mrb
                        have HS47_ := Lib.hid (HS45_.out.step hlt hwR hwF hc hg)
                        clear hc hg HS45_ HL45_6
                        (try go_wp2_with fail)
                        refine hK.out _ _ trivial (fun hHeld => ?_)
                        clear hK K
                        (try simp only [Act.put, List.setIfInBounds_toArray, List.set_cons_zero, List.set_cons_succ, List.getElem_toArray, List.getElem_cons_succ, List.getElem_cons_zero])
                        refine wpAnyH_take (i := 8) (v := ?_) rfl (by kernel_rfl) (by kernel_rfl) (by kernel_rfl) (fun _ _ _ h => h) (Or.inl ⟨by rfl, ?_⟩) (by assumption) ?_
                        rotate_left
                        · (intro w hSw; (try dsimp only at hSw); go_simp; first | done | with_reducible rfl)
                        (try simp only [Act.put, List.setIfInBounds_toArray, List.set_cons_zero, List.set_cons_succ, List.getElem_toArray, List.getElem_cons_succ, List.getElem_cons_zero])
                        refine wpAnyH_ready (rs := [9]) (by kernel_rfl) (by simp) ?_
                        refine AllReadyH.cons rfl (fun K hK => ?_) AllReadyH.nil
                        · go_simp
                          refine hK.out _ _ trivial (fun hHeld => ?_)
                          clear hK K hHeld
                          (try simp only [Act.put, List.setIfInBounds_toArray, List.set_cons_zero, List.set_cons_succ, List.getElem_toArray, List.getElem_cons_succ, List.getElem_cons_zero])
                          refine gen_al (W := V47) ?_
                          intro V48 hWn
                          have HS48_ := Lib.hid (by rw [hWn]; exact HS47_.out.al _ : RSt w V48 B (M + 2 + 4) R F id x1 x2 g c xs)
                          have HE48 : Hid (∀ j u, ([.int .i64 ra, .int .i64 rb] : List Value)[j]? = some u → V48.cell? ((⟨V47.heap.size, 0, none⟩ : Addr).add j) = some u) := Lib.hid (by rw [hWn]; exact two_new rfl)
                          have hHeld : (fun _ : World => True) V48 := trivial
                          clear hWn HS47_
                          refine wpAnyH_ready (rs := [10]) (by kernel_rfl) (by simp) ?_
                          refine AllReadyH.cons rfl (fun K hK => ?_) AllReadyH.nil
                          rw [if_pos (by rfl)]
                          refine wp_append_at _ _ _ _ rfl w.heap.size 174 i0 (.agg #[.int .i64 0, .int .i64 0]) 2 16 Try.underlying61 hi hz0 hz1 hz2 rfl (by decide) (.slice (some ⟨g, 0, none⟩) xs.length c) xs.length ((xs.map evC).flatten) (by rfl) (by exact HS48_.out.evs.ownR) ⟨V47.heap.size, 0, none⟩ 1 1 [.int .i64 ra, .int .i64 rb] (by rfl) rfl HE48.out (by simp [Value.oneCell']) (by unfold maxLen; omega) (by omega) (by have := HS48_.out.dk.sz; omega) ?_
                          intro v' w7 hown' hgrow hat
                          obtain ⟨g', c', rfl, hge⟩ := own_form hown' (Nat.succ_pos _)
                          have hat2 : g' = g ∨ g' = V48.heap.size := by simpa [Value.ownBlock] using hat
                          have HZ := Lib.hid (HS48_.out.fin hlt hwF hRF hown' hgrow hat2 (by unfold inI; omega) (by unfold inI; omega))
                          have h2_7 := HZ.out.2.cell 2
                          have h3_7 := HZ.out.2.cell 3
                          have hf_7 := HZ.out.2.frozen 3
                          simp at h2_7 h3_7
                          clear hown' hgrow hat hat2
                          refine hK.out _ _ trivial (fun hHeld => ?_)
                          clear hK K
                          (try simp only [Act.put, List.setIfInBounds_toArray, List.set_cons_zero, List.set_cons_succ, List.getElem_toArray, List.getElem_cons_succ, List.getElem_cons_zero])
                          refine wpAnyH_take (i := 11) (v := ?_) rfl (by kernel_rfl) (by kernel_rfl) (by kernel_rfl) (fun _ _ _ h => h) (Or.inl ⟨by rfl, ?_⟩) (by assumption) ?_
                          rotate_left
                          · (intro w hSw; (try dsimp only at hSw); go_simp; first | done | with_reducible rfl)
                          (try simp only [Act.put, List.setIfInBounds_toArray, List.set_cons_zero, List.set_cons_succ, List.getElem_toArray, List.getElem_cons_succ, List.getElem_cons_zero])
                          refine wpAnyH_ready (rs := [12]) (by kernel_rfl) (by simp) ?_
                          refine AllReadyH.cons rfl (fun K hK => ?_) AllReadyH.nil
                          go_simp
                          refine hK.out _ _ trivial (fun hHeld => ?_)
                          clear hK K
                          (try simp only [Act.put, List.setIfInBounds_toArray, List.set_cons_zero, List.set_cons_succ, List.getElem_toArray, List.getElem_cons_succ, List.getElem_cons_zero])
                          refine wpAnyH_done (by kernel_rfl) ?_ _
                          (try go_wp2_with fail)
                          go_meet
                          exact ⟨rfl, x1, x2, g', c', xs ++ [⟨ra, rb⟩], by simp; omega, ix1, by omega, Lib.hid (HZ.out.1.le (by omega))⟩
                    · go_simp
                      go_at_call 77
                      refine (amongZ_any B (M + 2 + 2) V16.heap.size 0 2 2 [0, 20000] _ HS45_.out.dk.cur (by omega) rfl (by omega) (by omega) HN40_6.out HL45_6.out).mono ?_
                      rintro e V49 ⟨rb, rfl, mrb, hc, hg⟩
                      have brb : 0 ≤ rb ∧ rb ≤ 20000 := by simp at mrb; omega
                      clear mrb
                      have HS49_ := Lib.hid (HS45_.out.step hlt hwR hwF hc hg)
                      clear hc hg HS45_ HL45_6
                      (try go_wp2_with fail)
                      refine hK.out _ _ trivial (fun hHeld => ?_)
                      clear hK K
                      (try simp only [Act.put, List.setIfInBounds_toArray, List.set_cons_zero, List.set_cons_succ, List.getElem_toArray, List.getElem_cons_succ, List.getElem_cons_zero])
                      refine wpAnyH_take (i := 8) (v := ?_) rfl (by kernel_rfl) (by kernel_rfl) (by kernel_rfl) (fun _ _ _ h => h) (Or.inl ⟨by rfl, ?_⟩) (by assumption) ?_
                      rotate_left
                      · (intro w hSw; (try dsimp only at hSw); go_simp; first | done | with_reducible rfl)
                      (try simp only [Act.put, List.setIfInBounds_toArray, List.set_cons_zero, List.set_cons_succ, List.getElem_toArray, List.getElem_cons_succ, List.getElem_cons_zero])
                      refine wpAnyH_ready (rs := [1, 9]) (by kernel_rfl) (by simp) ?_
                      refine AllReadyH.cons rfl (fun K hK => ?_) (AllReadyH.cons rfl (fun K hK => ?_) AllReadyH.nil)
                      · have f3_50 := HS49_.out.f3
                        go_simp
                        refine hK.out _ _ trivial (fun hHeld => ?_)
                        clear hK K f3_50
                        (try simp only [Act.put, List.setIfInBounds_toArray, List.set_cons_zero, List.set_cons_succ, List.getElem_toArray, List.getElem_cons_succ, List.getElem_cons_zero])
                        refine wpAnyH_ready (rs := [9]) (by kernel_rfl) (by simp) ?_
                        refine AllReadyH.cons rfl (fun K hK => ?_) AllReadyH.nil
                        · go_simp
                          refine hK.out _ _ trivial (fun hHeld => ?_)
                          clear hK K hHeld
                          (try simp only [Act.put, List.setIfInBounds_toArray, List.set_cons_zero, List.set_cons_succ, List.getElem_toArray, List.getElem_cons_succ, List.getElem_cons_zero])
                          refine gen_al (W := V49) ?_
                          intro V51 hWn
                          have HS51_ := Lib.hid (by rw [hWn]; exact HS49_.out.al _ : RSt w V51 B (M + 2 + 4) R F id x1 x2 g c xs)
                          have HE51 : Hid (∀ j u, ([.int .i64 ra, .int .i64 rb] : List Value)[j]? = some u → V51.cell? ((⟨V49.heap.size, 0, none⟩ : Addr).add j) = some u) := Lib.hid (by rw [hWn]; exact two_new rfl)
                          have hHeld : (fun _ : World => True) V51 := trivial
                          clear hWn HS49_
                          refine wpAnyH_ready (rs := [10]) (by kernel_rfl) (by simp) ?_
                          refine AllReadyH.cons rfl (fun K hK => ?_) AllReadyH.nil
                          rw [if_pos (by rfl)]
                          refine wp_append_at _ _ _ _ rfl w.heap.size 174 i0 (.agg #[.int .i64 0, .int .i64 0]) 2 16 Try.underlying61 hi hz0 hz1 hz2 rfl (by decide) (.slice (some ⟨g, 0, none⟩) xs.length c) xs.length ((xs.map evC).flatten) (by rfl) (by exact HS51_.out.evs.ownR) ⟨V49.heap.size, 0, none⟩ 1 1 [.int .i64 ra, .int .i64 rb] (by rfl) rfl HE51.out (by simp [Value.oneCell']) (by unfold maxLen; omega) (by omega) (by have := HS51_.out.dk.sz; omega) ?_
                          intro v' w7 hown' hgrow hat
                          obtain ⟨g', c', rfl, hge⟩ := own_form hown' (Nat.succ_pos _)
                          have hat2 : g' = g ∨ g' = V51.heap.size := by simpa [Value.ownBlock] using hat
                          have HZ := Lib.hid (HS51_.out.fin hlt hwF hRF hown' hgrow hat2 (by unfold inI; omega) (by unfold inI; omega))
                          have h2_7 := HZ.out.2.cell 2
                          have h3_7 := HZ.out.2.cell 3
                          have hf_7 := HZ.out.2.frozen 3
                          simp at h2_7 h3_7
                          clear hown' hgrow hat hat2
                          refine hK.out _ _ trivial (fun hHeld => ?_)
                          clear hK K
                          (try simp only [Act.put, List.setIfInBounds_toArray, List.set_cons_zero, List.set_cons_succ, List.getElem_toArray, List.getElem_cons_succ, List.getElem_cons_zero])
                          refine wpAnyH_take (i := 11) (v := ?_) rfl (by kernel_rfl) (by kernel_rfl) (by kernel_rfl) (fun _ _ _ h => h) (Or.inl ⟨by rfl, ?_⟩) (by assumption) ?_
                          rotate_left
                          · (intro w hSw; (try dsimp only at hSw); go_simp; first | done | with_reducible rfl)
                          (try simp only [Act.put, List.setIfInBounds_toArray, List.set_cons_zero, List.set_cons_succ, List.getElem_toArray, List.getElem_cons_succ, List.getElem_cons_zero])
                          refine wpAnyH_ready (rs := [12]) (by kernel_rfl) (by simp) ?_
                          refine AllReadyH.cons rfl (fun K hK => ?_) AllReadyH.nil
                          go_simp
                          refine hK.out _ _ trivial (fun hHeld => ?_)
                          clear hK K
                          (try simp only [Act.put, List.setIfInBounds_toArray, List.set_cons_zero, List.set_cons_succ, List.getElem_toArray, List.getElem_cons_succ, List.getElem_cons_zero])
                          refine wpAnyH_done (by kernel_rfl) ?_ _
                          (try go_wp2_with fail)
                          go_meet
                          exact ⟨rfl, x1, x2, g', c', xs ++ [⟨ra, rb⟩], by simp; omega, ix1, by omega, Lib.hid (HZ.out.1.le (by omega))⟩
                      · go_simp
                        refine hK.out _ _ trivial (fun hHeld => ?_)
                        clear hK K hHeld
                        (try simp only [Act.put, List.setIfInBounds_toArray, List.set_cons_zero, List.set_cons_succ, List.getElem_toArray, List.getElem_cons_succ, List.getElem_cons_zero])
                        refine gen_al (W := V49) ?_
                        intro V52 hWn
                        have HS52_ := Lib.hid (by rw [hWn]; exact HS49_.out.al _ : RSt w V52 B (M + 2 + 4) R F id x1 x2 g c xs)
                        have HE52 : Hid (∀ j u, ([.int .i64 ra, .int .i64 rb] : List Value)[j]? = some u → V52.cell? ((⟨V49.heap.size, 0, none⟩ : Addr).add j) = some u) := Lib.hid (by rw [hWn]; exact two_new rfl)
                        have hHeld : (fun _ : World => True) V52 := trivial
                        clear hWn HS49_
                        refine wpAnyH_ready (rs := [1]) (by kernel_rfl) (by simp) ?_
                        refine AllReadyH.cons rfl (fun K hK => ?_) AllReadyH.nil
                        · have f3_53 := HS52_.out.f3
                          go_simp
                          refine hK.out _ _ trivial (fun hHeld => ?_)
                          clear hK K f3_53
                          (try simp only [Act.put, List.setIfInBounds_toArray, List.set_cons_zero, List.set_cons_succ, List.getElem_toArray, List.getElem_cons_succ, List.getElem_cons_zero])
                          refine wpAnyH_ready (rs := [10]) (by kernel_rfl) (by simp) ?_
                          refine AllReadyH.cons rfl (fun K hK => ?_) AllReadyH.nil
                          rw [if_pos (by rfl)]
                          refine wp_append_at _ _ _ _ rfl w.heap.size 174 i0 (.agg #[.int .i64 0, .int .i64 0]) 2 16 Try.underlying61 hi hz0 hz1 hz2 rfl (by decide) (.slice (some ⟨g, 0, none⟩) xs.length c) xs.length ((xs.map evC).flatten) (by rfl) (by exact HS52_.out.evs.ownR) ⟨V49.heap.size, 0, none⟩ 1 1 [.int .i64 ra, .int .i64 rb] (by rfl) rfl HE52.out (by simp [Value.oneCell']) (by unfold maxLen; omega) (by omega) (by have := HS52_.out.dk.sz; omega) ?_
                          intro v' w7 hown' hgrow hat
                          obtain ⟨g', c', rfl, hge⟩ := own_form hown' (Nat.succ_pos _)
                          have hat2 : g' = g ∨ g' = V52.heap.size := by simpa [Value.ownBlock] using hat
                          have HZ := Lib.hid (HS52_.out.fin hlt hwF hRF hown' hgrow hat2 (by unfold inI; omega) (by unfold inI; omega))
                          have h2_7 := HZ.out.2.cell 2
                          have h3_7 := HZ.out.2.cell 3
                          have hf_7 := HZ.out.2.frozen 3
                          simp at h2_7 h3_7
                          clear hown' hgrow hat hat2
                          refine hK.out _ _ trivial (fun hHeld => ?_)
                          clear hK K
                          (try simp only [Act.put, List.setIfInBounds_toArray, List.set_cons_zero, List.set_cons_succ, List.getElem_toArray, List.getElem_cons_succ, List.getElem_cons_zero])
                          refine wpAnyH_take (i := 11) (v := ?_) rfl (by kernel_rfl) (by kernel_rfl) (by kernel_rfl) (fun _ _ _ h => h) (Or.inl ⟨by rfl, ?_⟩) (by assumption) ?_
                          rotate_left
                          · (intro w hSw; (try dsimp only at hSw); go_simp; first | done | with_reducible rfl)
                          (try simp only [Act.put, List.setIfInBounds_toArray, List.set_cons_zero, List.set_cons_succ, List.getElem_toArray, List.getElem_cons_succ, List.getElem_cons_zero])
                          refine wpAnyH_ready (rs := [12]) (by kernel_rfl) (by simp) ?_
                          refine AllReadyH.cons rfl (fun K hK => ?_) AllReadyH.nil
                          go_simp
                          refine hK.out _ _ trivial (fun hHeld => ?_)
                          clear hK K
                          (try simp only [Act.put, List.setIfInBounds_toArray, List.set_cons_zero, List.set_cons_succ, List.getElem_toArray, List.getElem_cons_succ, List.getElem_cons_zero])
                          refine wpAnyH_done (by kernel_rfl) ?_ _
                          (try go_wp2_with fail)
                          go_meet
                          exact ⟨rfl, x1, x2, g', c', xs ++ [⟨ra, rb⟩], by simp; omega, ix1, by omega, Lib.hid (HZ.out.1.le (by omega))⟩
              · go_simp
                refine hK.out _ _ trivial (fun hHeld => ?_)
                clear hK K hHeld
                (try simp only [Act.put, List.setIfInBounds_toArray, List.set_cons_zero, List.set_cons_succ, List.getElem_toArray, List.getElem_cons_succ, List.getElem_cons_zero])
                refine gen_al (W := V0) ?_
                intro V54 hWn
                have HS54_ := Lib.hid (by rw [hWn]; exact HS0_.out.al _ : RSt w V54 B (M + 2 + 0) R F id x1 x2 g c xs)
                have HL54_6 : Hid (NL V54 V0.heap.size [0, 20000]) := Lib.hid (by rw [hWn]; exact new_nums V0 [0, 20000] 3 _ rfl)
                have HN54_6 : Hid (V0.heap.size ≠ B) := Lib.hid (by have := HS0_.out.dk.cur.lt; omega)
                have hHeld : (fun _ : World => True) V54 := trivial
                clear hWn HS0_
                refine wpAnyH_ready (rs := [1, 3]) (by kernel_rfl) (by simp) ?_
                refine AllReadyH.cons rfl (fun K hK => ?_) (AllReadyH.cons rfl (fun K hK => ?_) AllReadyH.nil)
                · have f3_55 := HS54_.out.f3
                  go_simp
                  refine hK.out _ _ trivial (fun hHeld => ?_)
                  clear hK K f3_55
                  (try simp only [Act.put, List.setIfInBounds_toArray, List.set_cons_zero, List.set_cons_succ, List.getElem_toArray, List.getElem_cons_succ, List.getElem_cons_zero])
                  refine wpAnyH_ready (rs := [3]) (by kernel_rfl) (by simp) ?_
                  refine AllReadyH.cons rfl (fun K hK => ?_) AllReadyH.nil
                  · go_simp
                    refine hK.out _ _ trivial (fun hHeld => ?_)
                    clear hK K hHeld
                    (try simp only [Act.put, List.setIfInBounds_toArray, List.set_cons_zero, List.set_cons_succ, List.getElem_toArray, List.getElem_cons_succ, List.getElem_cons_zero])
                    refine gen_al (W := V54) ?_
                    intro V56 hWn
                    have HS56_ := Lib.hid (by rw [hWn]; exact HS54_.out.al _ : RSt w V56 B (M + 2 + 0) R F id x1 x2 g c xs)
                    have HL56_6 : Hid (NL V56 V0.heap.size [0, 20000]) := Lib.hid (by rw [hWn]; exact HL54_6.out.al _)
                    have HL56_3 : Hid (NL V56 V54.heap.size [1, 9, 10]) := Lib.hid (by rw [hWn]; exact new_nums V54 [1, 9, 10] 3 _ rfl)
                    have HN56_3 : Hid (V54.heap.size ≠ B) := Lib.hid (by have := HS54_.out.dk.cur.lt; omega)
                    have hHeld : (fun _ : World => True) V56 := trivial
                    clear hWn HS54_ HL54_6
                    refine wpAnyH_ready (rs := [4]) (by kernel_rfl) (by simp) ?_
                    refine AllReadyH.cons rfl (fun K hK => ?_) AllReadyH.nil
                    · go_simp
                      go_at_call 77
                      refine (amongZ_any B (M + 2 + 0) V54.heap.size 0 3 3 [1, 9, 10] _ HS56_.out.dk.cur (by omega) rfl (by omega) (by omega) HN56_3.out HL56_3.out).mono ?_
                      rintro e V57 ⟨ra, rfl, mra, hc, hg⟩
                      have bra : 1 ≤ ra ∧ ra ≤ 10 := by simp at mra; omega
                      clear mra
                      have HS57_ := Lib.hid (HS56_.out.step hlt hwR hwF hc hg)
                      have HL57_6 : Hid (NL V57 V0.heap.size [0, 20000]) := Lib.hid (HL56_6.out.grown hg HN54_6.out)
                      clear hc hg HS56_ HL56_3 HL56_6
                      (try go_wp2_with fail)
                      refine hK.out _ _ trivial (fun hHeld => ?_)
                      clear hK K
                      (try simp only [Act.put, List.setIfInBounds_toArray, List.set_cons_zero, List.set_cons_succ, List.getElem_toArray, List.getElem_cons_succ, List.getElem_cons_zero])
                      refine wpAnyH_ready (rs := [7]) (by kernel_rfl) (by simp) ?_
                      refine AllReadyH.cons rfl (fun K hK => ?_) AllReadyH.nil
                      · go_simp
                        go_at_call 77
                        refine (amongZ_any B (M + 2 + 2) V0.heap.size 0 2 2 [0, 20000] _ HS57_.out.dk.cur (by omega) rfl (by omega) (by omega) HN54_6.out HL57_6.out).mono ?_
                        rintro e V58 ⟨rb, rfl, mrb, hc, hg⟩
                        have brb : 0 ≤ rb ∧ rb ≤ 20000 := by simp at mrb; omega
                        clear mrb
                        have HS58_ := Lib.hid (HS57_.out.step hlt hwR hwF hc hg)
                        clear hc hg HS57_ HL57_6
                        (try go_wp2_with fail)
                        refine hK.out _ _ trivial (fun hHeld => ?_)
                        clear hK K
                        (try simp only [Act.put, List.setIfInBounds_toArray, List.set_cons_zero, List.set_cons_succ, List.getElem_toArray, List.getElem_cons_succ, List.getElem_cons_zero])
                        refine wpAnyH_take (i := 8) (v := ?_) rfl (by kernel_rfl) (by kernel_rfl) (by kernel_rfl) (fun _ _ _ h => h) (Or.inl ⟨by rfl, ?_⟩) (by assumption) ?_
                        rotate_left
                        · (intro w hSw; (try dsimp only at hSw); go_simp; first | done | with_reducible rfl)
                        (try simp only [Act.put, List.setIfInBounds_toArray, List.set_cons_zero, List.set_cons_succ, List.getElem_toArray, List.getElem_cons_succ, List.getElem_cons_zero])
                        refine wpAnyH_ready (rs := [9]) (by kernel_rfl) (by simp) ?_
                        refine AllReadyH.cons rfl (fun K hK => ?_) AllReadyH.nil
                        · go_simp
                          refine hK.out _ _ trivial (fun hHeld => ?_)
                          clear hK K hHeld
                          (try simp only [Act.put, List.setIfInBounds_toArray, List.set_cons_zero, List.set_cons_succ, List.getElem_toArray, List.getElem_cons_succ, List.getElem_cons_zero])
                          refine gen_al (W := V58) ?_
                          intro V59 hWn
                          have HS59_ := Lib.hid (by rw [hWn]; exact HS58_.out.al _ : RSt w V59 B (M + 2 + 4) R F id x1 x2 g c xs)
                          have HE59 : Hid (∀ j u, ([.int .i64 ra, .int .i64 rb] : List Value)[j]? = some u → V59.cell? ((⟨V58.heap.size, 0, none⟩ : Addr).add j) = some u) := Lib.hid (by rw [hWn]; exact two_new rfl)
                          have hHeld : (fun _ : World => True) V59 := trivial
                          clear hWn HS58_
                          refine wpAnyH_ready (rs := [10]) (by kernel_rfl) (by simp) ?_
                          refine AllReadyH.cons rfl (fun K hK => ?_) AllReadyH.nil
                          rw [if_pos (by rfl)]
                          refine wp_append_at _ _ _ _ rfl w.heap.size 174 i0 (.agg #[.int .i64 0, .int .i64 0]) 2 16 Try.underlying61 hi hz0 hz1 hz2 rfl (by decide) (.slice (some ⟨g, 0, none⟩) xs.length c) xs.length ((xs.map evC).flatten) (by rfl) (by exact HS59_.out.evs.ownR) ⟨V58.heap.size, 0, none⟩ 1 1 [.int .i64 ra, .int .i64 rb] (by rfl) rfl HE59.out (by simp [Value.oneCell']) (by unfold maxLen; omega) (by omega) (by have := HS59_.out.dk.sz; omega) ?_
                          intro v' w7 hown' hgrow hat
                          obtain ⟨g', c', rfl, hge⟩ := own_form hown' (Nat.succ_pos _)
                          have hat2 : g' = g ∨ g' = V59.heap.size := by simpa [Value.ownBlock] using hat
                          have HZ := Lib.hid (HS59_.out.fin hlt hwF hRF hown' hgrow hat2 (by unfold inI; omega) (by unfold inI; omega))
                          have h2_7 := HZ.out.2.cell 2
                          have h3_7 := HZ.out.2.cell 3
                          have hf_7 := HZ.out.2.frozen 3
                          simp at h2_7 h3_7
                          clear hown' hgrow hat hat2
                          refine hK.out _ _ trivial (fun hHeld => ?_)
                          clear hK K
                          (try simp only [Act.put, List.setIfInBounds_toArray, List.set_cons_zero, List.set_cons_succ, List.getElem_toArray, List.getElem_cons_succ, List.getElem_cons_zero])
                          refine wpAnyH_take (i := 11) (v := ?_) rfl (by kernel_rfl) (by kernel_rfl) (by kernel_rfl) (fun _ _ _ h => h) (Or.inl ⟨by rfl, ?_⟩) (by assumption) ?_
                          rotate_left
                          · (intro w hSw; (try dsimp only at hSw); go_simp; first | done | with_reducible rfl)
                          (try simp only [Act.put, List.setIfInBounds_toArray, List.set_cons_zero, List.set_cons_succ, List.getElem_toArray, List.getElem_cons_succ, List.getElem_cons_zero])
                          refine wpAnyH_ready (rs := [12]) (by kernel_rfl) (by simp) ?_
                          refine AllReadyH.cons rfl (fun K hK => ?_) AllReadyH.nil
                          go_simp
                          refine hK.out _ _ trivial (fun hHeld => ?_)
                          clear hK K
                          (try simp only [Act.put, List.setIfInBounds_toArray, List.set_cons_zero, List.set_cons_succ, List.getElem_toArray, List.getElem_cons_succ, List.getElem_cons_zero])
                          refine wpAnyH_done (by kernel_rfl) ?_ _
                          (try go_wp2_with fail)
                          go_meet
                          exact ⟨rfl, x1, x2, g', c', xs ++ [⟨ra, rb⟩], by simp; omega, ix1, by omega, Lib.hid (HZ.out.1.le (by omega))⟩
                · go_simp
                  refine hK.out _ _ trivial (fun hHeld => ?_)
                  clear hK K hHeld
                  (try simp only [Act.put, List.setIfInBounds_toArray, List.set_cons_zero, List.set_cons_succ, List.getElem_toArray, List.getElem_cons_succ, List.getElem_cons_zero])
                  refine gen_al (W := V54) ?_
                  intro V60 hWn
                  have HS60_ := Lib.hid (by rw [hWn]; exact HS54_.out.al _ : RSt w V60 B (M + 2 + 0) R F id x1 x2 g c xs)
                  have HL60_6 : Hid (NL V60 V0.heap.size [0, 20000]) := Lib.hid (by rw [hWn]; exact HL54_6.out.al _)
                  have HL60_3 : Hid (NL V60 V54.heap.size [1, 9, 10]) := Lib.hid (by rw [hWn]; exact new_nums V54 [1, 9, 10] 3 _ rfl)
                  have HN60_3 : Hid (V54.heap.size ≠ B) := Lib.hid (by have := HS54_.out.dk.cur.lt; omega)
                  have hHeld : (fun _ : World => True) V60 := trivial
                  clear hWn HS54_ HL54_6
                  refine wpAnyH_ready (rs := [1, 4]) (by kernel_rfl) (by simp) ?_
                  refine AllReadyH.cons rfl (fun K hK => ?_) (AllReadyH.cons rfl (fun K hK => ?_) AllReadyH.nil)
                  · have f3_61 := HS60_.out.f3
                    go_simp
                    refine hK.out _ _ trivial (fun hHeld => ?_)
                    clear hK K f3_61
                    (try simp only [Act.put, List.setIfInBounds_toArray, List.set_cons_zero, List.set_cons_succ, List.getElem_toArray, List.getElem_cons_succ, List.getElem_cons_zero])
                    refine wpAnyH_ready (rs := [4]) (by kernel_rfl) (by simp) ?_
                    refine AllReadyH.cons rfl (fun K hK => ?_) AllReadyH.nil
                    · go_simp
                      go_at_call 77
                      refine (amongZ_any B (M + 2 + 0) V54.heap.size 0 3 3 [1, 9, 10] _ HS60_.out.dk.cur (by omega) rfl (by omega) (by omega) HN60_3.out HL60_3.out).mono ?_
                      rintro e V62 ⟨ra, rfl, mra, hc, hg⟩
                      have bra : 1 ≤ ra ∧ ra ≤ 10 := by simp at mra; omega
                      clear mra
                      have HS62_ := Lib.hid (HS60_.out.step hlt hwR hwF hc hg)
                      have HL62_6 : Hid (NL V62 V0.heap.size [0, 20000]) := Lib.hid (HL60_6.out.grown hg HN54_6.out)
                      clear hc hg HS60_ HL60_3 HL60_6
                      (try go_wp2_with fail)
                      refine hK.out _ _ trivial (fun hHeld => ?_)
                      clear hK K
                      (try simp only [Act.put, List.setIfInBounds_toArray, List.set_cons_zero, List.set_cons_succ, List.getElem_toArray, List.getElem_cons_succ, List.getElem_cons_zero])
                      refine wpAnyH_ready (rs := [7]) (by kernel_rfl) (by simp) ?_
                      refine AllReadyH.cons rfl (fun K hK => ?_) AllReadyH.nil
                      · go_simp
                        go_at_call 77
                        refine (amongZ_any B (M + 2 + 2) V0.heap.size 0 2 2 [0, 20000] _ HS62_.out.dk.cur (by omega) rfl (by omega) (by omega) HN54_6.out HL62_6.out).mono ?_
                        rintro e V63 ⟨rb, rfl, mrb, hc, hg⟩
                        have brb : 0 ≤ rb ∧ rb ≤ 20000 := by simp at mrb; omega
                        clear mrb
                        have HS63_ := Lib.hid (HS62_.out.step hlt hwR hwF hc hg)
                        clear hc hg HS62_ HL62_6
                        (try go_wp2_with fail)
                        refine hK.out _ _ trivial (fun hHeld => ?_)
                        clear hK K
                        (try simp only [Act.put, List.setIfInBounds_toArray, List.set_cons_zero, List.set_cons_succ, List.getElem_toArray, List.getElem_cons_succ, List.getElem_cons_zero])
                        refine wpAnyH_take (i := 8) (v := ?_) rfl (by kernel_rfl) (by kernel_rfl) (by kernel_rfl) (fun _ _ _ h => h) (Or.inl ⟨by rfl, ?_⟩) (by assumption) ?_
                        rotate_left
                        · (intro w hSw; (try dsimp only at hSw); go_simp; first | done | with_reducible rfl)
                        (try simp only [Act.put, List.setIfInBounds_toArray, List.set_cons_zero, List.set_cons_succ, List.getElem_toArray, List.getElem_cons_succ, List.getElem_cons_zero])
                        refine wpAnyH_ready (rs := [9]) (by kernel_rfl) (by simp) ?_
                        refine AllReadyH.cons rfl (fun K hK => ?_) AllReadyH.nil
                        · go_simp
                          refine hK.out _ _ trivial (fun hHeld => ?_)
                          clear hK K hHeld
                          (try simp only [Act.put, List.setIfInBounds_toArray, List.set_cons_zero, List.set_cons_succ, List.getElem_toArray, List.getElem_cons_succ, List.getElem_cons_zero])
                          refine gen_al (W := V63) ?_
                          intro V64 hWn
                          have HS64_ := Lib.hid (by rw [hWn]; exact HS63_.out.al _ : RSt w V64 B (M + 2 + 4) R F id x1 x2 g c xs)
                          have HE64 : Hid (∀ j u, ([.int .i64 ra, .int .i64 rb] : List Value)[j]? = some u → V64.cell? ((⟨V63.heap.size, 0, none⟩ : Addr).add j) = some u) := Lib.hid (by rw [hWn]; exact two_new rfl)
                          have hHeld : (fun _ : World => True) V64 := trivial
                          clear hWn HS63_
                          refine wpAnyH_ready (rs := [10]) (by kernel_rfl) (by simp) ?_
                          refine AllReadyH.cons rfl (fun K hK => ?_) AllReadyH.nil
                          rw [if_pos (by rfl)]
                          refine wp_append_at _ _ _ _ rfl w.heap.size 174 i0 (.agg #[.int .i64 0, .int .i64 0]) 2 16 Try.underlying61 hi hz0 hz1 hz2 rfl (by decide) (.slice (some ⟨g, 0, none⟩) xs.length c) xs.length ((xs.map evC).flatten) (by rfl) (by exact HS64_.out.evs.ownR) ⟨V63.heap.size, 0, none⟩ 1 1 [.int .i64 ra, .int .i64 rb] (by rfl) rfl HE64.out (by simp [Value.oneCell']) (by unfold maxLen; omega) (by omega) (by have := HS64_.out.dk.sz; omega) ?_
                          intro v' w7 hown' hgrow hat
                          obtain ⟨g', c', rfl, hge⟩ := own_form hown' (Nat.succ_pos _)
                          have hat2 : g' = g ∨ g' = V64.heap.size := by simpa [Value.ownBlock] using hat
                          have HZ := Lib.hid (HS64_.out.fin hlt hwF hRF hown' hgrow hat2 (by unfold inI; omega) (by unfold inI; omega))
                          have h2_7 := HZ.out.2.cell 2
                          have h3_7 := HZ.out.2.cell 3
                          have hf_7 := HZ.out.2.frozen 3
                          simp at h2_7 h3_7
                          clear hown' hgrow hat hat2
                          refine hK.out _ _ trivial (fun hHeld => ?_)
                          clear hK K
                          (try simp only [Act.put, List.setIfInBounds_toArray, List.set_cons_zero, List.set_cons_succ, List.getElem_toArray, List.getElem_cons_succ, List.getElem_cons_zero])
                          refine wpAnyH_take (i := 11) (v := ?_) rfl (by kernel_rfl) (by kernel_rfl) (by kernel_rfl) (fun _ _ _ h => h) (Or.inl ⟨by rfl, ?_⟩) (by assumption) ?_
                          rotate_left
                          · (intro w hSw; (try dsimp only at hSw); go_simp; first | done | with_reducible rfl)
                          (try simp only [Act.put, List.setIfInBounds_toArray, List.set_cons_zero, List.set_cons_succ, List.getElem_toArray, List.getElem_cons_succ, List.getElem_cons_zero])
                          refine wpAnyH_ready (rs := [12]) (by kernel_rfl) (by simp) ?_
                          refine AllReadyH.cons rfl (fun K hK => ?_) AllReadyH.nil
                          go_simp
                          refine hK.out _ _ trivial (fun hHeld => ?_)
                          clear hK K
                          (try simp only [Act.put, List.setIfInBounds_toArray, List.set_cons_zero, List.set_cons_succ, List.getElem_toArray, List.getElem_cons_succ, List.getElem_cons_zero])
                          refine wpAnyH_done (by kernel_rfl) ?_ _
                          (try go_wp2_with fail)
                          go_meet
                          exact ⟨rfl, x1, x2, g', c', xs ++ [⟨ra, rb⟩], by simp; omega, ix1, by omega, Lib.hid (HZ.out.1.le (by omega))⟩
                  · go_simp
                    go_at_call 77
                    refine (amongZ_any B (M + 2 + 0) V54.heap.size 0 3 3 [1, 9, 10] _ HS60_.out.dk.cur (by omega) rfl (by omega) (by omega) HN60_3.out HL60_3.out).mono ?_
                    rintro e V65 ⟨ra, rfl, mra, hc, hg⟩
                    have bra : 1 ≤ ra ∧ ra ≤ 10 := by simp at mra; omega
                    clear mra
                    have HS65_ := Lib.hid (HS60_.out.step hlt hwR hwF hc hg)
                    have HL65_6 : Hid (NL V65 V0.heap.size [0, 20000]) := Lib.hid (HL60_6.out.grown hg HN54_6.out)
                    clear hc hg HS60_ HL60_3 HL60_6
                    (try go_wp2_with fail)
                    refine hK.out _ _ trivial (fun hHeld => ?_)
                    clear hK K
                    (try simp only [Act.put, List.setIfInBounds_toArray, List.set_cons_zero, List.set_cons_succ, List.getElem_toArray, List.getElem_cons_succ, List.getElem_cons_zero])
                    refine wpAnyH_ready (rs := [1, 7]) (by kernel_rfl) (by simp) ?_
                    refine AllReadyH.cons rfl (fun K hK => ?_) (AllReadyH.cons rfl (fun K hK => ?_) AllReadyH.nil)
                    · have f3_66 := HS65_.out.f3
                      go_simp
                      refine hK.out _ _ trivial (fun hHeld => ?_)
                      clear hK K f3_66
                      (try simp only [Act.put, List.setIfInBounds_toArray, List.set_cons_zero, List.set_cons_succ, List.getElem_toArray, List.getElem_cons_succ, List.getElem_cons_zero])
                      refine wpAnyH_ready (rs := [7]) (by kernel_rfl) (by simp) ?_
                      refine AllReadyH.cons rfl (fun K hK => ?_) AllReadyH.nil
                      · go_simp
                        go_at_call 77
                        refine (amongZ_any B (M + 2 + 2) V0.heap.size 0 2 2 [0, 20000] _ HS65_.out.dk.cur (by omega) rfl (by omega) (by omega) HN54_6.out HL65_6.out).mono ?_
                        rintro e V67 ⟨rb, rfl, mrb, hc, hg⟩
                        have brb : 0 ≤ rb ∧ rb ≤ 20000 := by simp at mrb; omega
                        clear mrb
                        have HS67_ := Lib.hid (HS65_.out.step hlt hwR hwF hc hg)
                        clear hc hg HS65_ HL65_6
                        (try go_wp2_with fail)
                        refine hK.out _ _ trivial (fun hHeld => ?_)
                        clear hK K
                        (try simp only [Act.put, List.setIfInBounds_toArray, List.set_cons_zero, List.set_cons_succ, List.getElem_toArray, List.getElem_cons_succ, List.getElem_cons_zero])
                        refine wpAnyH_take (i := 8) (v := ?_) rfl (by kernel_rfl) (by kernel_rfl) (by kernel_rfl) (fun _ _ _ h => h) (Or.inl ⟨by rfl, ?_⟩) (by assumption) ?_
                        rotate_left
                        · (intro w hSw; (try dsimp only at hSw); go_simp; first | done | with_reducible rfl)
                        (try simp only [Act.put, List.setIfInBounds_toArray, List.set_cons_zero, List.set_cons_succ, List.getElem_toArray, List.getElem_cons_succ, List.getElem_cons_zero])
                        refine wpAnyH_ready (rs := [9]) (by kernel_rfl) (by simp) ?_
                        refine AllReadyH.cons rfl (fun K hK => ?_) AllReadyH.nil
                        · go_simp
                          refine hK.out _ _ trivial (fun hHeld => ?_)
                          clear hK K hHeld
                          (try simp only [Act.put, List.setIfInBounds_toArray, List.set_cons_zero, List.set_cons_succ, List.getElem_toArray, List.getElem_cons_succ, List.getElem_cons_zero])
                          refine gen_al (W := V67) ?_
                          intro V68 hWn
                          have HS68_ := Lib.hid (by rw [hWn]; exact HS67_.out.al _ : RSt w V68 B (M + 2 + 4) R F id x1 x2 g c xs)
                          have HE68 : Hid (∀ j u, ([.int .i64 ra, .int .i64 rb] : List Value)[j]? = some u → V68.cell? ((⟨V67.heap.size, 0, none⟩ : Addr).add j) = some u) := Lib.hid (by rw [hWn]; exact two_new rfl)
                          have hHeld : (fun _ : World => True) V68 := trivial
                          clear hWn HS67_
                          refine wpAnyH_ready (rs := [10]) (by kernel_rfl) (by simp) ?_
                          refine AllReadyH.cons rfl (fun K hK => ?_) AllReadyH.nil
                          rw [if_pos (by rfl)]
                          refine wp_append_at _ _ _ _ rfl w.heap.size 174 i0 (.agg #[.int .i64 0, .int .i64 0]) 2 16 Try.underlying61 hi hz0 hz1 hz2 rfl (by decide) (.slice (some ⟨g, 0, none⟩) xs.length c) xs.length ((xs.map evC).flatten) (by rfl) (by exact HS68_.out.evs.ownR) ⟨V67.heap.size, 0, none⟩ 1 1 [.int .i64 ra, .int .i64 rb] (by rfl) rfl HE68.out (by simp [Value.oneCell']) (by unfold maxLen; omega) (by omega) (by have := HS68_.out.dk.sz; omega) ?_
                          intro v' w7 hown' hgrow hat
                          obtain ⟨g', c', rfl, hge⟩ := own_form hown' (Nat.succ_pos _)
                          have hat2 : g' = g ∨ g' = V68.heap.size := by simpa [Value.ownBlock] using hat
                          have HZ := Lib.hid (HS68_.out.fin hlt hwF hRF hown' hgrow hat2 (by unfold inI; omega) (by unfold inI; omega))
                          have h2_7 := HZ.out.2.cell 2
                          have h3_7 := HZ.out.2.cell 3
                          have hf_7 := HZ.out.2.frozen 3
                          simp at h2_7 h3_7
                          clear hown' hgrow hat hat2
                          refine hK.out _ _ trivial (fun hHeld => ?_)
                          clear hK K
                          (try simp only [Act.put, List.setIfInBounds_toArray, List.set_cons_zero, List.set_cons_succ, List.getElem_toArray, List.getElem_cons_succ, List.getElem_cons_zero])
                          refine wpAnyH_take (i := 11) (v := ?_) rfl (by kernel_rfl) (by kernel_rfl) (by kernel_rfl) (fun _ _ _ h => h) (Or.inl ⟨by rfl, ?_⟩) (by assumption) ?_
                          rotate_left
                          · (intro w hSw; (try dsimp only at hSw); go_simp; first | done | with_reducible rfl)
                          (try simp only [Act.put, List.setIfInBounds_toArray, List.set_cons_zero, List.set_cons_succ, List.getElem_toArray, List.getElem_cons_succ, List.getElem_cons_zero])
                          refine wpAnyH_ready (rs := [12]) (by kernel_rfl) (by simp) ?_
                          refine AllReadyH.cons rfl (fun K hK => ?_) AllReadyH.nil
                          go_simp
                          refine hK.out _ _ trivial (fun hHeld => ?_)
                          clear hK K
                          (try simp only [Act.put, List.setIfInBounds_toArray, List.set_cons_zero, List.set_cons_succ, List.getElem_toArray, List.getElem_cons_succ, List.getElem_cons_zero])
                          refine wpAnyH_done (by kernel_rfl) ?_ _
                          (try go_wp2_with fail)
                          go_meet
                          exact ⟨rfl, x1, x2, g', c', xs ++ [⟨ra, rb⟩], by simp; omega, ix1, by omega, Lib.hid (HZ.out.1.le (by omega))⟩
                    · go_simp
                      go_at_call 77
                      refine (amongZ_any B (M + 2 + 2) V0.heap.size 0 2 2 [0, 20000] _ HS65_.out.dk.cur (by omega) rfl (by omega) (by omega) HN54_6.out HL65_6.out).mono ?_
                      rintro e V69 ⟨rb, rfl, mrb, hc, hg⟩
                      have brb : 0 ≤ rb ∧ rb ≤ 20000 := by simp at mrb; omega
                      clear mrb
                      have HS69_ := Lib.hid (HS65_.out.step hlt hwR hwF hc hg)
                      clear hc hg HS65_ HL65_6
                      (try go_wp2_with fail)
                      refine hK.out _ _ trivial (fun hHeld => ?_)
                      clear hK K
                      (try simp only [Act.put, List.setIfInBounds_toArray, List.set_cons_zero, List.set_cons_succ, List.getElem_toArray, List.getElem_cons_succ, List.getElem_cons_zero])
                      refine wpAnyH_take (i := 8) (v := ?_) rfl (by kernel_rfl) (by kernel_rfl) (by kernel_rfl) (fun _ _ _ h => h) (Or.inl ⟨by rfl, ?_⟩) (by assumption) ?_
                      rotate_left
                      · (intro w hSw; (try dsimp only at hSw); go_simp; first | done | with_reducible rfl)
                      (try simp only [Act.put, List.setIfInBounds_toArray, List.set_cons_zero, List.set_cons_succ, List.getElem_toArray, List.getElem_cons_succ, List.getElem_cons_zero])
                      refine wpAnyH_ready (rs := [1, 9]) (by kernel_rfl) (by simp) ?_
                      refine AllReadyH.cons rfl (fun K hK => ?_) (AllReadyH.cons rfl (fun K hK => ?_) AllReadyH.nil)
                      · have f3_70 := HS69_.out.f3
                        go_simp
                        refine hK.out _ _ trivial (fun hHeld => ?_)
                        clear hK K f3_70
                        (try simp only [Act.put, List.setIfInBounds_toArray, List.set_cons_zero, List.set_cons_succ, List.getElem_toArray, List.getElem_cons_succ, List.getElem_cons_zero])
                        refine wpAnyH_ready (rs := [9]) (by kernel_rfl) (by simp) ?_
                        refine AllReadyH.cons rfl (fun K hK => ?_) AllReadyH.nil
                        · go_simp
                          refine hK.out _ _ trivial (fun hHeld => ?_)
                          clear hK K hHeld
                          (try simp only [Act.put, List.setIfInBounds_toArray, List.set_cons_zero, List.set_cons_succ, List.getElem_toArray, List.getElem_cons_succ, List.getElem_cons_zero])
                          refine gen_al (W := V69) ?_
                          intro V71 hWn
                          have HS71_ := Lib.hid (by rw [hWn]; exact HS69_.out.al _ : RSt w V71 B (M + 2 + 4) R F id x1 x2 g c xs)
                          have HE71 : Hid (∀ j u, ([.int .i64 ra, .int .i64 rb] : List Value)[j]? = some u → V71.cell? ((⟨V69.heap.size, 0, none⟩ : Addr).add j) = some u) := Lib.hid (by rw [hWn]; exact two_new rfl)
                          have hHeld : (fun _ : World => True) V71 := trivial
                          clear hWn HS69_
                          refine wpAnyH_ready (rs := [10]) (by kernel_rfl) (by simp) ?_
                          refine AllReadyH.cons rfl (fun K hK => ?_) AllReadyH.nil
                          rw [if_pos (by rfl)]
                          refine wp_append_at _ _ _ _ rfl w.heap.size 174 i0 (.agg #[.int .i64 0, .int .i64 0]) 2 16 Try.underlying61 hi hz0 hz1 hz2 rfl (by decide) (.slice (some ⟨g, 0, none⟩) xs.length c) xs.length ((xs.map evC).flatten) (by rfl) (by exact HS71_.out.evs.ownR) ⟨V69.heap.size, 0, none⟩ 1 1 [.int .i64 ra, .int .i64 rb] (by rfl) rfl HE71.out (by simp [Value.oneCell']) (by unfold maxLen; omega) (by omega) (by have := HS71_.out.dk.sz; omega) ?_
                          intro v' w7 hown' hgrow hat
                          obtain ⟨g', c', rfl, hge⟩ := own_form hown' (Nat.succ_pos _)
                          have hat2 : g' = g ∨ g' = V71.heap.size := by simpa [Value.ownBlock] using hat
                          have HZ := Lib.hid (HS71_.out.fin hlt hwF hRF hown' hgrow hat2 (by unfold inI; omega) (by unfold inI; omega))
                          have h2_7 := HZ.out.2.cell 2
                          have h3_7 := HZ.out.2.cell 3
                          have hf_7 := HZ.out.2.frozen 3
                          simp at h2_7 h3_7
                          clear hown' hgrow hat hat2
                          refine hK.out _ _ trivial (fun hHeld => ?_)
                          clear hK K
                          (try simp only [Act.put, List.setIfInBounds_toArray, List.set_cons_zero, List.set_cons_succ, List.getElem_toArray, List.getElem_cons_succ, List.getElem_cons_zero])
                          refine wpAnyH_take (i := 11) (v := ?_) rfl (by kernel_rfl) (by kernel_rfl) (by kernel_rfl) (fun _ _ _ h => h) (Or.inl ⟨by rfl, ?_⟩) (by assumption) ?_
                          rotate_left
                          · (intro w hSw; (try dsimp only at hSw); go_simp; first | done | with_reducible rfl)
                          (try simp only [Act.put, List.setIfInBounds_toArray, List.set_cons_zero, List.set_cons_succ, List.getElem_toArray, List.getElem_cons_succ, List.getElem_cons_zero])
                          refine wpAnyH_ready (rs := [12]) (by kernel_rfl) (by simp) ?_
                          refine AllReadyH.cons rfl (fun K hK => ?_) AllReadyH.nil
                          go_simp
                          refine hK.out _ _ trivial (fun hHeld => ?_)
                          clear hK K
                          (try simp only [Act.put, List.setIfInBounds_toArray, List.set_cons_zero, List.set_cons_succ, List.getElem_toArray, List.getElem_cons_succ, List.getElem_cons_zero])
                          refine wpAnyH_done (by kernel_rfl) ?_ _
                          (try go_wp2_with fail)
                          go_meet
                          exact ⟨rfl, x1, x2, g', c', xs ++ [⟨ra, rb⟩], by simp; omega, ix1, by omega, Lib.hid (HZ.out.1.le (by omega))⟩
                      · go_simp
                        refine hK.out _ _ trivial (fun hHeld => ?_)
                        clear hK K hHeld
                        (try simp only [Act.put, List.setIfInBounds_toArray, List.set_cons_zero, List.set_cons_succ, List.getElem_toArray, List.getElem_cons_succ, List.getElem_cons_zero])
                        refine gen_al (W := V69) ?_
                        intro V72 hWn
                        have HS72_ := Lib.hid (by rw [hWn]; exact HS69_.out.al _ : RSt w V72 B (M + 2 + 4) R F id x1 x2 g c xs)
                        have HE72 : Hid (∀ j u, ([.int .i64 ra, .int .i64 rb] : List Value)[j]? = some u → V72.cell? ((⟨V69.heap.size, 0, none⟩ : Addr).add j) = some u) := Lib.hid (by rw [hWn]; exact two_new rfl)
                        have hHeld : (fun _ : World => True) V72 := trivial
                        clear hWn HS69_
                        refine wpAnyH_ready (rs := [1]) (by kernel_rfl) (by simp) ?_
                        refine AllReadyH.cons rfl (fun K hK => ?_) AllReadyH.nil
                        · have f3_73 := HS72_.out.f3
                          go_simp
                          refine hK.out _ _ trivial (fun hHeld => ?_)
                          clear hK K f3_73
                          (try simp only [Act.put, List.setIfInBounds_toArray, List.set_cons_zero, List.set_cons_succ, List.getElem_toArray, List.getElem_cons_succ, List.getElem_cons_zero])
                          refine wpAnyH_ready (rs := [10]) (by kernel_rfl) (by simp) ?_
                          refine AllReadyH.cons rfl (fun K hK => ?_) AllReadyH.nil
                          rw [if_pos (by rfl)]
                          refine wp_append_at _ _ _ _ rfl w.heap.size 174 i0 (.agg #[.int .i64 0, .int .i64 0]) 2 16 Try.underlying61 hi hz0 hz1 hz2 rfl (by decide) (.slice (some ⟨g, 0, none⟩) xs.length c) xs.length ((xs.map evC).flatten) (by rfl) (by exact HS72_.out.evs.ownR) ⟨V69.heap.size, 0, none⟩ 1 1 [.int .i64 ra, .int .i64 rb] (by rfl) rfl HE72.out (by simp [Value.oneCell']) (by unfold maxLen; omega) (by omega) (by have := HS72_.out.dk.sz; omega) ?_
                          intro v' w7 hown' hgrow hat
                          obtain ⟨g', c', rfl, hge⟩ := own_form hown' (Nat.succ_pos _)
                          have hat2 : g' = g ∨ g' = V72.heap.size := by simpa [Value.ownBlock] using hat
                          have HZ := Lib.hid (HS72_.out.fin hlt hwF hRF hown' hgrow hat2 (by unfold inI; omega) (by unfold inI; omega))
                          have h2_7 := HZ.out.2.cell 2
                          have h3_7 := HZ.out.2.cell 3
                          have hf_7 := HZ.out.2.frozen 3
                          simp at h2_7 h3_7
                          clear hown' hgrow hat hat2
                          refine hK.out _ _ trivial (fun hHeld => ?_)
                          clear hK K
                          (try simp only [Act.put, List.setIfInBounds_toArray, List.set_cons_zero, List.set_cons_succ, List.getElem_toArray, List.getElem_cons_succ, List.getElem_cons_zero])
                          refine wpAnyH_take (i := 11) (v := ?_) rfl (by kernel_rfl) (by kernel_rfl) (by kernel_rfl) (fun _ _ _ h => h) (Or.inl ⟨by rfl, ?_⟩) (by assumption) ?_
                          rotate_left
                          · (intro w hSw; (try dsimp only at hSw); go_simp; first | done | with_reducible rfl)
                          (try simp only [Act.put, List.setIfInBounds_toArray, List.set_cons_zero, List.set_cons_succ, List.getElem_toArray, List.getElem_cons_succ, List.getElem_cons_zero])
                          refine wpAnyH_ready (rs := [12]) (by kernel_rfl) (by simp) ?_
                          refine AllReadyH.cons rfl (fun K hK => ?_) AllReadyH.nil
                          go_simp
                          refine hK.out _ _ trivial (fun hHeld => ?_)
                          clear hK K
                          (try simp only [Act.put, List.setIfInBounds_toArray, List.set_cons_zero, List.set_cons_succ, List.getElem_toArray, List.getElem_cons_succ, List.getElem_cons_zero])
                          refine wpAnyH_done (by kernel_rfl) ?_ _
                          (try go_wp2_with fail)
                          go_meet
                          exact ⟨rfl, x1, x2, g', c', xs ++ [⟨ra, rb⟩], by simp; omega, ix1, by omega, Lib.hid (HZ.out.1.le (by omega))⟩
            · have b2 : (m == 2) = false := beq_eq_false_iff_ne.2 e2
              go_wp2_with fail
              go_meet
              exact ⟨rfl, x1, x2, g, c, xs, by omega, ix1, by omega, Lib.hid (HS2.out.le (by omega))⟩
      case rest =>
        obtain ⟨rfl, y1, y2, g, c, xs, hxl, iy1, hy2, HS⟩ := hcut
        clear HS2 hxl6
        obtain ⟨W11, hW11⟩ : ∃ x, x = wc := ⟨_, rfl⟩
        subst hW11
        have f0 := HS.out.box.cell 0
        have f1 := HS.out.box.cell 1
        have f2 := HS.out.box.cell 2
        have f3 := HS.out.box.cell 3
        have r0 := HS.out.res.cell 0
        have r1 := HS.out.res.cell 1
        have r2 := HS.out.res.cell 2
        have r3 := HS.out.res.cell 3
        have t0 := HS.out.res.frozen 0
        have t1 := HS.out.res.frozen 1
        have t2 := HS.out.res.frozen 2
        have t3 := HS.out.res.frozen 3
        simp at f0 f1 f2 f3 r0 r1 r2 r3
        go_wp2_with fail
        refine bodyPost_ret (v := .agg #[.int .i64 id, .int .i64 y1, .int .i64 y2, .slice (some ⟨g, 0, none⟩) xs.length c]) (by simp [results, Try.results101, go_sem, r0, r1, r2, r3]) rfl ?_
        have hD := (((HS.out.dk.set (F := R) (j := 0) (u := .int .i64 id) hwR hRB).set (F := R) (j := 1) (u := .int .i64 y1) hwR hRB).set (F := R) (j := 2) (u := .int .i64 y2) hwR hRB).set (F := R) (j := 3) (u := .slice (some ⟨g, 0, none⟩) xs.length c) hwR hRB
        have hne : ∀ k, Value.ownBlock (.slice (some ⟨g, 0, none⟩) xs.length c) = some k → k ≠ R := fun k hk => by simp [Value.ownBlock] at hk; subst hk; exact HS.out.gR
        have hE := (((HS.out.evs.setOther (G := R) (j := 0) (x := .int .i64 id) hne).setOther (G := R) (j := 1) (x := .int .i64 y1) hne).setOther (G := R) (j := 2) (x := .int .i64 y2) hne).setOther (G := R) (j := 3) (x := .slice (some ⟨g, 0, none⟩) xs.length c) hne
        exact ⟨⟨id, y1, y2, xs⟩, g, c, rfl, ⟨hid, iy1, by unfold inI; simp only; omega⟩, hy2, by simp only; omega, hE.wide (Nat.le_refl _) (by simp), hD.cur.le_K (by omega), hD.gr⟩
  end Go.Proofs.Ytenjajcknmfhfaa
