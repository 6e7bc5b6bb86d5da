/- DrawVe, DrawVd, DrawVf, FnVersL, in one text. -/
import Derived.Test.YtdbomnhakikmfaaDrawSu
import Derived.Test.YtdbomnhakikmfaaVeO
import Derived.Test.YtdbomnhakikmfaaVersZA
import Derived.Deep.RegionWith
import Derived.Test.YtdbomnhakikmfaaDrawRe
import Derived.Test.YtdbomnhakikmfaaFrame
import Derived.Deep.DeepCutAuto
namespace Go.Proofs.Ytdbomnhakikmfaa
set_option linter.unusedVariables false
set_option linter.unusedSimpArgs false
open Go.RowKit Go.Sort

theorem Try.info_veD : (Try.prog.info? 49).map (fun i => (i.zero, i.size, i.bytes)) = some (some (.agg #[.int .i64 0, .slice none 0 0]), 2, 32) := by kernel_rfl
theorem VesD.lowerD {lo lo' : Nat} {w : World} {v : Value} {es : List (Ve × Value)} (h : VesD lo w v es) (hl : lo' ≤ lo) : VesD lo' w v es := by
  refine ⟨?_, fun p hp => ⟨(h.each p hp).1.wide hl (Nat.le_refl _), (h.each p hp).2⟩⟩
  exact ownsRow_base_a' h.row hl
theorem VesD.grown {lo B : Nat} {w w' : World} {v : Value} {es : List (Ve × Value)} (h : VesD lo w v es) (hg : w.grownBy w' (some B)) (hB : B < lo) : VesD lo w' v es :=
  ⟨own_grown h.row hg hB, fun p hp => ⟨((h.each p hp).1.grown hg hB).wide (Nat.le_refl _) hg.size, (h.each p hp).2⟩⟩
theorem VesD.setOther {lo G j : Nat} {w : World} {v x : Value} {es : List (Ve × Value)} (h : VesD lo w v es) (hn : ∀ k, v.ownBlock = some k → k ≠ G) (he : ∀ p ∈ es, ∀ k, p.2.ownBlock = some k → k ≠ G) : VesD lo (w.setCell ⟨G, j, none⟩ x) v es := by
  refine ⟨h.row.kept (row := some G) ⟨rfl, rfl, rfl, by simp, fun k _ hk => Below.heap_setCell w ⟨G, j, none⟩ x k (fun e => hk (by rw [e]))⟩ ?_, fun p hp => ⟨by rw [show (w.setCell ⟨G, j, none⟩ x).heap.size = w.heap.size by simp]; exact (h.each p hp).1.setOther (he p hp), (h.each p hp).2⟩⟩
  rcases hv : v.ownBlock with _ | k
  · exact .inl rfl
  · exact .inr fun e => hn k hv (Option.some.inj e)
theorem wpList_append_nil0 {P : Program} {w : World} {ops : Array Oper} {rest : List Oper} {o : Oper} {a : Act} {Q : Exit → Act → World → Prop} (hgd : o.guard = none) (s x : Operand) (t : TypeId)
    (ho : o.op = .call { callee := .builtin .append, args := #[s, x], argTypes := #[t, t] })
    (base : Nat) (e : TypeId) (i : TypeInfo) (size : Nat) (ht : P.underlying t = some (.slice e)) (hi : P.info? e = some i)
    (v : Value) (n : Nat) (xs : List Value) (hs : a.eval s = v) (hown : w.ownsRow base e size v n xs) (c : Nat) (hx : a.eval x = .slice none 0 c)
    (h : wpList P ops Q rest (a.put o.dst v) w) : wpList P ops Q (o :: rest) a w := by
  refine wpList_plain hgd fun K hK => ?_
  exact wp_append_nil0 s x t ho base e i size ht hi v n xs hs hown c hx (hK _ _ h)
structure VSt (w wx : World) (B K F lo hi : Nat) (x0 x1 x2 : Int) (g c : Nat) (xs : List Ev) (l : Value) (es : List (Ve × Value)) : Prop where
  dk : Dk w wx B K
  box : BxV wx F [.int .i64 x0, .int .i64 x1, .int .i64 x2, .slice (some ⟨g, 0, none⟩) xs.length c]
  evs : EvsO lo hi wx (.slice (some ⟨g, 0, none⟩) xs.length c) xs
  ves : VesD (F + 1) wx l es
  le16 : ∀ p ∈ es, p.1.rules.length ≤ 16
section
variable {w wx w9 : World} {B K K9 F lo hi : Nat} {x0 x1 x2 : Int} {g c : Nat} {xs : List Ev} {l : Value} {es : List (Ve × Value)}
theorem VSt.szF (h : VSt w wx B K F lo hi x0 x1 x2 g c xs l es) : F + 1 ≤ wx.heap.size := h.box.lt
theorem VSt.step (h : VSt w wx B K F lo hi x0 x1 x2 g c xs l es) (hB : B < F) (hlo : B < lo) (hc : Cur w9 B K9) (hg : wx.grownBy w9 (some B)) : VSt w w9 B K9 F lo hi x0 x1 x2 g c xs l es :=
  ⟨h.dk.step hc hg, h.box.grown hg (by simp; omega), h.evs.grown hg hlo, h.ves.grown hg (by omega), h.le16⟩
theorem VSt.below (h : VSt w wx B K F lo hi x0 x1 x2 g c xs l es) (hb : Below wx.heap.size wx w9) : VSt w w9 B K F lo hi x0 x1 x2 g c xs l es := ⟨h.dk.below hb, h.box.below hb, h.evs.below hb, h.ves.below hb, h.le16⟩
theorem VSt.al (h : VSt w wx B K F lo hi x0 x1 x2 g c xs l es) (o : Obj) : VSt w (wx.alloc o) B K F lo hi x0 x1 x2 g c xs l es := h.below (below_al (Below.refl _ _) o)
theorem VSt.le (h : VSt w wx B K F lo hi x0 x1 x2 g c xs l es) (hk : K ≤ K9) : VSt w wx B K9 F lo hi x0 x1 x2 g c xs l es := ⟨h.dk.le hk, h.box, h.evs, h.ves, h.le16⟩
theorem VSt.app {r : Ve} {s v' : Value} (h : VSt w wx B K F lo hi x0 x1 x2 g c xs l es) (hwF : w.heap.size ≤ F) (hBw : B < w.heap.size) (hhi : hi ≤ F) (he : RusO (F + 1) wx.heap.size wx s r.rules) (hok : r.ok) (ha : ∀ g, s.ownBlock = some g → l.ownBlock ≠ some g) (h16 : r.rules.length ≤ 16)
    (hown : w9.ownsRow (F + 1) 49 2 v' (es.length + 1) (vesC es ++ veX r s)) (hg : wx.grownBy w9 l.ownBlock) (hat : v'.ownBlock = l.ownBlock ∨ v'.ownBlock = some wx.heap.size) : VSt w w9 B K F lo hi x0 x1 x2 g c xs v' (es ++ [(r, s)]) := by
  have hge : ∀ k, l.ownBlock = some k → F + 1 ≤ k := fun k hk => (h.ves.row.lt k hk).1
  refine ⟨h.dk.app hg (fun k hk => by have := hge k hk; omega) hBw, h.box.grown hg (fun e => by have := hge F e.symm; omega), h.evs.offr hg (fun k hk e => by have := hge k e; have := h.evs.2.2 k hk; omega), h.ves.app he hok ha hown hg hat, fun p hp => ?_⟩
  rcases List.mem_append.1 hp with hp | hp
  · exact h.le16 p hp
  · rw [List.mem_singleton.1 hp]; exact h16
theorem VSt.set (h : VSt w wx B K F lo hi x0 x1 x2 g c xs l es) {G j : Nat} {x : Value} (hG : w.heap.size ≤ G) (hBG : B < G) (hF : F ≠ G) (hgG : g ≠ G) (hl : ∀ k, l.ownBlock = some k → k ≠ G) (he : ∀ p ∈ es, ∀ k, p.2.ownBlock = some k → k ≠ G) : VSt w (wx.setCell ⟨G, j, none⟩ x) B K F lo hi x0 x1 x2 g c xs l es :=
  ⟨h.dk.set hG hBG, h.box.other hF, h.evs.setOther (fun k hk => by simp [Value.ownBlock] at hk; omega), h.ves.setOther hl he, h.le16⟩
end
def VesDrawn (w : World) (B K : Nat) (e : Ending) (w' : World) : Prop := ∃ v es, e = .returned v ∧ es.length ≤ 6 ∧ (∀ p ∈ es, p.1.rules.length ≤ 16) ∧ VesD w.heap.size w' v es ∧ Cur w' B K ∧ w.grownBy w' (some B)

set_option maxRecDepth 20000 in
set_option maxHeartbeats 8000000 in
theorem versions_any (B K lo hi : Nat) (x0 x1 x2 : Int) (g c : Nat) (xs : List Ev) (w : World) (h : Cur w B K) (hK : K ≤ 30000) (he : EvsO lo hi w (.slice (some ⟨g, 0, none⟩) xs.length c) xs) (hBlo : B < lo) (hhi : hi ≤ w.heap.size) (ix1 : inI x1) (hxl : xs.length ≤ 16) :
    Calls Try.prog 46 #[.pointer (some ⟨B, 0, none⟩), .agg #[.int .i64 x0, .int .i64 x1, .int .i64 x2, .slice (some ⟨g, 0, none⟩) xs.length c]] w (VesDrawn w B (K + 1600)) := by
  obtain ⟨i0, hi0, hz0, hz1, hz2⟩ := info_parts Try.info_ru
  obtain ⟨j0, hj, hy0, hy1, hy2⟩ := info_parts Try.info_veD
  have hlt := h.lt
  obtain ⟨F, hF⟩ : ∃ F, w.heap.size = F := ⟨_, rfl⟩
  have hwF : w.heap.size ≤ F := by omega
  have hBF : B < F := by omega
  have hiF : hi ≤ F := by omega
  have hgF : g < F := by have := he.2.2 g rfl; omega
  have hs1 : (w.alloc (.cells #[.int .i64 x0, .int .i64 x1, .int .i64 x2, .slice (some ⟨g, 0, none⟩) xs.length c] 27 (0, 0))).heap.size = F + 1 := by simp; omega
  have HS0 : Hid (VSt w ((w.alloc (.cells #[.int .i64 x0, .int .i64 x1, .int .i64 x2, .slice (some ⟨g, 0, none⟩) xs.length c] 27 (0, 0))).alloc (.cells #[] 49 (0, 0))) B K F lo hi x0 x1 x2 g c xs (.slice (some ⟨F + 1, 0, none⟩) 0 0) []) :=
    Lib.hid ⟨((Dk.start h).al _).al _, (BxV.new' hF _ _).al _, (he.alloc _).alloc _, VesD.start hs1, fun p hp => by cases hp⟩
  have HFE := Lib.hid hF
  clear h he hs1 hF
  go_enter Try.func46, Try.ntmps46
  go_upto_region 2 with fail
  try rw [HFE.out]
  generalize hW1 : (w.alloc (.cells #[.int .i64 x0, .int .i64 x1, .int .i64 x2, .slice (some ⟨g, 0, none⟩) xs.length c] 27 (0, 0))).alloc (.cells #[] 49 (0, 0)) = W1 at *
  clear hW1
  go_wp2_with fail
  refine (amongZ_any B K W1.heap.size 0 4 4 [0, 0, 100, 500] _ (HS0.out.dk.al (.cells (([0, 0, 100, 500] : List Int).map (Value.int .i64)).toArray 3)).cur (by omega) rfl (by omega) (by omega) (by have := HS0.out.dk.cur.lt; omega) (new_nums W1 [0, 0, 100, 500] 3 _ rfl)).mono ?_
  rintro e w1 ⟨fr0, rfl, mfr, hc, hg⟩
  have HS1 := Lib.hid ((HS0.out.al (.cells (([0, 0, 100, 500] : List Int).map (Value.int .i64)).toArray 3)).step hBF hBlo hc hg)
  have bfr : 0 ≤ fr0 ∧ fr0 ≤ 500 := by simp at mfr; omega
  clear hc hg mfr HS0
  go_wp2_with fail
  refine (pick_any B (K + 2) 4 _ HS1.out.dk.cur (by omega) (by omega) (by omega)).mono ?_
  rintro e w2 ⟨n0, rfl, hn0, hn1, hc, hg⟩
  obtain ⟨N, rfl⟩ := Int.eq_ofNat_of_zero_le hn0
  have hN : N ≤ 3 := by omega
  have HS2 := Lib.hid (HS1.out.step hBF hBlo hc hg)
  clear hc hg hn0 hn1 HS1
  go_wp2_with fail
  go_loopw [5, 6, 7] (fun l f n wr => ∃ (k : Nat) (fr : Int) (a : Option Addr) (c' : Nat) (es : List (Ve × Value)), k ≤ N ∧ n = .int .i64 k ∧ f = .int .i64 fr ∧ 0 ≤ fr ∧ fr ≤ 500 + 2000 * ((N : Int) - k) ∧ l = .slice a es.length c' ∧ es.length + k ≤ N ∧ Hid (VSt w wr B (K + 4 + 510 * (N - k)) F lo hi x0 x1 x2 g c xs (.slice a es.length c') es)) (fun _ _ n _ => (intOf n).toNat)
  case atStart => exact ⟨N, fr0, _, _, [], Nat.le_refl _, rfl, rfl, by omega, by omega, rfl, by simp, Lib.hid (HS2.out.le (by omega))⟩
  case round =>
    clear HS2 bfr
    obtain ⟨k, fr, a, c', es, hk, rfl, rfl, hf0, hf1, rfl, hel, HS⟩ := hrel
    obtain ⟨M, hM⟩ : ∃ M, K + 4 + 510 * (N - k) = M := ⟨_, rfl⟩
    rw [hM] at HS
    have hMK : M ≤ K + 1534 := by omega
    by_cases hpos : 0 < k
    · have hMK2 : M + 510 ≤ K + 1534 := by omega
      have gk : (0 : Int) < (k : Int) := by omega
      have gk2 : decide ((0 : Int) < (k : Int)) = true := decide_eq_true gk
      have hkw : IntKind.i64.wrap ((k : Int) - 1) = ((k - 1 : Nat) : Int) := by
        rw [Go.IntWalk.i64_in _ (by omega)]
        omega
      have c0 := HS.out.box.cell 0
      have c1 := HS.out.box.cell 1
      have c2 := HS.out.box.cell 2
      have c3 := HS.out.box.cell 3
      simp at c0 c1 c2 c3
      have hszr := HS.out.szF
      go_wp2_with fail
      refine (suited_any B M lo hi x0 x1 x2 g c xs _ HS.out.dk.cur (by omega) HS.out.evs hBlo (by omega) ix1 hxl).mono ?_
      rintro e w2 ⟨v, t, rfl, htl, hr, hc, hg⟩
      obtain ⟨sa, sc, rfl⟩ := own_slice (hr.ofO (n := 0))
      have HAP : Hid (∀ gg, Value.ownBlock (.slice sa t.length sc) = some gg → Value.ownBlock (.slice a es.length c') ≠ some gg) := Lib.hid (fun gg e1 e2 => by have h1 := HS.out.ves.lt gg e2; have h2 := hr.1.ge gg e1; omega)
      have HR2 : Hid (RusO (F + 1) w2.heap.size w2 (.slice sa t.length sc) t) := Lib.hid (hr.wide hszr (Nat.le_refl _))
      have HS2 := Lib.hid (HS.out.step hBF hBlo hc hg)
      clear hc hg hr HS c0 c1 c2 c3 hszr
      by_cases hes : 0 < es.length
      · have ge : (0 : Int) < (es.length : Int) := by omega
        have ge2 : decide ((0 : Int) < (es.length : Int)) = true := decide_eq_true ge
        obtain ⟨G, hG⟩ : ∃ G, w2.heap.size = G := ⟨_, rfl⟩
        have hFG : F < G := by have := HS2.out.szF; omega
        have HB3 : Hid (BxV (w2.alloc (.cells #[.int .i64 fr, .slice sa t.length sc] 49 (0, 0))) G [.int .i64 fr, .slice sa t.length sc]) := Lib.hid (BxV.new' hG _ _)
        have HNL : Hid (∀ k, Value.ownBlock (.slice a es.length c') = some k → k ≠ G) := Lib.hid (fun k hk => by have := HS2.out.ves.lt k hk; omega)
        have HNE : Hid (∀ p ∈ es, ∀ k, p.2.ownBlock = some k → k ≠ G) := Lib.hid (fun p hp k hk => by have := (HS2.out.ves.each p hp).1.2.2 k hk; omega)
        have HGE := Lib.hid hG
        clear hG
        go_wp2_with fail
        refine (one_any B (M + 500) 3 _ (HS2.out.al (.cells #[.int .i64 fr, .slice sa t.length sc] 49 (0, 0))).dk.cur (by omega) (by omega) (by omega)).mono ?_
        rintro e w4 ⟨b, rfl, hc, hg⟩
        have HS4 := Lib.hid ((HS2.out.al (.cells #[.int .i64 fr, .slice sa t.length sc] 49 (0, 0))).step hBF hBlo hc hg)
        have HR4 : Hid (RusO (F + 1) w4.heap.size w4 (.slice sa t.length sc) t) := Lib.hid (((HR2.out.alloc (.cells #[.int .i64 fr, .slice sa t.length sc] 49 (0, 0))).grown hg (by omega)).wide (Nat.le_refl _) (by have := hg.size; simp at this; omega))
        have HB4 := Lib.hid (HB3.out.grown hg (by simp; omega))
        have hG4 : G < w4.heap.size := HB4.out.lt
        clear hc hg HS2 HR2 HB3
        try rw [HGE.out]
        cases b
        · have f0 := HB4.out.cell 0
          have f1 := HB4.out.cell 1
          simp at f0 f1
          go_wp2_with (first | (at_builtin; refine wpList_append_own_at _ rfl _ _ 24 rfl (F + 1) 49 j0 (.agg #[.int .i64 0, .slice none 0 0]) 2 32 Try.underlying24 hj hy0 hy1 hy2 rfl (by decide) (.slice a es.length c') es.length (vesC es) rfl (HS4.out.ves.row.alloc _) _ 1 1 [.int .i64 fr, .slice sa t.length sc] rfl rfl (cells2_new' _ _ _ _ (by simp)) (by simp [Value.oneCell']) (by unfold maxLen; omega) (by omega) (by have := HS4.out.szF; (try simp at this); simp; omega) ?_; intro v' w9 hown' hgrow _ hat))
          have HS9 := Lib.hid ((HS4.out.al (.cells #[.int .i64 fr, .slice sa t.length sc] 49 (0, 0))).app (r := ⟨fr, t⟩) (s := .slice sa t.length sc) hwF hlt hiF ((HR4.out.alloc _).wide (Nat.le_refl _) (by simp)) (by simp only [Ve.ok, inI]; omega) HAP.out htl hown' hgrow hat)
          obtain ⟨na, nc, rfl⟩ := HS9.out.ves.slice
          clear hown' hgrow hat
          go_wp2_with fail
          refine (amongZ_any B (M + 500 + 2) w9.heap.size 0 4 4 [1, 100, 365, 2000] _ (HS9.out.dk.al (.cells (([1, 100, 365, 2000] : List Int).map (Value.int .i64)).toArray 3)).cur (by omega) rfl (by omega) (by omega) (by have := HS9.out.dk.cur.lt; omega) (new_nums w9 [1, 100, 365, 2000] 3 _ rfl)).mono ?_
          rintro e w10 ⟨d, rfl, md, hc, hg⟩
          have HS10 := Lib.hid ((HS9.out.al (.cells (([1, 100, 365, 2000] : List Int).map (Value.int .i64)).toArray 3)).step hBF hBlo hc hg)
          have bd : 0 ≤ d ∧ d ≤ 2000 := by simp at md; omega
          have hfw : IntKind.i64.wrap (fr + d) = fr + d := Go.IntWalk.i64_in _ (by omega)
          clear hc hg md HS9
          go_wp2_with fail
          go_roundw
          case rel => exact ⟨k - 1, fr + d, na, nc, es ++ [(⟨fr, t⟩, .slice sa t.length sc)], by omega, by first | rfl | go_num, rfl, by omega, by omega, by simp, by simp; omega, Lib.hid (HS10.out.le (by omega))⟩
          case measure => simp [intOf]; omega
        · obtain ⟨j, hj9⟩ : ∃ j, es.length = j + 1 := ⟨es.length - 1, by omega⟩
          have hjw : IntKind.i64.wrap ((es.length : Int) - 1) = (j : Int) := by
            rw [Go.IntWalk.i64_in _ (by omega)]
            omega
          have hjn : (j : Int).toNat = j := by omega
          have hj0 : (0 : Int) ≤ (j : Int) := by omega
          have hjl : (j : Int) < (es.length : Int) := by omega
          have hjl2 : j < es.length := by omega
          obtain ⟨a9, cap9, e9, _, _, h9⟩ := HS4.out.ves.reads.ves
          rcases h9 with h9 | ⟨bl, off, hbl, rfl, h9⟩
          · exact absurd (congrArg List.length h9) (by rw [List.length_map, List.length_nil]; omega)
          obtain ⟨s9, _, l1, hrr9, _⟩ := h9 j (by rw [List.length_map]; omega)
          have ha9 : a = some ⟨bl, off, none⟩ := by injection e9
          subst ha9
          have hrl : ((es.map Prod.fst).getD j veD).rules.length ≤ 16 := by
            have hm : (es.map Prod.fst).getD j veD = es[j].1 := by
              rw [List.getD_eq_getElem?_getD, List.getElem?_map, List.getElem?_eq_getElem hjl2]; rfl
            rw [hm]
            exact HS4.out.le16 _ (List.getElem_mem hjl2)
          obtain ⟨rr, hrr⟩ : ∃ rr, ((es.map Prod.fst).getD j veD).rules = rr := ⟨_, rfl⟩
          rw [hrr] at hrr9 hrl
          have HOKS := Lib.hid hrr9.rus_ok
          have HR9 := Lib.hid hrr9
          obtain ⟨ra, rc, rfl, hrc, hrm, _⟩ := hrr9.rus
          unfold maxLen at hrm
          have HJ := Lib.hid hj9
          clear h9 hrr e9 hj9 hes hrr9
          have f0 := below_al_cell (show w4.cell? ⟨G, 0, none⟩ = some (.int .i64 fr) by have := HB4.out.cell 0; simpa using this) (.cells #[] 36 (0, 0))
          have l1d := below_al_cell l1 (.cells #[] 36 (0, 0))
          have f1 := below_al_cell (show w4.cell? ⟨G, 1, none⟩ = some (.slice sa t.length sc) by have := HB4.out.cell 1; simpa using this) (.cells #[] 36 (0, 0))
          have HOE : Hid (World.ownsRow (w4.alloc (.cells #[] 36 (0, 0))) w4.heap.size 36 4 (.slice (some ⟨w4.heap.size, 0, none⟩) 0 0) 0 []) := Lib.hid (World.ownsRow_made w4 #[] 0 (Nat.le_refl _) (Nat.zero_le _) rfl)
          rcases ra with _ | ad
          · obtain ⟨h0, h1⟩ : rr = [] ∧ True := ⟨HR9.out.none_nil.1, trivial⟩
            subst h0
            simp only [List.length_nil] at l1d
            have p0 : w4.cell? ⟨G, 0, none⟩ = some (.int .i64 fr) := by have := HB4.out.cell 0; simpa using this
            have p1 : w4.cell? ⟨G, 1, none⟩ = some (.slice sa t.length sc) := by have := HB4.out.cell 1; simpa using this
            have y1 : w4.frozen? ⟨G, 1, none⟩ = false := HB4.out.frozen 1
            have HS8 : Hid (VSt w ((w4.setCell ⟨G, 1, none⟩ (.slice (some ⟨w4.heap.size, 0, none⟩) 0 0)).alloc (.cells #[] 36 (0, 0))) B (M + 500 + 2) F lo hi x0 x1 x2 g c xs (.slice (some ⟨bl, off, none⟩) es.length c') es) := Lib.hid ((HS4.out.set (by omega) (by omega) (by omega) (by omega) HNL.out HNE.out).al (.cells #[] 36 (0, 0)))
            have HR8 : Hid (RusO (F + 1) ((w4.setCell ⟨G, 1, none⟩ (.slice (some ⟨w4.heap.size, 0, none⟩) 0 0)).alloc (.cells #[] 36 (0, 0))).heap.size ((w4.setCell ⟨G, 1, none⟩ (.slice (some ⟨w4.heap.size, 0, none⟩) 0 0)).alloc (.cells #[] 36 (0, 0))) (.slice (some ⟨w4.heap.size, 0, none⟩) 0 0) ([] : List Ru)) := Lib.hid (by have hX := RusO.empty (lo := F + 1) (w4.setCell ⟨G, 1, none⟩ (.slice (some ⟨w4.heap.size, 0, none⟩) 0 0)) (by simpa using HS4.out.szF); simpa using hX)
            have HAP8 : Hid (∀ gg, Value.ownBlock (.slice (some ⟨w4.heap.size, 0, none⟩) 0 0) = some gg → Value.ownBlock (.slice (some ⟨bl, off, none⟩) es.length c') ≠ some gg) := Lib.hid (fun gg e1 e2 => by have := HS4.out.ves.lt gg e2; simp [Value.ownBlock] at e1; omega)
            clear f0 f1
            go_wp2_with (first | (at_builtin; refine wpList_append_own_at _ rfl _ _ 24 rfl (F + 1) 49 j0 (.agg #[.int .i64 0, .slice none 0 0]) 2 32 Try.underlying24 hj hy0 hy1 hy2 rfl (by decide) (.slice (some ⟨bl, off, none⟩) es.length c') es.length (vesC es) rfl (HS8.out.ves.row.alloc _) _ 1 1 [.int .i64 fr, .slice (some ⟨w4.heap.size, 0, none⟩) 0 0] rfl rfl (cells2_new' _ _ _ _ (by simp)) (by simp [Value.oneCell']) (by unfold maxLen; omega) (by omega) (by have := HS8.out.szF; (try simp at this); simp; omega) ?_; intro v' w9 hown' hgrow _ hat))
            have HS9 := Lib.hid ((HS8.out.al (.cells #[.int .i64 fr, .slice (some ⟨w4.heap.size, 0, none⟩) 0 0] 49 (0, 0))).app (r := ⟨fr, ([] : List Ru)⟩) (s := .slice (some ⟨w4.heap.size, 0, none⟩) 0 0) hwF hlt hiF ((HR8.out.alloc _).wide (Nat.le_refl _) (by simp)) (by simp only [Ve.ok, inI]; omega) HAP8.out (by simp) hown' hgrow hat)
            obtain ⟨na, nc, rfl⟩ := HS9.out.ves.slice
            clear hown' hgrow hat
            go_wp2_with fail
            refine (amongZ_any B (M + 500 + 2) w9.heap.size 0 4 4 [1, 100, 365, 2000] _ (HS9.out.dk.al (.cells (([1, 100, 365, 2000] : List Int).map (Value.int .i64)).toArray 3)).cur (by omega) rfl (by omega) (by omega) (by have := HS9.out.dk.cur.lt; omega) (new_nums w9 [1, 100, 365, 2000] 3 _ rfl)).mono ?_
            rintro e w10 ⟨d, rfl, md, hc, hg⟩
            have HS10 := Lib.hid ((HS9.out.al (.cells (([1, 100, 365, 2000] : List Int).map (Value.int .i64)).toArray 3)).step hBF hBlo hc hg)
            have bd : 0 ≤ d ∧ d ≤ 2000 := by simp at md; omega
            have hfw : IntKind.i64.wrap (fr + d) = fr + d := Go.IntWalk.i64_in _ (by omega)
            clear hc hg md HS9
            go_wp2_with fail
            go_roundw
            case rel => exact ⟨k - 1, fr + d, na, nc, es ++ [(⟨fr, ([] : List Ru)⟩, .slice (some ⟨w4.heap.size, 0, none⟩) 0 0)], by omega, by first | rfl | go_num, rfl, by omega, by omega, by simp, by simp; omega, Lib.hid (HS10.out.le (by omega))⟩
            case measure => simp [intOf]; omega
          · have HC := Lib.hid (show ∀ W, Below w4.heap.size w4 W → ∀ j u, (rr.map ruC).flatten[j]? = some u → W.cell? (ad.add j) = some u from fun W hW => rus_cells HR9.out W hW)
            have HONE := Lib.hid (flat_one ruC_one rr)
            have HLEN := Lib.hid (flat_map_len ruC_len rr)
            obtain ⟨NEWS, hN9⟩ : ∃ N, (rr.map ruC).flatten = N := ⟨_, rfl⟩
            rw [hN9] at HC HONE HLEN
            have HN := Lib.hid hN9
            clear hN9
            go_wp2_with (first | (at_builtin; refine wpList_append_own _ rfl _ _ 47 rfl w4.heap.size 36 i0 (.agg #[.int .i64 0, .int .i64 0, .int .i64 0, .int .i64 0]) 4 32 Try.underlying47 hi0 hz0 hz1 hz2 rfl (by decide) (.slice (some ⟨w4.heap.size, 0, none⟩) 0 0) 0 [] rfl HOE.out ad rr.length rc NEWS rfl HLEN.out (HC.out _ (below_al (Below.refl _ _) _)) HONE.out (by unfold maxLen; omega) (by omega) (by simp) ?_; intro v5 w5 hown5 hg5 _; obtain ⟨a5, c5, hv5⟩ := own_slice hown5; rw [Nat.zero_add] at hv5; subst hv5; have b5 : Below w4.heap.size w4 w5 := Below.grown (below_al (Below.refl _ _) _) hg5 (by simp) (fun kk hk => by simp [Value.ownBlock] at hk; omega); have p0 := cell_kept (show w4.cell? ⟨G, 0, none⟩ = some (.int .i64 fr) by have := HB4.out.cell 0; simpa using this) b5; have p1 := cell_kept (show w4.cell? ⟨G, 1, none⟩ = some (.slice sa t.length sc) by have := HB4.out.cell 1; simpa using this) b5; have y1 : w5.frozen? ⟨G, 1, none⟩ = false := frozen_kept (HB4.out.frozen 1) hG4 b5; have hs5 := b5.size; have HS8 : Hid (VSt w (w5.setCell ⟨G, 1, none⟩ (.slice a5 rr.length c5)) B (M + 500 + 2) F lo hi x0 x1 x2 g c xs (.slice (some ⟨bl, off, none⟩) es.length c') es) := Lib.hid ((HS4.out.below b5).set (by omega) (by omega) (by omega) (by omega) HNL.out HNE.out); have HX8 : RusO w4.heap.size w5.heap.size w5 (.slice a5 rr.length c5) rr := RusO.of_row (by rw [HN.out]; simpa using hown5) rfl HOKS.out; have HR8 : Hid (RusO (F + 1) (w5.setCell ⟨G, 1, none⟩ (.slice a5 rr.length c5)).heap.size (w5.setCell ⟨G, 1, none⟩ (.slice a5 rr.length c5)) (.slice a5 rr.length c5) rr) := Lib.hid (by rw [show (w5.setCell ⟨G, 1, none⟩ (.slice a5 rr.length c5)).heap.size = w5.heap.size by simp]; exact (HX8.wide HS4.out.szF (Nat.le_refl _)).setOther (fun k hk => by have := HX8.1.ge k hk; omega)); have HAP8 : Hid (∀ gg, Value.ownBlock (.slice a5 rr.length c5) = some gg → Value.ownBlock (.slice (some ⟨bl, off, none⟩) es.length c') ≠ some gg) := Lib.hid (fun gg e1 e2 => by have := HS4.out.ves.lt gg e2; have := HX8.1.ge gg e1; omega); have g0 : (w5.setCell ⟨G, 1, none⟩ (.slice a5 rr.length c5)).cell? ⟨G, 0, none⟩ = some (.int .i64 fr) := (by rw [cellset_other _ (by simp)]; exact p0); have g1 : (w5.setCell ⟨G, 1, none⟩ (.slice a5 rr.length c5)).cell? ⟨G, 1, none⟩ = some (.slice a5 rr.length c5) := cellset_same _ p1; clear HX8 hown5 hg5) | (first | (at_builtin; refine wpList_append_own_at _ rfl _ _ 24 rfl (F + 1) 49 j0 (.agg #[.int .i64 0, .slice none 0 0]) 2 32 Try.underlying24 hj hy0 hy1 hy2 rfl (by decide) (.slice (some ⟨bl, off, none⟩) es.length c') es.length (vesC es) rfl (HS8.out.ves.row.alloc _) _ 1 1 [.int .i64 fr, .slice a5 rr.length c5] rfl rfl (cells2_new' _ _ _ _ (by simp)) (by simp [Value.oneCell']) (by unfold maxLen; omega) (by omega) (by have := HS8.out.szF; (try simp at this); simp; omega) ?_; intro v' w9 hown' hgrow _ hat)))
            have HS9 := Lib.hid ((HS8.out.al (.cells #[.int .i64 fr, .slice a5 rr.length c5] 49 (0, 0))).app (r := ⟨fr, rr⟩) (s := .slice a5 rr.length c5) hwF hlt hiF ((HR8.out.alloc _).wide (Nat.le_refl _) (by simp)) (by simp only [Ve.ok, inI]; omega) HAP8.out hrl hown' hgrow hat)
            obtain ⟨na, nc, rfl⟩ := HS9.out.ves.slice
            clear hown' hgrow hat
            go_wp2_with fail
            refine (amongZ_any B (M + 500 + 2) w9.heap.size 0 4 4 [1, 100, 365, 2000] _ (HS9.out.dk.al (.cells (([1, 100, 365, 2000] : List Int).map (Value.int .i64)).toArray 3)).cur (by omega) rfl (by omega) (by omega) (by have := HS9.out.dk.cur.lt; omega) (new_nums w9 [1, 100, 365, 2000] 3 _ rfl)).mono ?_
            rintro e w10 ⟨d, rfl, md, hc, hg⟩
            have HS10 := Lib.hid ((HS9.out.al (.cells (([1, 100, 365, 2000] : List Int).map (Value.int .i64)).toArray 3)).step hBF hBlo hc hg)
            have bd : 0 ≤ d ∧ d ≤ 2000 := by simp at md; omega
            have hfw : IntKind.i64.wrap (fr + d) = fr + d := Go.IntWalk.i64_in _ (by omega)
            clear hc hg md HS9
            go_wp2_with fail
            go_roundw
            case rel => exact ⟨k - 1, fr + d, na, nc, es ++ [(⟨fr, rr⟩, .slice a5 rr.length c5)], by omega, by first | rfl | go_num, rfl, by omega, by omega, by simp, by simp; omega, Lib.hid (HS10.out.le (by omega))⟩
            case measure => simp [intOf]; omega
      · have ge2 : decide ((0 : Int) < (es.length : Int)) = false := decide_eq_false (by omega)
        have HS3 := Lib.hid (HS2.out.al (.cells #[.int .i64 fr, .slice sa t.length sc] 49 (0, 0)))
        have HR3 : Hid (RusO (F + 1) (w2.alloc (.cells #[.int .i64 fr, .slice sa t.length sc] 49 (0, 0))).heap.size (w2.alloc (.cells #[.int .i64 fr, .slice sa t.length sc] 49 (0, 0))) (.slice sa t.length sc) t) := Lib.hid ((HR2.out.alloc _).wide (Nat.le_refl _) (by simp))
        have f0 := cell_new w2 #[.int .i64 fr, .slice sa t.length sc] 49 0 (v := .int .i64 fr) rfl
        have f1 := cell_new w2 #[.int .i64 fr, .slice sa t.length sc] 49 1 (v := .slice sa t.length sc) rfl
        go_wp2_with (first | (at_builtin; refine wpList_append_own_at _ rfl _ _ 24 rfl (F + 1) 49 j0 (.agg #[.int .i64 0, .slice none 0 0]) 2 32 Try.underlying24 hj hy0 hy1 hy2 rfl (by decide) (.slice a es.length c') es.length (vesC es) rfl (HS3.out.ves.row.alloc _) _ 1 1 [.int .i64 fr, .slice sa t.length sc] rfl rfl (cells2_new' _ _ _ _ (by simp)) (by simp [Value.oneCell']) (by unfold maxLen; omega) (by omega) (by have := HS3.out.szF; (try simp at this); simp; omega) ?_; intro v' w9 hown' hgrow _ hat))
        have HS9 := Lib.hid ((HS3.out.al (.cells #[.int .i64 fr, .slice sa t.length sc] 49 (0, 0))).app (r := ⟨fr, t⟩) (s := .slice sa t.length sc) hwF hlt hiF ((HR3.out.alloc _).wide (Nat.le_refl _) (by simp)) (by simp only [Ve.ok, inI]; omega) HAP.out htl hown' hgrow hat)
        obtain ⟨na, nc, rfl⟩ := HS9.out.ves.slice
        clear hown' hgrow hat
        go_wp2_with fail
        refine (amongZ_any B (M + 500) w9.heap.size 0 4 4 [1, 100, 365, 2000] _ (HS9.out.dk.al (.cells (([1, 100, 365, 2000] : List Int).map (Value.int .i64)).toArray 3)).cur (by omega) rfl (by omega) (by omega) (by have := HS9.out.dk.cur.lt; omega) (new_nums w9 [1, 100, 365, 2000] 3 _ rfl)).mono ?_
        rintro e w10 ⟨d, rfl, md, hc, hg⟩
        have HS10 := Lib.hid ((HS9.out.al (.cells (([1, 100, 365, 2000] : List Int).map (Value.int .i64)).toArray 3)).step hBF hBlo hc hg)
        have bd : 0 ≤ d ∧ d ≤ 2000 := by simp at md; omega
        have hfw : IntKind.i64.wrap (fr + d) = fr + d := Go.IntWalk.i64_in _ (by omega)
        clear hc hg md HS9
        go_wp2_with fail
        go_roundw
        case rel => exact ⟨k - 1, fr + d, na, nc, es ++ [(⟨fr, t⟩, .slice sa t.length sc)], by omega, by first | rfl | go_num, rfl, by omega, by omega, by simp, by simp; omega, Lib.hid (HS10.out.le (by omega))⟩
        case measure => simp [intOf]; omega
    · obtain rfl : k = 0 := by omega
      clear hpos hk
      have hel3 : es.length ≤ 3 := by omega
      go_wp2_with fail
      refine (pick_any B M 32 _ HS.out.dk.cur (by omega) (by omega) (by omega)).mono ?_
      rintro e w1 ⟨m, rfl, hm0, hm1, hc, hg⟩
      have HS1 := Lib.hid (HS.out.step hBF hBlo hc hg)
      clear hc hg HS hel hM
      by_cases e0 : m = 0
      · subst e0
        go_wp2_with fail
        refine (amongZ_any B (M + 2) w1.heap.size 0 3 3 [0, 20000, 20001] _ (HS1.out.dk.al (.cells (([0, 20000, 20001] : List Int).map (Value.int .i64)).toArray 3)).cur (by omega) rfl (by omega) (by omega) (by have := HS1.out.dk.cur.lt; omega) (new_nums w1 [0, 20000, 20001] 3 _ rfl)).mono ?_
        rintro e w2 ⟨d, rfl, md, hc, hg⟩
        have HS2 := Lib.hid ((HS1.out.al (.cells (([0, 20000, 20001] : List Int).map (Value.int .i64)).toArray 3)).step hBF hBlo hc hg)
        have bd : 0 ≤ d ∧ d ≤ 20001 := by simp at md; omega
        clear hc hg md HS1
        have HS3 := Lib.hid (HS2.out.al (.cells #[] 36 (0, 0)))
        have HR3 : Hid (RusO (F + 1) (w2.alloc (.cells #[] 36 (0, 0))).heap.size (w2.alloc (.cells #[] 36 (0, 0))) (.slice (some ⟨w2.heap.size, 0, none⟩) 0 0) []) := Lib.hid (RusO.empty w2 HS2.out.szF)
        have HAP : Hid (∀ gg, Value.ownBlock (.slice (some ⟨w2.heap.size, 0, none⟩) 0 0) = some gg → Value.ownBlock (.slice a es.length c') ≠ some gg) := Lib.hid (fun gg e1 e2 => by have := HS2.out.ves.lt gg e2; simp [Value.ownBlock] at e1; omega)
        go_wp2_with (first | (at_builtin; refine wpList_append_own_at _ rfl _ _ 24 rfl (F + 1) 49 j0 (.agg #[.int .i64 0, .slice none 0 0]) 2 32 Try.underlying24 hj hy0 hy1 hy2 rfl (by decide) (.slice a es.length c') es.length (vesC es) rfl (HS3.out.ves.row.alloc _) _ 1 1 [.int .i64 d, .slice (some ⟨w2.heap.size, 0, none⟩) 0 0] rfl rfl (cells2_new' _ _ _ _ (by simp)) (by simp [Value.oneCell']) (by unfold maxLen; omega) (by omega) (by have := HS3.out.szF; (try simp at this); simp; omega) ?_; intro v' w9 hown' hgrow _ hat))
        have HS9 := Lib.hid ((HS3.out.al (.cells #[.int .i64 d, .slice (some ⟨w2.heap.size, 0, none⟩) 0 0] 49 (0, 0))).app (r := ⟨d, []⟩) (s := .slice (some ⟨w2.heap.size, 0, none⟩) 0 0) hwF hlt hiF ((HR3.out.alloc _).wide (Nat.le_refl _) (by simp)) (by simp only [Ve.ok, inI]; omega) HAP.out (by simp) hown' hgrow hat)
        obtain ⟨na, nc, rfl⟩ := HS9.out.ves.slice
        clear hown' hgrow hat
        go_wp2_with fail
        go_ret
        exact ⟨_, _, rfl, by simp; omega, HS9.out.le16, HS9.out.ves.lowerD (by omega), HS9.out.dk.cur.le_K (by omega), HS9.out.dk.gr⟩
      · have b0 : (m == 0) = false := beq_eq_false_iff_ne.2 e0
        by_cases e1 : m = 1
        · subst e1
          go_wp2_with fail
          go_loopw [5] (fun l wr => ∃ (a : Option Addr) (c' : Nat) (es : List (Ve × Value)), es.length ≤ 6 ∧ l = .slice a es.length c' ∧ Hid (VSt w wr B (M + 2 + 2 * es.length) F lo hi x0 x1 x2 g c xs (.slice a es.length c') es)) (fun l _ => match l with | .slice _ n _ => 14 - n | _ => 0)
          case atStart => exact ⟨a, c', es, by omega, rfl, Lib.hid (HS1.out.le (by omega))⟩
          case round =>
            clear HS1 hel3
            obtain ⟨a, c', es, ht, rfl, HS⟩ := hrel
            go_wp2_with fail
            refine (pick_any B (M + 2 + 2 * es.length) 2 _ HS.out.dk.cur (by omega) (by omega) (by omega)).mono ?_
            rintro e w3 ⟨d, rfl, hd0, hd1, hc, hg⟩
            have HS3 := Lib.hid (HS.out.step hBF hBlo hc hg)
            clear hc hg HS
            have hw : IntKind.i64.wrap (5 + d) = 5 + d := Go.IntWalk.i64_in _ (by omega)
            have hw2 : IntKind.i64.wrap (9000 + (es.length : Int)) = 9000 + (es.length : Int) := Go.IntWalk.i64_in _ (by omega)
            by_cases hq : (es.length : Int) < 5 + d
            · have hq2 : decide ((es.length : Int) < 5 + d) = true := decide_eq_true hq
              have hel9 : es.length ≤ 5 := by omega
              have HS4 := Lib.hid (HS3.out.al (.cells #[] 36 (0, 0)))
              have HR4 : Hid (RusO (F + 1) (w3.alloc (.cells #[] 36 (0, 0))).heap.size (w3.alloc (.cells #[] 36 (0, 0))) (.slice (some ⟨w3.heap.size, 0, none⟩) 0 0) []) := Lib.hid (RusO.empty w3 HS3.out.szF)
              have HAP : Hid (∀ gg, Value.ownBlock (.slice (some ⟨w3.heap.size, 0, none⟩) 0 0) = some gg → Value.ownBlock (.slice a es.length c') ≠ some gg) := Lib.hid (fun gg e1 e2 => by have := HS3.out.ves.lt gg e2; simp [Value.ownBlock] at e1; omega)
              go_wp2_with (first | (at_builtin; refine wpList_append_own_at _ rfl _ _ 24 rfl (F + 1) 49 j0 (.agg #[.int .i64 0, .slice none 0 0]) 2 32 Try.underlying24 hj hy0 hy1 hy2 rfl (by decide) (.slice a es.length c') es.length (vesC es) rfl (HS4.out.ves.row.alloc _) _ 1 1 [.int .i64 (9000 + (es.length : Int)), .slice (some ⟨w3.heap.size, 0, none⟩) 0 0] rfl rfl (cells2_new' _ _ _ _ (by simp)) (by simp [Value.oneCell']) (by unfold maxLen; omega) (by omega) (by have := HS4.out.szF; (try simp at this); simp; omega) ?_; intro v' w9 hown' hgrow _ hat))
              have HS9 := Lib.hid ((HS4.out.al (.cells #[.int .i64 (9000 + (es.length : Int)), .slice (some ⟨w3.heap.size, 0, none⟩) 0 0] 49 (0, 0))).app (r := ⟨9000 + (es.length : Int), []⟩) (s := .slice (some ⟨w3.heap.size, 0, none⟩) 0 0) hwF hlt hiF ((HR4.out.alloc _).wide (Nat.le_refl _) (by simp)) (by simp only [Ve.ok, inI]; omega) HAP.out (by simp) hown' hgrow hat)
              obtain ⟨na, nc, rfl⟩ := HS9.out.ves.slice
              clear hown' hgrow hat
              go_wp2_with fail
              go_roundw
              case rel => exact ⟨na, nc, es ++ [(⟨9000 + (es.length : Int), []⟩, .slice (some ⟨w3.heap.size, 0, none⟩) 0 0)], by simp; omega, rfl, Lib.hid (HS9.out.le (by simp; omega))⟩
              case measure => simp; omega
            · have hq2 : decide ((es.length : Int) < 5 + d) = false := decide_eq_false hq
              go_wp2_with fail
              go_ret
              exact ⟨_, es, rfl, by omega, HS3.out.le16, HS3.out.ves.lowerD (by omega), HS3.out.dk.cur.le_K (by omega), HS3.out.dk.gr⟩
        · have b1 : (m == 1) = false := beq_eq_false_iff_ne.2 e1
          go_wp2_with fail
          go_ret
          exact ⟨_, es, rfl, by omega, HS1.out.le16, HS1.out.ves.lowerD (by omega), HS1.out.dk.cur.le_K (by omega), HS1.out.dk.gr⟩
end Go.Proofs.Ytdbomnhakikmfaa

namespace Go.Proofs.Ytdbomnhakikmfaa
set_option linter.unusedVariables false
set_option linter.unusedSimpArgs false
open Go.RowKit Go.Sort

theorem wrap_inI (x : Int) : inI (IntKind.i64.wrap x) := by
  unfold inI
  rw [IntKind.wrap_i64]
  omega
def DayDrawn (w : World) (B K : Nat) (e : Ending) (w' : World) : Prop := ∃ n : Int, e = .returned (.int .i64 n) ∧ inI n ∧ Cur w' B K ∧ w.grownBy w' (some B)
theorem VesD.at {lo : Nat} {w : World} {a : Option Addr} {n c : Nat} {es : List (Ve × Value)} (h : VesD lo w (.slice a n c) es) : es = [] ∨ ∃ b off, b < w.heap.size ∧ a = some ⟨b, off, none⟩ ∧ ∀ i, i < es.length → ∃ f, inI f ∧ w.cell? ⟨b, off + i * 2, none⟩ = some (.int .i64 f) := by
  obtain ⟨a9, cap9, e9, _, _, h9⟩ := h.reads.ves
  injection e9 with e1 e2 e3
  subst e1
  rcases h9 with h9 | ⟨b, off, hb, e, h9⟩
  · exact .inl (List.map_eq_nil_iff.1 h9)
  · refine .inr ⟨b, off, hb, e, fun i hi => ?_⟩
    obtain ⟨s, h1, _, _, h2⟩ := h9 i (by rw [List.length_map]; exact hi)
    exact ⟨_, h2, h1⟩
set_option maxRecDepth 20000 in
set_option maxHeartbeats 8000000 in
theorem dayNear_any (B K lo lo2 hi : Nat) (x0 x1 x2 : Int) (g c : Nat) (xs : List Ev) (a : Option Addr) (c' : Nat) (es : List (Ve × Value)) (w : World) (h : Cur w B K) (hK : K ≤ 40000) (he : EvsO lo hi w (.slice (some ⟨g, 0, none⟩) xs.length c) xs) (hok : inI x0 ∧ inI x1 ∧ inI x2) (hBlo : B < lo) (hv : VesD lo2 w (.slice a es.length c') es) (hB2 : B < lo2) (hel : es.length ≤ 6) :
    Calls Try.prog 47 #[.pointer (some ⟨B, 0, none⟩), .slice a es.length c', .agg #[.int .i64 x0, .int .i64 x1, .int .i64 x2, .slice (some ⟨g, 0, none⟩) xs.length c]] w (DayDrawn w B (K + 12)) := by
  have hlt := h.lt
  obtain ⟨n, b, hres⟩ : ∃ n b, firRes (es.map Prod.fst) ⟨x0, x1, x2, xs⟩ = (n, b) := ⟨_, _, rfl⟩
  have hn : b = true → 0 ≤ n ∧ n ≤ 20000 := fun hb => by subst hb; obtain ⟨_, k, _, _, _, _, _, h6⟩ := vz_hit hres; exact h6
  have HRES := Lib.hid hres
  have HD0 := Lib.hid ((Dk.start h).al (.cells #[.int .i64 x0, .int .i64 x1, .int .i64 x2, .slice (some ⟨g, 0, none⟩) xs.length c] 27 (0, 0)))
  have HV0 := Lib.hid (hv.alloc (.cells #[.int .i64 x0, .int .i64 x1, .int .i64 x2, .slice (some ⟨g, 0, none⟩) xs.length c] 27 (0, 0)))
  have HE0 := Lib.hid (he.alloc (.cells #[.int .i64 x0, .int .i64 x1, .int .i64 x2, .slice (some ⟨g, 0, none⟩) xs.length c] 27 (0, 0)))
  have HOK := Lib.hid hok
  clear h he hv hres hok
  go_enter Try.func47, Try.ntmps47
  go_wp2_with fail
  refine (specFirstDueDay_any _ _ (es.map Prod.fst) ⟨x0, x1, x2, xs⟩ _ HV0.out.reads ⟨_, rfl, HE0.out.row, HOK.out⟩ n b HRES.out).mono ?_
  rintro e w1 ⟨rfl, b1⟩
  have HD1 := Lib.hid (HD0.out.below b1)
  have HV1 := Lib.hid (HV0.out.below b1)
  clear b1 HD0 HV0 HE0
  cases b
  · by_cases hes : 0 < es.length
    · have ge : (0 : Int) < (es.length : Int) := by omega
      have ge2 : decide ((0 : Int) < (es.length : Int)) = true := decide_eq_true ge
      obtain ⟨bl, off, hbl, rfl, hat⟩ := (HV1.out.at).resolve_left (fun e => by rw [e] at hes; exact absurd hes (by simp))
      clear hbl
      go_wp2_with fail
      refine (one_any B (K + 0) 2 _ HD1.out.cur (by omega) (by omega) (by omega)).mono ?_
      rintro e w4 ⟨b4, rfl, hc, hg⟩
      have HD4 := Lib.hid (HD1.out.step hc hg)
      have HV4 := Lib.hid (HV1.out.grown hg hB2)
      clear hc hg HD1 HV1 hat
      cases b4
      · go_wp2_with fail
        refine (day_any B (K + 0 + 2) _ HD4.out.cur (by omega)).mono ?_
        rintro e w5 ⟨d, rfl, id, hc, hg⟩
        have HD5 := Lib.hid (HD4.out.step hc hg)
        clear hc hg
        go_wp2_with fail
        go_ret
        exact ⟨_, rfl, id, HD5.out.cur.le_K (by omega), HD5.out.gr⟩
      · obtain ⟨a9, off9, hbl9, e9, hat9⟩ := (HV4.out.at).resolve_left (fun e => by rw [e] at hes; exact absurd hes (by simp))
        have hblB : bl ≠ B := by have := (HV4.out.row.lt bl rfl).1; omega
        have e1 : bl = a9 := by injection e9 with e9; injection e9
        have e2 : off = off9 := by injection e9 with e9; injection e9
        subst e1 e2
        have HAT : Hid (∀ m : Int, 0 ≤ m → m < (es.length : Int) → ∃ f, inI f ∧ ∀ w', w4.grownBy w' (some B) → w'.cell? ⟨bl, off + m.toNat * 2, none⟩ = some (.int .i64 f)) := Lib.hid (fun m h0 h1 => by
          obtain ⟨f, hf, hcell⟩ := hat9 m.toNat (by omega)
          exact ⟨f, hf, fun w' hg => hg.cell hcell (by simpa using hblB)⟩)
        have HQ := Lib.hid (Dk.start HD4.out.cur)
        have HD4K := HD4
        clear hat9 e9 HV4 HD4
        go_wp2_with fail
        go_region_with (first | (go_at_call 55; (with_reducible refine (pick_any B _ (es.length : Int) _ (by first | exact HQ.out.cur | exact HQ.out.drew.cur) (by omega) (by omega) (by omega)).mono ?_); rintro e w5 ⟨m, rfl, hm0, hm1, hc, hg⟩; replace HQ := Lib.hid (by first | exact HQ.out.step hc hg | exact HQ.out.drew.step hc hg); obtain ⟨f, hf, hcell⟩ := HAT.out m hm0 hm1; have f0 := hcell _ HQ.out.gr; clear hc hg) | (go_at_call 55; (with_reducible refine (pick_any B _ 2 _ (by first | exact HQ.out.cur | exact HQ.out.drew.cur) (by omega) (by omega) (by omega)).mono ?_); rintro e w6 ⟨d, rfl, hd0, hd1, hc, hg⟩; replace HQ := Lib.hid (by first | exact HQ.out.step hc hg | exact HQ.out.drew.step hc hg); clear hc hg; (try replace f0 := hcell _ HQ.out.gr)))
        all_goals
          go_wp2_with fail
          go_ret
          exact ⟨_, rfl, wrap_inI _, HQ.out.cur.le_K (by omega), grownBy_trans HD4K.out.gr HQ.out.gr⟩
    · have ge2 : decide ((0 : Int) < (es.length : Int)) = false := decide_eq_false (by omega)
      go_wp2_with fail
      refine (day_any B (K + 0) _ HD1.out.cur (by omega)).mono ?_
      rintro e w5 ⟨d, rfl, id, hc, hg⟩
      have HD5 := Lib.hid (HD1.out.step hc hg)
      clear hc hg
      go_wp2_with fail
      go_ret
      exact ⟨_, rfl, id, HD5.out.cur.le_K (by omega), HD5.out.gr⟩
  · have hn2 := hn rfl
    go_wp2_with fail
    refine (one_any B K 2 _ HD1.out.cur (by omega) (by omega) (by omega)).mono ?_
    rintro e w2 ⟨b2, rfl, hc, hg⟩
    have HD2 := Lib.hid (HD1.out.step hc hg)
    have HV2 := Lib.hid (HV1.out.grown hg hB2)
    clear hc hg HD1 HV1
    cases b2
    · by_cases hes : 0 < es.length
      · have ge : (0 : Int) < (es.length : Int) := by omega
        have ge2 : decide ((0 : Int) < (es.length : Int)) = true := decide_eq_true ge
        obtain ⟨bl, off, hbl, rfl, hat⟩ := (HV2.out.at).resolve_left (fun e => by rw [e] at hes; exact absurd hes (by simp))
        clear hbl
        go_wp2_with fail
        refine (one_any B (K + 2) 2 _ HD2.out.cur (by omega) (by omega) (by omega)).mono ?_
        rintro e w4 ⟨b4, rfl, hc, hg⟩
        have HD4 := Lib.hid (HD2.out.step hc hg)
        have HV4 := Lib.hid (HV2.out.grown hg hB2)
        clear hc hg HD2 HV2 hat
        cases b4
        · go_wp2_with fail
          refine (day_any B (K + 2 + 2) _ HD4.out.cur (by omega)).mono ?_
          rintro e w5 ⟨d, rfl, id, hc, hg⟩
          have HD5 := Lib.hid (HD4.out.step hc hg)
          clear hc hg
          go_wp2_with fail
          go_ret
          exact ⟨_, rfl, id, HD5.out.cur.le_K (by omega), HD5.out.gr⟩
        · obtain ⟨a9, off9, hbl9, e9, hat9⟩ := (HV4.out.at).resolve_left (fun e => by rw [e] at hes; exact absurd hes (by simp))
          have hblB : bl ≠ B := by have := (HV4.out.row.lt bl rfl).1; omega
          have e1 : bl = a9 := by injection e9 with e9; injection e9
          have e2 : off = off9 := by injection e9 with e9; injection e9
          subst e1 e2
          have HAT : Hid (∀ m : Int, 0 ≤ m → m < (es.length : Int) → ∃ f, inI f ∧ ∀ w', w4.grownBy w' (some B) → w'.cell? ⟨bl, off + m.toNat * 2, none⟩ = some (.int .i64 f)) := Lib.hid (fun m h0 h1 => by
            obtain ⟨f, hf, hcell⟩ := hat9 m.toNat (by omega)
            exact ⟨f, hf, fun w' hg => hg.cell hcell (by simpa using hblB)⟩)
          have HQ := Lib.hid (Dk.start HD4.out.cur)
          have HD4K := HD4
          clear hat9 e9 HV4 HD4
          go_wp2_with fail
          go_region_with (first | (go_at_call 55; (with_reducible refine (pick_any B _ (es.length : Int) _ (by first | exact HQ.out.cur | exact HQ.out.drew.cur) (by omega) (by omega) (by omega)).mono ?_); rintro e w5 ⟨m, rfl, hm0, hm1, hc, hg⟩; replace HQ := Lib.hid (by first | exact HQ.out.step hc hg | exact HQ.out.drew.step hc hg); obtain ⟨f, hf, hcell⟩ := HAT.out m hm0 hm1; have f0 := hcell _ HQ.out.gr; clear hc hg) | (go_at_call 55; (with_reducible refine (pick_any B _ 2 _ (by first | exact HQ.out.cur | exact HQ.out.drew.cur) (by omega) (by omega) (by omega)).mono ?_); rintro e w6 ⟨d, rfl, hd0, hd1, hc, hg⟩; replace HQ := Lib.hid (by first | exact HQ.out.step hc hg | exact HQ.out.drew.step hc hg); clear hc hg; (try replace f0 := hcell _ HQ.out.gr)))
          all_goals
            go_wp2_with fail
            go_ret
            exact ⟨_, rfl, wrap_inI _, HQ.out.cur.le_K (by omega), grownBy_trans HD4K.out.gr HQ.out.gr⟩
      · have ge2 : decide ((0 : Int) < (es.length : Int)) = false := decide_eq_false (by omega)
        go_wp2_with fail
        refine (day_any B (K + 2) _ HD2.out.cur (by omega)).mono ?_
        rintro e w5 ⟨d, rfl, id, hc, hg⟩
        have HD5 := Lib.hid (HD2.out.step hc hg)
        clear hc hg
        go_wp2_with fail
        go_ret
        exact ⟨_, rfl, id, HD5.out.cur.le_K (by omega), HD5.out.gr⟩
    · go_wp2_with fail
      refine (pick_any B (K + 2) 2 _ HD2.out.cur (by omega) (by omega) (by omega)).mono ?_
      rintro e w3 ⟨d, rfl, hd0, hd1, hc, hg⟩
      have HD3 := Lib.hid (HD2.out.step hc hg)
      have hw : IntKind.i64.wrap (n - d) = n - d := Go.IntWalk.i64_in _ (by omega)
      clear hc hg
      go_wp2_with fail
      go_ret
      exact ⟨_, rfl, by unfold inI; omega, HD3.out.cur.le_K (by omega), HD3.out.gr⟩
end Go.Proofs.Ytdbomnhakikmfaa

namespace Go.Proofs.Ytdbomnhakikmfaa
set_option linter.unusedVariables false
set_option linter.unusedSimpArgs false
open Go.RowKit Go.Sort

theorem isRow_after8 {k : IntKind} {w w' : World} {a : Option Addr} {len cap : Nat} {zs : List Int} (h : IsRow k w a len cap zs) (hb : Below w.heap.size w w') : IsRow k w' a len cap zs := by
  refine h.imp id ?_
  rintro ⟨x, rfl, hl, hm, hz, hc, hw⟩
  refine ⟨x, rfl, hl, hm, hz, fun i hi => ?_, hw⟩
  have := hc i hi
  exact (hb.cell (World.block_lt_of_cell? w _ this)).trans this
theorem VesD.put {lo G j : Nat} {w : World} {v x : Value} {es : List (Ve × Value)} (h : VesD lo w v es) (hG : G < lo) : VesD lo (w.setCell ⟨G, j, none⟩ x) v es :=
  h.setOther (fun k hk => by have := (h.row.lt k hk).1; omega) (fun p hp k hk => by have := (h.each p hp).1.1.ge k hk; omega)
def VrDrawn (w : World) (e : Ending) (w' : World) : Prop := ∃ (r : Rec) (g c : Nat) (v : Value) (es : List (Ve × Value)), e = .returned (.tuple #[v, .agg #[.int .i64 r.id, .int .i64 r.series, .int .i64 r.made, .slice (some ⟨g, 0, none⟩) r.evs.length c]]) ∧ r.ok ∧ es.length ≤ 6 ∧ VesD w.heap.size w' v es ∧ EvsO w.heap.size w'.heap.size w' (.slice (some ⟨g, 0, none⟩) r.evs.length c) r.evs ∧ Below w.heap.size w w'
def VrdDrawn (w : World) (e : Ending) (w' : World) : Prop := ∃ (r : Rec) (g c : Nat) (v : Value) (t : List Ve) (d : Int), e = .returned (.tuple #[v, .agg #[.int .i64 r.id, .int .i64 r.series, .int .i64 r.made, .slice (some ⟨g, 0, none⟩) r.evs.length c], .int .i64 d]) ∧ r.ok ∧ t.length ≤ 6 ∧ inI d ∧ RowR 2 rVe w' v t ∧ RowR 2 rEv w' (.slice (some ⟨g, 0, none⟩) r.evs.length c) r.evs ∧ Below w.heap.size w w'
set_option maxRecDepth 20000 in
set_option maxHeartbeats 8000000 in
theorem drawDueDays_any (a : Option Addr) (len cap : Nat) (zs : List Int) (w : World) (h : IsRow .u8 w a len cap zs) (hl : len ≤ 1099511627776) :
    Calls Try.prog 18 #[.slice a len cap] w (VrDrawn w) := by
  obtain ⟨R, hR⟩ : ∃ R, w.heap.size = R := ⟨_, rfl⟩
  obtain ⟨B, hB⟩ : ∃ B, R + 1 = B := ⟨_, rfl⟩
  have hRB : R < B := by omega
  have hwR : w.heap.size ≤ R := by omega
  have hs0 : (w.alloc (.cells #[.int .i64 0, .int .i64 0, .int .i64 0, .slice none 0 0] 27 (0, 0))).heap.size = B := by simp; omega
  have hs1 : ((w.alloc (.cells #[.int .i64 0, .int .i64 0, .int .i64 0, .slice none 0 0] 27 (0, 0))).alloc (.cells #[.slice a len cap, .int .i64 0, .int .u64 0] 76 (0, 0))).heap.size = B + 1 := by simp; omega
  have hcur := cur_new (isRow_after8 h (below_al (Below.refl _ _) (.cells #[.int .i64 0, .int .i64 0, .int .i64 0, .slice none 0 0] 27 (0, 0)))) hl 76
  rw [hs0] at hcur
  have HD0 : Hid (Dk w ((w.alloc (.cells #[.int .i64 0, .int .i64 0, .int .i64 0, .slice none 0 0] 27 (0, 0))).alloc (.cells #[.slice a len cap, .int .i64 0, .int .u64 0] 76 (0, 0))) B 0) := Lib.hid ⟨hcur, grownBy_of_below (below_al (below_al (Below.refl _ _) _) _) _⟩
  have HR0 : Hid (BxV ((w.alloc (.cells #[.int .i64 0, .int .i64 0, .int .i64 0, .slice none 0 0] 27 (0, 0))).alloc (.cells #[.slice a len cap, .int .i64 0, .int .u64 0] 76 (0, 0))) R [.int .i64 0, .int .i64 0, .int .i64 0, .slice none 0 0]) := Lib.hid ((BxV.new' hR _ _).al _)
  have HS1 := Lib.hid hs1
  have HS0 := Lib.hid hs0
  clear h hcur hs0 hs1
  have HRE := Lib.hid hR
  have HBE := Lib.hid hB
  clear hR hB
  go_enter Try.func18, Try.ntmps18
  go_upto_region 2 with fail
  try rw [HRE.out]
  try rw [HBE.out]
  generalize hW1 : (w.alloc (.cells #[.int .i64 0, .int .i64 0, .int .i64 0, .slice none 0 0] 27 (0, 0))).alloc (.cells #[.slice a len cap, .int .i64 0, .int .u64 0] 76 (0, 0)) = W1 at *
  have HW1 := Lib.hid hW1
  clear hW1
  go_wp2_with fail
  refine (record_any B 0 12 _ HD0.out.cur (by omega) (by unfold inI; omega)).mono ?_
  rintro e w2 ⟨⟨id, se, ma, xs⟩, g, c, rfl, hok, hma, hxl, he, hc, hg⟩
  rw [HS1.out] at he
  (try dsimp only at hok hma hxl he)
  (try dsimp only)
  obtain ⟨iid, ise, ima⟩ := hok
  have HD2 := Lib.hid (HD0.out.step hc hg)
  have HR2 := Lib.hid (HR0.out.grown hg (by simp; omega))
  have HE2 := Lib.hid he
  have hB2 : B < w2.heap.size := hc.lt
  clear hc hg he HD0 HR0
  obtain ⟨F, hF⟩ : ∃ F, w2.heap.size = F := ⟨_, rfl⟩
  have hBF : B < F := by omega
  have HB3 : Hid (BxV (w2.alloc (.cells #[.int .i64 id, .int .i64 se, .int .i64 ma, .slice (some ⟨g, 0, none⟩) xs.length c] 27 (0, 0))) F [.int .i64 id, .int .i64 se, .int .i64 ma, .slice (some ⟨g, 0, none⟩) xs.length c]) := Lib.hid (BxV.new' hF _ _)
  have HD3 := Lib.hid (HD2.out.al (.cells #[.int .i64 id, .int .i64 se, .int .i64 ma, .slice (some ⟨g, 0, none⟩) xs.length c] 27 (0, 0)))
  have HR3 := Lib.hid (HR2.out.al (.cells #[.int .i64 id, .int .i64 se, .int .i64 ma, .slice (some ⟨g, 0, none⟩) xs.length c] 27 (0, 0)))
  have HE3 : Hid (EvsO (B + 1) F (w2.alloc (.cells #[.int .i64 id, .int .i64 se, .int .i64 ma, .slice (some ⟨g, 0, none⟩) xs.length c] 27 (0, 0))) (.slice (some ⟨g, 0, none⟩) xs.length c) xs) := Lib.hid (by have := HE2.out.alloc (.cells #[.int .i64 id, .int .i64 se, .int .i64 ma, .slice (some ⟨g, 0, none⟩) xs.length c] 27 (0, 0)); rwa [hF] at this)
  go_upto_region 3 with fail
  try rw [hF]
  have HFE := Lib.hid hF
  clear hF HD2 HR2 HE2 hB2
  generalize hW3 : w2.alloc (.cells #[.int .i64 id, .int .i64 se, .int .i64 ma, .slice (some ⟨g, 0, none⟩) xs.length c] 27 (0, 0)) = W3 at *
  have HW3 := Lib.hid hW3
  clear hW3
  have c0 := HB3.out.cell 0
  have c1 := HB3.out.cell 1
  have c2 := HB3.out.cell 2
  have c3 := HB3.out.cell 3
  simp at c0 c1 c2 c3
  go_region_held3 (fun w' => w'.cell? ⟨F, 0, none⟩ = some (.int .i64 id) ∧ w'.cell? ⟨F, 1, none⟩ = some (.int .i64 se) ∧ w'.cell? ⟨F, 2, none⟩ = some (.int .i64 ma) ∧ w'.cell? ⟨F, 3, none⟩ = some (.slice (some ⟨g, 0, none⟩) xs.length c)) (first | with_reducible exact ⟨c0, c1, c2, c3⟩ | with_reducible exact ⟨cell_drew c0, cell_drew c1, cell_drew c2, cell_drew c3⟩ | (refine ⟨?_, ?_, ?_, ?_⟩ <;> (repeat rw [World.cell?_setCell_far _ _ _ _ (by first | (simp; done) | (simp; omega))]) <;> first | assumption | go_keep)) (first | (go_at_call 46; refine (versions_any B 60 (B + 1) F id se ma g c xs _ HD3.out.drew.cur (by omega) (HE3.out.below (Below.refl _ _).drew) (by omega) (by have := HB3.out.lt; show F ≤ W3.heap.size; omega) ise (by omega)).mono ?_; rintro e w4 ⟨v, es, rfl, hel, _, hv, hc, hg⟩; have HV4 : Hid (VesD F w4 v es) := Lib.hid (hv.lowerD (by have := HB3.out.lt; show F ≤ W3.heap.size; omega)); have HD4 := Lib.hid (HD3.out.drew.step hc hg); have HR4 := Lib.hid (HR3.out.drew.grown hg (by simp; omega)); have HB4 := Lib.hid (HB3.out.drew.grown hg (by simp; omega)); have HE4 := Lib.hid ((HE3.out.below (Below.refl _ _).drew).grown hg (by omega)); replace c0 := HB4.out.cell 0; replace c1 := HB4.out.cell 1; replace c2 := HB4.out.cell 2; replace c3 := HB4.out.cell 3; simp at c0 c1 c2 c3; have r0 := HR4.out.cell 0; have r1 := HR4.out.cell 1; have r2 := HR4.out.cell 2; have r3 := HR4.out.cell 3; simp at r0 r1 r2 r3; have q0 := HR4.out.frozen 0; have q1 := HR4.out.frozen 1; have q2 := HR4.out.frozen 2; have q3 := HR4.out.frozen 3; have hs4 := hg.size; clear hc hg hv))
  all_goals
    go_wp2_with fail
    refine bodyPost_ret (v := .tuple #[v, .agg #[.int .i64 id, .int .i64 se, .int .i64 ma, .slice (some ⟨g, 0, none⟩) xs.length c]]) (by simp [results, Try.results18, go_sem, r0, r1, r2, r3]) rfl ?_
    have hne : ∀ k, Value.ownBlock (.slice (some ⟨g, 0, none⟩) xs.length c) = some k → k ≠ R := fun k hk => by have := HE4.out.1.ge g rfl; simp [Value.ownBlock] at hk; omega
    have hE := (((HE4.out.setOther (G := R) (j := 0) (x := .int .i64 id) hne).setOther (G := R) (j := 1) (x := .int .i64 se) hne).setOther (G := R) (j := 2) (x := .int .i64 ma) hne).setOther (G := R) (j := 3) (x := (.slice (some ⟨g, 0, none⟩) xs.length c)) hne
    have hRF : R < F := by omega
    have hU := (((HV4.out.put (G := R) (j := 0) (x := .int .i64 id) hRF).put (G := R) (j := 1) (x := .int .i64 se) hRF).put (G := R) (j := 2) (x := .int .i64 ma) hRF).put (G := R) (j := 3) (x := (.slice (some ⟨g, 0, none⟩) xs.length c)) hRF
    have hb4 : Below w.heap.size w w4 := below_of_grownBy HD4.out.gr (Nat.le_refl _) (fun k e => by cases e; omega)
    have hb := (((hb4.setCell (p := ⟨R, 0, none⟩) hwR (.int .i64 id)).setCell (p := ⟨R, 1, none⟩) hwR (.int .i64 se)).setCell (p := ⟨R, 2, none⟩) hwR (.int .i64 ma)).setCell (p := ⟨R, 3, none⟩) hwR (.slice (some ⟨g, 0, none⟩) xs.length c)
    exact ⟨⟨id, se, ma, xs⟩, g, c, v, es, rfl, ⟨iid, ise, ima⟩, hel, hU.lowerD (by omega), hE.wide (by omega) (by have : F < W3.drew.heap.size := HB3.out.lt; simp; omega), hb⟩
set_option maxRecDepth 20000 in
set_option maxHeartbeats 4000000 in
theorem drawFirstDueDay_any (a : Option Addr) (len cap : Nat) (zs : List Int) (w : World) (h : IsRow .u8 w a len cap zs) (hl : len ≤ 1099511627776) :
    Calls Try.prog 6 #[.slice a len cap] w (VrDrawn w) := by
  have H := Lib.hid (isRow_after8 h (below_al (Below.refl _ _) (.cells #[.int .i64 0, .int .i64 0, .int .i64 0, .slice none 0 0] 27 (0, 0))))
  have HB0 : Hid (BxV (w.alloc (.cells #[.int .i64 0, .int .i64 0, .int .i64 0, .slice none 0 0] 27 (0, 0))) w.heap.size [.int .i64 0, .int .i64 0, .int .i64 0, .slice none 0 0]) := Lib.hid (BxV.new' rfl _ _)
  clear h
  go_enter Try.func6, Try.ntmps6
  go_wp2_with fail
  refine (drawDueDays_any a len cap zs _ H.out hl).mono ?_
  rintro e w1 ⟨⟨id, se, ma, xs⟩, g, c, v, es, rfl, hok, htl, hv, he, hb⟩
  (try dsimp only at hok he)
  (try dsimp only)
  have HB1 := Lib.hid (HB0.out.below hb)
  have r0 := HB1.out.cell 0
  have r1 := HB1.out.cell 1
  have r2 := HB1.out.cell 2
  have r3 := HB1.out.cell 3
  simp at r0 r1 r2 r3
  have q0 := HB1.out.frozen 0
  have q1 := HB1.out.frozen 1
  have q2 := HB1.out.frozen 2
  have q3 := HB1.out.frozen 3
  have hR1 : w.heap.size < (w.alloc (.cells #[.int .i64 0, .int .i64 0, .int .i64 0, .slice none 0 0] 27 (0, 0))).heap.size := by simp
  have hw1 : w.heap.size < w1.heap.size := Nat.lt_of_lt_of_le hR1 hb.size
  have HV1 := Lib.hid hv
  have HE1 := Lib.hid he
  have HBB := Lib.hid hb
  clear hv he hb
  go_wp2_with fail
  refine bodyPost_ret (v := .tuple #[v, .agg #[.int .i64 id, .int .i64 se, .int .i64 ma, .slice (some ⟨g, 0, none⟩) xs.length c]]) (by simp [results, Try.results6, go_sem, r0, r1, r2, r3]) rfl ?_
  have hne : ∀ k, Value.ownBlock (.slice (some ⟨g, 0, none⟩) xs.length c) = some k → k ≠ w.heap.size := fun k hk => by have := HE1.out.1.ge k hk; omega
  have hE := (((HE1.out.setOther (G := w.heap.size) (j := 0) (x := .int .i64 id) hne).setOther (G := w.heap.size) (j := 1) (x := .int .i64 se) hne).setOther (G := w.heap.size) (j := 2) (x := .int .i64 ma) hne).setOther (G := w.heap.size) (j := 3) (x := (.slice (some ⟨g, 0, none⟩) xs.length c)) hne
  have hU := (((HV1.out.put (G := w.heap.size) (j := 0) (x := .int .i64 id) hR1).put (G := w.heap.size) (j := 1) (x := .int .i64 se) hR1).put (G := w.heap.size) (j := 2) (x := .int .i64 ma) hR1).put (G := w.heap.size) (j := 3) (x := (.slice (some ⟨g, 0, none⟩) xs.length c)) hR1
  have hb4 : Below w.heap.size w w1 := (below_al (Below.refl _ _) _).trans (HBB.out.mono (Nat.le_of_lt hR1))
  have hb := (((hb4.setCell (p := ⟨w.heap.size, 0, none⟩) (Nat.le_refl _) (.int .i64 id)).setCell (p := ⟨w.heap.size, 1, none⟩) (Nat.le_refl _) (.int .i64 se)).setCell (p := ⟨w.heap.size, 2, none⟩) (Nat.le_refl _) (.int .i64 ma)).setCell (p := ⟨w.heap.size, 3, none⟩) (Nat.le_refl _) (.slice (some ⟨g, 0, none⟩) xs.length c)
  exact ⟨⟨id, se, ma, xs⟩, g, c, v, es, rfl, hok, htl, hU.lowerD (Nat.le_of_lt hR1), hE.wide (Nat.le_of_lt hR1) (by simp), hb⟩
set_option maxRecDepth 20000 in
set_option maxHeartbeats 8000000 in
theorem drawDecidesOn_any (a : Option Addr) (len cap : Nat) (zs : List Int) (w : World) (h : IsRow .u8 w a len cap zs) (hl : len ≤ 1099511627776) :
    Calls Try.prog 14 #[.slice a len cap] w (VrdDrawn w) := by
  obtain ⟨R, hR⟩ : ∃ R, w.heap.size = R := ⟨_, rfl⟩
  obtain ⟨B, hB⟩ : ∃ B, R + 1 = B := ⟨_, rfl⟩
  have hRB : R < B := by omega
  have hwR : w.heap.size ≤ R := by omega
  have hs0 : (w.alloc (.cells #[.int .i64 0, .int .i64 0, .int .i64 0, .slice none 0 0] 27 (0, 0))).heap.size = B := by simp; omega
  have hs1 : ((w.alloc (.cells #[.int .i64 0, .int .i64 0, .int .i64 0, .slice none 0 0] 27 (0, 0))).alloc (.cells #[.slice a len cap, .int .i64 0, .int .u64 0] 76 (0, 0))).heap.size = B + 1 := by simp; omega
  have hcur := cur_new (isRow_after8 h (below_al (Below.refl _ _) (.cells #[.int .i64 0, .int .i64 0, .int .i64 0, .slice none 0 0] 27 (0, 0)))) hl 76
  rw [hs0] at hcur
  have HD0 : Hid (Dk w ((w.alloc (.cells #[.int .i64 0, .int .i64 0, .int .i64 0, .slice none 0 0] 27 (0, 0))).alloc (.cells #[.slice a len cap, .int .i64 0, .int .u64 0] 76 (0, 0))) B 0) := Lib.hid ⟨hcur, grownBy_of_below (below_al (below_al (Below.refl _ _) _) _) _⟩
  have HR0 : Hid (BxV ((w.alloc (.cells #[.int .i64 0, .int .i64 0, .int .i64 0, .slice none 0 0] 27 (0, 0))).alloc (.cells #[.slice a len cap, .int .i64 0, .int .u64 0] 76 (0, 0))) R [.int .i64 0, .int .i64 0, .int .i64 0, .slice none 0 0]) := Lib.hid ((BxV.new' hR _ _).al _)
  have HS1 := Lib.hid hs1
  have HS0 := Lib.hid hs0
  clear h hcur hs0 hs1
  have HRE := Lib.hid hR
  have HBE := Lib.hid hB
  clear hR hB
  go_enter Try.func14, Try.ntmps14
  go_upto_region 2 with fail
  try rw [HRE.out]
  try rw [HBE.out]
  generalize hW1 : (w.alloc (.cells #[.int .i64 0, .int .i64 0, .int .i64 0, .slice none 0 0] 27 (0, 0))).alloc (.cells #[.slice a len cap, .int .i64 0, .int .u64 0] 76 (0, 0)) = W1 at *
  have HW1 := Lib.hid hW1
  clear hW1
  go_wp2_with fail
  refine (record_any B 0 12 _ HD0.out.cur (by omega) (by unfold inI; omega)).mono ?_
  rintro e w2 ⟨⟨id, se, ma, xs⟩, g, c, rfl, hok, hma, hxl, he, hc, hg⟩
  rw [HS1.out] at he
  (try dsimp only at hok hma hxl he)
  (try dsimp only)
  obtain ⟨iid, ise, ima⟩ := hok
  have HD2 := Lib.hid (HD0.out.step hc hg)
  have HR2 := Lib.hid (HR0.out.grown hg (by simp; omega))
  have HE2 := Lib.hid he
  have hB2 : B < w2.heap.size := hc.lt
  clear hc hg he HD0 HR0
  obtain ⟨F, hF⟩ : ∃ F, w2.heap.size = F := ⟨_, rfl⟩
  have hBF : B < F := by omega
  have HB3 : Hid (BxV (w2.alloc (.cells #[.int .i64 id, .int .i64 se, .int .i64 ma, .slice (some ⟨g, 0, none⟩) xs.length c] 27 (0, 0))) F [.int .i64 id, .int .i64 se, .int .i64 ma, .slice (some ⟨g, 0, none⟩) xs.length c]) := Lib.hid (BxV.new' hF _ _)
  have HD3 := Lib.hid (HD2.out.al (.cells #[.int .i64 id, .int .i64 se, .int .i64 ma, .slice (some ⟨g, 0, none⟩) xs.length c] 27 (0, 0)))
  have HR3 := Lib.hid (HR2.out.al (.cells #[.int .i64 id, .int .i64 se, .int .i64 ma, .slice (some ⟨g, 0, none⟩) xs.length c] 27 (0, 0)))
  have HE3 : Hid (EvsO (B + 1) F (w2.alloc (.cells #[.int .i64 id, .int .i64 se, .int .i64 ma, .slice (some ⟨g, 0, none⟩) xs.length c] 27 (0, 0))) (.slice (some ⟨g, 0, none⟩) xs.length c) xs) := Lib.hid (by have := HE2.out.alloc (.cells #[.int .i64 id, .int .i64 se, .int .i64 ma, .slice (some ⟨g, 0, none⟩) xs.length c] 27 (0, 0)); rwa [hF] at this)
  go_upto_region 3 with fail
  try rw [hF]
  have HFE := Lib.hid hF
  clear hF HD2 HR2 HE2 hB2
  generalize hW3 : w2.alloc (.cells #[.int .i64 id, .int .i64 se, .int .i64 ma, .slice (some ⟨g, 0, none⟩) xs.length c] 27 (0, 0)) = W3 at *
  have HW3 := Lib.hid hW3
  clear hW3
  have c0 := HB3.out.cell 0
  have c1 := HB3.out.cell 1
  have c2 := HB3.out.cell 2
  have c3 := HB3.out.cell 3
  simp at c0 c1 c2 c3
  go_wp2_with fail
  refine (versions_any B 60 (B + 1) F id se ma g c xs _ HD3.out.cur (by omega) HE3.out (by omega) (by have := HB3.out.lt; show F ≤ W3.heap.size; omega) ise (by omega)).mono ?_
  rintro e w4 ⟨v, es, rfl, hel, _, hv, hc, hg⟩
  have HV4 : Hid (VesD F w4 v es) := Lib.hid (hv.lowerD (by have := HB3.out.lt; show F ≤ W3.heap.size; omega))
  have HD4 := Lib.hid (HD3.out.step hc hg)
  have HR4 := Lib.hid (HR3.out.grown hg (by simp; omega))
  have HB4 := Lib.hid (HB3.out.grown hg (by simp; omega))
  have HE4 := Lib.hid (HE3.out.grown hg (by omega))
  replace c0 := HB4.out.cell 0
  replace c1 := HB4.out.cell 1
  replace c2 := HB4.out.cell 2
  replace c3 := HB4.out.cell 3
  simp at c0 c1 c2 c3
  have hs4 := hg.size
  obtain ⟨va, vc, rfl⟩ := HV4.out.slice
  have hF4 : F < w4.heap.size := HB4.out.lt
  clear hc hg hv
  go_wp2_with fail
  go_region_held3 (fun w' => w'.cell? ⟨F, 0, none⟩ = some (.int .i64 id) ∧ w'.cell? ⟨F, 1, none⟩ = some (.int .i64 se) ∧ w'.cell? ⟨F, 2, none⟩ = some (.int .i64 ma) ∧ w'.cell? ⟨F, 3, none⟩ = some (.slice (some ⟨g, 0, none⟩) xs.length c)) (first | with_reducible exact ⟨c0, c1, c2, c3⟩ | with_reducible exact ⟨cell_drew c0, cell_drew c1, cell_drew c2, cell_drew c3⟩ | (refine ⟨?_, ?_, ?_, ?_⟩ <;> (repeat rw [World.cell?_setCell_far _ _ _ _ (by first | (simp; done) | (simp; omega))]) <;> first | assumption | go_keep)) (first | (go_at_call 47; refine (dayNear_any B (60 + 1600) (B + 1) F F id se ma g c xs va vc es _ HD4.out.drew.cur (by omega) (HE4.out.below (Below.refl _ _).drew) ⟨iid, ise, ima⟩ (by omega) (HV4.out.below (Below.refl _ _).drew) (by omega) hel).mono ?_; rintro e w5 ⟨d, rfl, hid, hc, hg⟩; have HV5 := Lib.hid ((HV4.out.below (Below.refl _ _).drew).grown hg (by omega)); have HD5 := Lib.hid (HD4.out.drew.step hc hg); have HR5 := Lib.hid (HR4.out.drew.grown hg (by simp; omega)); have HB5 := Lib.hid (HB4.out.drew.grown hg (by simp; omega)); have HE5 := Lib.hid ((HE4.out.below (Below.refl _ _).drew).grown hg (by omega)); replace c0 := HB5.out.cell 0; replace c1 := HB5.out.cell 1; replace c2 := HB5.out.cell 2; replace c3 := HB5.out.cell 3; simp at c0 c1 c2 c3; have r0 := HR5.out.cell 0; have r1 := HR5.out.cell 1; have r2 := HR5.out.cell 2; have r3 := HR5.out.cell 3; simp at r0 r1 r2 r3; have q0 := HR5.out.frozen 0; have q1 := HR5.out.frozen 1; have q2 := HR5.out.frozen 2; have q3 := HR5.out.frozen 3; have hs5 := hg.size; clear hc hg))
  all_goals
    go_wp2_with fail
    refine bodyPost_ret (v := .tuple #[.slice va es.length vc, .agg #[.int .i64 id, .int .i64 se, .int .i64 ma, .slice (some ⟨g, 0, none⟩) xs.length c], .int .i64 d]) (by simp [results, Try.results14, go_sem, r0, r1, r2, r3]) rfl ?_
    have hne : ∀ k, Value.ownBlock (.slice (some ⟨g, 0, none⟩) xs.length c) = some k → k ≠ R := fun k hk => by have := HE5.out.1.ge g rfl; simp [Value.ownBlock] at hk; omega
    have hE := (((HE5.out.setOther (G := R) (j := 0) (x := .int .i64 id) hne).setOther (G := R) (j := 1) (x := .int .i64 se) hne).setOther (G := R) (j := 2) (x := .int .i64 ma) hne).setOther (G := R) (j := 3) (x := (.slice (some ⟨g, 0, none⟩) xs.length c)) hne
    have hRF : R < F := by omega
    have hU := (((HV5.out.put (G := R) (j := 0) (x := .int .i64 id) hRF).put (G := R) (j := 1) (x := .int .i64 se) hRF).put (G := R) (j := 2) (x := .int .i64 ma) hRF).put (G := R) (j := 3) (x := (.slice (some ⟨g, 0, none⟩) xs.length c)) hRF
    have hb4 : Below w.heap.size w w5 := below_of_grownBy HD5.out.gr (Nat.le_refl _) (fun k e => by cases e; omega)
    have hb := (((hb4.setCell (p := ⟨R, 0, none⟩) hwR (.int .i64 id)).setCell (p := ⟨R, 1, none⟩) hwR (.int .i64 se)).setCell (p := ⟨R, 2, none⟩) hwR (.int .i64 ma)).setCell (p := ⟨R, 3, none⟩) hwR (.slice (some ⟨g, 0, none⟩) xs.length c)
    exact ⟨⟨id, se, ma, xs⟩, g, c, _, es.map Prod.fst, d, rfl, ⟨iid, ise, ima⟩, by rw [List.length_map]; exact hel, hid, hU.reads, hE.row, hb⟩
end Go.Proofs.Ytdbomnhakikmfaa

namespace Go.Proofs.Ytdbomnhakikmfaa
set_option linter.unusedVariables false
set_option linter.unusedSimpArgs false
open Go.RowKit Go.Sort Go.ChangeShapes Go.WideShapes Go.ChangeAt

structure FvS (W w : World) (F : Nat) (id se ma : Int) (g c : Nat) (xs : List Ev) (v : Value) (t : List Ve) (a : Option Addr) (len cap : Nat) (zs : List Int) : Prop where
  box : BxV w F [.int .i64 id, .int .i64 se, .int .i64 ma, .slice (some ⟨g, 0, none⟩) xs.length c]
  evs : RowR 2 rEv w (.slice (some ⟨g, 0, none⟩) xs.length c) xs
  ves : RowR 2 rVe w v t
  row : IsRow .u8 w a len cap zs
  bel : Below W.heap.size W w
section
variable {W w w9 : World} {F : Nat} {id se ma : Int} {g c : Nat} {xs : List Ev} {v : Value} {t : List Ve} {a : Option Addr} {len cap : Nat} {zs : List Int}
theorem FvS.below (h : FvS W w F id se ma g c xs v t a len cap zs) (hb : Below w.heap.size w w9) : FvS W w9 F id se ma g c xs v t a len cap zs :=
  ⟨h.box.below hb, h.evs.below rEv_stable hb, h.ves.below rVe_stable hb, isRow_after8 h.row hb, h.bel.trans (hb.mono h.bel.size)⟩
theorem FvS.al (h : FvS W w F id se ma g c xs v t a len cap zs) (ob : Obj) : FvS W (w.alloc ob) F id se ma g c xs v t a len cap zs := h.below (below_al (Below.refl _ _) ob)
theorem FvS.reco (h : FvS W w F id se ma g c xs v t a len cap zs) (hok : Rec.ok ⟨id, se, ma, xs⟩) : RecV w (.agg #[.int .i64 id, .int .i64 se, .int .i64 ma, .slice (some ⟨g, 0, none⟩) xs.length c]) ⟨id, se, ma, xs⟩ := ⟨_, rfl, h.evs, hok⟩
end
theorem bytes_due : ∀ ss : ByteArray, (ss.toList == (⟨#[100, 117, 101]⟩ : ByteArray).toList) = decide (ss = wDue) := fun ss => by
  by_cases e : ss = wDue
  · subst e; simp [wDue]
  · rw [decide_eq_false e]; exact beq_bytes_ne e
theorem toList_due : (⟨#[100, 117, 101]⟩ : ByteArray).toList = [100, 117, 101] := by first | rfl | decide | simp
theorem toList_early : (⟨#[101, 97, 114, 108, 121]⟩ : ByteArray).toList = [101, 97, 114, 108, 121] := by first | rfl | decide | simp
theorem list_due (ss : ByteArray) : (ss.toList == [100, 117, 101]) = decide (ss = wDue) := by rw [← toList_due]; exact bytes_due ss
theorem list_early (ss : ByteArray) : (ss.toList == [101, 97, 114, 108, 121]) = decide (ss = wEarly) := by
  rw [← toList_early]
  by_cases e : ss = wEarly
  · subst e; simp [wEarly]
  · rw [decide_eq_false e]; exact beq_bytes_ne e
set_option maxRecDepth 20000 in
set_option maxHeartbeats 16000000 in
theorem walkVersions0 (a : Option Addr) (len cap : Nat) (zs : List Int) (W : World) (h : IsRow .u8 W a len cap zs) :
    Calls Try.prog 3 #[.slice a len cap] W fun e w' => e = .returned (.bool true) ∧ Below W.heap.size W w' := by
  have hlen := isRow_len h
  have H := Lib.hid h
  clear h
  obtain ⟨big, hbig⟩ : ∃ b, decide ((65536 : Int) < (len : Int)) = b := ⟨_, rfl⟩
  have HBIG := Lib.hid hbig
  clear hbig
  go_enter Try.func3, Try.ntmps3
  go_wp2_with fail
  refine (vBig_any a len cap _ big HBIG.out hlen).mono ?_
  rintro e w0 ⟨rfl, h0⟩
  subst h0
  cases big
  case true =>
    go_wp2_with fail
    go_ret
    exact ⟨rfl, Below.refl _ _⟩
  case false =>
    have hl : len ≤ 65536 := by have := of_decide_eq_false HBIG.out; omega
    go_wp2_with fail
    refine (drawFirstDueDay_any a len cap zs _ H.out (by omega)).mono ?_
    rintro e w1 ⟨⟨id, se, ma, xs⟩, g, c, v, es, rfl, hok, htl, hv, he, b0⟩
    (try dsimp only at hok he)
    (try dsimp only)
    obtain ⟨t, ht⟩ : ∃ t, es.map Prod.fst = t := ⟨_, rfl⟩
    replace hv := hv.reads
    replace he := he.row
    rw [ht] at hv
    clear ht
    have HOK := Lib.hid hok
    obtain ⟨F, hF⟩ : ∃ F, w1.heap.size = F := ⟨_, rfl⟩
    have HS : Hid (FvS W (w1.alloc (.cells #[.int .i64 id, .int .i64 se, .int .i64 ma, .slice (some ⟨g, 0, none⟩) xs.length c] 27 (0, 0))) F id se ma g c xs v t a len cap zs) := Lib.hid (FvS.mk (BxV.new' hF _ _) (he.below rEv_stable (below_al (Below.refl _ _) _)) (hv.below rVe_stable (below_al (Below.refl _ _) _)) (isRow_after8 (isRow_after8 H.out b0) (below_al (Below.refl _ _) _)) (b0.alloc b0.size _))
    clear hok he hv b0
    go_upto_region 4 with fail
    try rw [hF]
    have HFE := Lib.hid hF
    clear hF
    generalize hW1 : w1.alloc (.cells #[.int .i64 id, .int .i64 se, .int .i64 ma, .slice (some ⟨g, 0, none⟩) xs.length c] 27 (0, 0)) = W1 at *
    have HW1 := Lib.hid hW1
    clear hW1
    have c0 := HS.out.box.cell 0
    have c1 := HS.out.box.cell 1
    have c2 := HS.out.box.cell 2
    have c3 := HS.out.box.cell 3
    simp at c0 c1 c2 c3
    obtain ⟨n, ok, hfir⟩ : ∃ n b, firRes t ⟨id, se, ma, xs⟩ = (n, b) := ⟨_, _, rfl⟩
    have HFIR := Lib.hid hfir
    clear hfir
    have en : (n != n) = false := by simp
    have eok : (ok != ok) = false := by simp
    obtain ⟨av, hav⟩ : ∃ b, areVe t = b := ⟨_, rfl⟩
    have HAV := Lib.hid hav
    clear hav
    go_wp2_with fail
    refine (implFirstDueDay_any _ _ t ⟨id, se, ma, xs⟩  _ HS.out.ves (HS.out.reco HOK.out) n ok HFIR.out).mono ?_
    rintro e y1 ⟨rfl, b⟩
    replace HS := Lib.hid (HS.out.below b)
    clear b c0 c1 c2 c3
    have c0 := HS.out.box.cell 0
    have c1 := HS.out.box.cell 1
    have c2 := HS.out.box.cell 2
    have c3 := HS.out.box.cell 3
    simp at c0 c1 c2 c3
    go_wp2_with fail
    refine (specFirstDueDay_any _ _ t ⟨id, se, ma, xs⟩  _ HS.out.ves (HS.out.reco HOK.out) n ok HFIR.out).mono ?_
    rintro e y2 ⟨rfl, b⟩
    replace HS := Lib.hid (HS.out.below b)
    clear b c0 c1 c2 c3
    have c0 := HS.out.box.cell 0
    have c1 := HS.out.box.cell 1
    have c2 := HS.out.box.cell 2
    have c3 := HS.out.box.cell 3
    simp at c0 c1 c2 c3
    go_wp2_with fail
    refine (implAreVersions_any _ t _ HS.out.ves).mono ?_
    rintro e y3 ⟨rfl, b⟩
    replace HS := Lib.hid (HS.out.below b)
    clear b c0 c1 c2 c3
    have c0 := HS.out.box.cell 0
    have c1 := HS.out.box.cell 1
    have c2 := HS.out.box.cell 2
    have c3 := HS.out.box.cell 3
    simp at c0 c1 c2 c3
    try rw [HAV.out]
    go_wp2_with fail
    refine (specAreVersions_any _ t _ HS.out.ves).mono ?_
    rintro e y4 ⟨rfl, b⟩
    replace HS := Lib.hid (HS.out.below b)
    clear b c0 c1 c2 c3
    have c0 := HS.out.box.cell 0
    have c1 := HS.out.box.cell 1
    have c2 := HS.out.box.cell 2
    have c3 := HS.out.box.cell 3
    simp at c0 c1 c2 c3
    try rw [HAV.out]
    go_upto_if 72 with fail
    go_cut [9, 10, 11, 12, 13, 14, 15, 16] from 38 to 248 (fun a1 a2 a3 a4 a5 a6 a7 a8 wx => Hid (IsRow .u8 wx a len cap zs) ∧ Hid (Below W.heap.size W wx))
    case first =>
      as_aux_lemma =>
        cases ok
        · go_wp2_with fail
          go_meet
          exact ⟨Lib.hid HS.out.row, Lib.hid HS.out.bel⟩
        · obtain ⟨q, hq⟩ : ∃ q, decoRes t ⟨id, se, ma, xs⟩ n = (q, true) := ⟨_, by rw [← vz_dec HFIR.out]⟩
          have HQ := Lib.hid hq
          clear hq
          go_wp2_with fail
          refine (implDueOn_any _ _ t ⟨id, se, ma, xs⟩ n _ HS.out.ves (HS.out.reco HOK.out) true true (vz_do HFIR.out)).mono ?_
          rintro e y5 ⟨rfl, b⟩
          replace HS := Lib.hid (HS.out.below b)
          clear b c0 c1 c2 c3
          have c0 := HS.out.box.cell 0
          have c1 := HS.out.box.cell 1
          have c2 := HS.out.box.cell 2
          have c3 := HS.out.box.cell 3
          simp at c0 c1 c2 c3
          go_wp2_with fail
          refine (implDecidesOn_any _ _ t ⟨id, se, ma, xs⟩ n _ HS.out.ves (HS.out.reco HOK.out) q true HQ.out).mono ?_
          rintro e y6 ⟨rfl, b⟩
          replace HS := Lib.hid ((HS.out.below b).al (.cells #[.int .i64 q.series, .int .i64 q.event, .int .i64 q.days, .int .i64 q.act] 36 (0, 0)))
          clear b c0 c1 c2 c3
          have c0 := HS.out.box.cell 0
          have c1 := HS.out.box.cell 1
          have c2 := HS.out.box.cell 2
          have c3 := HS.out.box.cell 3
          simp at c0 c1 c2 c3
          go_wp2_with fail
          refine (implWhyOn_any _ _ t ⟨id, se, ma, xs⟩ n _ HS.out.ves (HS.out.reco HOK.out) wDue true (vz_why HFIR.out)).mono ?_
          rintro e y7 ⟨rfl, b⟩
          replace HS := Lib.hid (HS.out.below b)
          clear b c0 c1 c2 c3
          have c0 := HS.out.box.cell 0
          have c1 := HS.out.box.cell 1
          have c2 := HS.out.box.cell 2
          have c3 := HS.out.box.cell 3
          simp at c0 c1 c2 c3
          generalize hsw : wDue = sw
          have ed1 : (sw.toList == [100, 117, 101]) = true := by rw [list_due, ← hsw]; simp
          clear hsw
          by_cases hn : 0 < n
          · have hn2 : decide (0 < n) = true := decide_eq_true hn
            have hnb : 0 ≤ n ∧ n ≤ 20000 := by obtain ⟨_, kz, _, _, _, _, _, hnb⟩ := vz_hit HFIR.out; exact hnb
            have hw : IntKind.i64.wrap (n - 1) = n - 1 := Go.IntWalk.i64_in _ (by omega)
            go_wp2_with fail
            refine (implDueOn_any _ _ t ⟨id, se, ma, xs⟩ (n - 1) _ HS.out.ves (HS.out.reco HOK.out) false true (vz_before HFIR.out hn)).mono ?_
            rintro e y8 ⟨rfl, b⟩
            replace HS := Lib.hid (HS.out.below b)
            clear b c0 c1 c2 c3
            have c0 := HS.out.box.cell 0
            have c1 := HS.out.box.cell 1
            have c2 := HS.out.box.cell 2
            have c3 := HS.out.box.cell 3
            simp at c0 c1 c2 c3
            go_wp2_with fail
            go_meet
            exact ⟨Lib.hid HS.out.row, Lib.hid HS.out.bel⟩
          · have hn2 : decide (0 < n) = false := decide_eq_false hn
            go_wp2_with fail
            go_meet
            exact ⟨Lib.hid HS.out.row, Lib.hid HS.out.bel⟩
    case rest =>
      clear HS HOK HFIR HAV en eok c0 c1 c2 c3 HFE HW1
      obtain ⟨HI, HB⟩ := hcut
      go_wp2_with fail
      refine (drawDecidesOn_any a len cap zs _ HI.out (by omega)).mono ?_
      rintro e w1 ⟨⟨id, se, ma, xs⟩, g, c, v, t, day, rfl, hok, htl, hid, hv, he, b0⟩
      (try dsimp only at hok he)
      (try dsimp only)
      have HOK := Lib.hid hok
      obtain ⟨F, hF⟩ : ∃ F, w1.heap.size = F := ⟨_, rfl⟩
      have HS : Hid (FvS W (w1.alloc (.cells #[.int .i64 id, .int .i64 se, .int .i64 ma, .slice (some ⟨g, 0, none⟩) xs.length c] 27 (0, 0))) F id se ma g c xs v t a len cap zs) := Lib.hid (FvS.mk (BxV.new' hF _ _) (he.below rEv_stable (below_al (Below.refl _ _) _)) (hv.below rVe_stable (below_al (Below.refl _ _) _)) (isRow_after8 (isRow_after8 HI.out b0) (below_al (Below.refl _ _) _)) (HB.out.trans ((b0.alloc b0.size _).mono HB.out.size)))
      clear hok he hv b0
      go_upto_region 19 with fail
      try rw [hF]
      have HFE := Lib.hid hF
      clear hF
      generalize hW1 : w1.alloc (.cells #[.int .i64 id, .int .i64 se, .int .i64 ma, .slice (some ⟨g, 0, none⟩) xs.length c] 27 (0, 0)) = W1 at *
      have HW1 := Lib.hid hW1
      clear hW1
      have c0 := HS.out.box.cell 0
      have c1 := HS.out.box.cell 1
      have c2 := HS.out.box.cell 2
      have c3 := HS.out.box.cell 3
      simp at c0 c1 c2 c3
      clear HI HB
      obtain ⟨q, tb, hq⟩ : ∃ q b, decoRes t ⟨id, se, ma, xs⟩ day = (q, b) := ⟨_, _, rfl⟩
      have HQ := Lib.hid hq
      clear hq
      obtain ⟨ss, kb, hss⟩ : ∃ s b, whyRes t ⟨id, se, ma, xs⟩ day = (s, b) := ⟨_, _, rfl⟩
      have HSS := Lib.hid hss
      clear hss
      have HDO : Hid (doRes t ⟨id, se, ma, xs⟩ day = (decide (ss = wDue), kb)) := Lib.hid (by rw [do_why, HSS.out])
      have HT : Hid (tb = true → ss = wDue ∨ ss = wEarly) := Lib.hid (fun e => by have := vz_told (t := t) (r := ⟨id, se, ma, xs⟩) (d := day) (by rw [HQ.out]; exact e); rw [HSS.out] at this; exact this)
      obtain ⟨yb, hyb⟩ : ∃ b, decide (ss = wDue) = b := ⟨_, rfl⟩
      rw [hyb] at HDO
      have HYB := Lib.hid hyb
      clear hyb
      have etb : (tb != tb) = false := by simp
      have ekb : (kb != kb) = false := by simp
      have eyb : (yb != yb) = false := by simp
      go_wp2_with fail
      refine (implDecidesOn_any _ _ t ⟨id, se, ma, xs⟩ day _ HS.out.ves (HS.out.reco HOK.out) q tb HQ.out).mono ?_
      rintro e y9 ⟨rfl, b⟩
      replace HS := Lib.hid ((HS.out.below b).al (.cells #[.int .i64 q.series, .int .i64 q.event, .int .i64 q.days, .int .i64 q.act] 36 (0, 0)))
      obtain ⟨G1, hG1⟩ : ∃ G, y9.heap.size = G := ⟨_, rfl⟩
      have HG1 : Hid (BxV (y9.alloc (.cells #[.int .i64 q.series, .int .i64 q.event, .int .i64 q.days, .int .i64 q.act] 36 (0, 0))) G1 [.int .i64 q.series, .int .i64 q.event, .int .i64 q.days, .int .i64 q.act]) := Lib.hid (BxV.new' hG1 _ _)
      clear b c0 c1 c2 c3
      have c0 := HS.out.box.cell 0
      have c1 := HS.out.box.cell 1
      have c2 := HS.out.box.cell 2
      have c3 := HS.out.box.cell 3
      simp at c0 c1 c2 c3
      go_upto_region 20 with fail
      try rw [hG1]
      clear hG1
      generalize y9.alloc (.cells #[.int .i64 q.series, .int .i64 q.event, .int .i64 q.days, .int .i64 q.act] 36 (0, 0)) = W2 at *
      go_wp2_with fail
      refine (specDecidesOn_any _ _ t ⟨id, se, ma, xs⟩ day _ HS.out.ves (HS.out.reco HOK.out) q tb HQ.out).mono ?_
      rintro e y10 ⟨rfl, b⟩
      replace HS := Lib.hid ((HS.out.below b).al (.cells #[.int .i64 q.series, .int .i64 q.event, .int .i64 q.days, .int .i64 q.act] 36 (0, 0)))
      obtain ⟨G2, hG2⟩ : ∃ G, y10.heap.size = G := ⟨_, rfl⟩
      have HG2 : Hid (BxV (y10.alloc (.cells #[.int .i64 q.series, .int .i64 q.event, .int .i64 q.days, .int .i64 q.act] 36 (0, 0))) G2 [.int .i64 q.series, .int .i64 q.event, .int .i64 q.days, .int .i64 q.act]) := Lib.hid (BxV.new' hG2 _ _)
      replace HG1 := Lib.hid ((HG1.out.below b).al (.cells #[.int .i64 q.series, .int .i64 q.event, .int .i64 q.days, .int .i64 q.act] 36 (0, 0)))
      clear b c0 c1 c2 c3
      have c0 := HS.out.box.cell 0
      have c1 := HS.out.box.cell 1
      have c2 := HS.out.box.cell 2
      have c3 := HS.out.box.cell 3
      simp at c0 c1 c2 c3
      go_upto_region 21 with fail
      try rw [hG2]
      clear hG2
      generalize y10.alloc (.cells #[.int .i64 q.series, .int .i64 q.event, .int .i64 q.days, .int .i64 q.act] 36 (0, 0)) = W3 at *
      have g10 := HG1.out.cell 0
      have g11 := HG1.out.cell 1
      have g12 := HG1.out.cell 2
      have g13 := HG1.out.cell 3
      have g20 := HG2.out.cell 0
      have g21 := HG2.out.cell 1
      have g22 := HG2.out.cell 2
      have g23 := HG2.out.cell 3
      simp at g10 g11 g12 g13 g20 g21 g22 g23
      clear HG1 HG2
      go_wp2_with fail
      refine (implDueOn_any _ _ t ⟨id, se, ma, xs⟩ day _ HS.out.ves (HS.out.reco HOK.out) yb kb HDO.out).mono ?_
      rintro e y11 ⟨rfl, b⟩
      replace HS := Lib.hid (HS.out.below b)
      clear g10 g11 g12 g13 g20 g21 g22 g23
      clear b c0 c1 c2 c3
      have c0 := HS.out.box.cell 0
      have c1 := HS.out.box.cell 1
      have c2 := HS.out.box.cell 2
      have c3 := HS.out.box.cell 3
      simp at c0 c1 c2 c3
      go_wp2_with fail
      refine (specDueOn_any _ _ t ⟨id, se, ma, xs⟩ day _ HS.out.ves (HS.out.reco HOK.out) yb kb HDO.out).mono ?_
      rintro e y12 ⟨rfl, b⟩
      replace HS := Lib.hid (HS.out.below b)
      clear b c0 c1 c2 c3
      have c0 := HS.out.box.cell 0
      have c1 := HS.out.box.cell 1
      have c2 := HS.out.box.cell 2
      have c3 := HS.out.box.cell 3
      simp at c0 c1 c2 c3
      go_wp2_with fail
      refine (implWhyOn_any _ _ t ⟨id, se, ma, xs⟩ day _ HS.out.ves (HS.out.reco HOK.out) ss kb HSS.out).mono ?_
      rintro e y13 ⟨rfl, b⟩
      replace HS := Lib.hid (HS.out.below b)
      clear b c0 c1 c2 c3
      have c0 := HS.out.box.cell 0
      have c1 := HS.out.box.cell 1
      have c2 := HS.out.box.cell 2
      have c3 := HS.out.box.cell 3
      simp at c0 c1 c2 c3
      go_wp2_with fail
      refine (specWhyOn_any _ _ t ⟨id, se, ma, xs⟩ day _ HS.out.ves (HS.out.reco HOK.out) ss kb HSS.out).mono ?_
      rintro e y14 ⟨rfl, b⟩
      replace HS := Lib.hid (HS.out.below b)
      clear b c0 c1 c2 c3
      have c0 := HS.out.box.cell 0
      have c1 := HS.out.box.cell 1
      have c2 := HS.out.box.cell 2
      have c3 := HS.out.box.cell 3
      simp at c0 c1 c2 c3
      have hcmp := list_due ss
      rw [HYB.out] at hcmp
      have hcmpe := list_early ss
      go_upto_region 29 with fail
      go_cut [223] from 38 to 248 (fun s wx => s = .bool false ∧ Hid (IsRow .u8 wx a len cap zs) ∧ Hid (Below W.heap.size W wx))
      case first =>
        as_aux_lemma =>
          cases kb
          · cases tb
            · cases yb
              · go_wp2_with fail
                go_meet
                exact ⟨rfl, Lib.hid HS.out.row, Lib.hid HS.out.bel⟩
              · go_wp2_with fail
                go_meet
                exact ⟨rfl, Lib.hid HS.out.row, Lib.hid HS.out.bel⟩
            · have HTT := HT.out rfl
              clear hcmp hcmpe
              obtain ⟨w1s, hw1s⟩ : ∃ b, decide (ss = wEarly) = b := ⟨_, rfl⟩
              have hcmp := list_due ss
              have hcmpe := list_early ss
              rw [HYB.out] at hcmp
              rw [hw1s] at hcmpe
              have hor : yb = true ∨ w1s = true := by
                rcases HTT with h | h
                · left; rw [← HYB.out]; exact decide_eq_true h
                · right; rw [← hw1s]; exact decide_eq_true h
              clear HTT hw1s
              cases yb
              · have hwt : w1s = true := hor.resolve_left (by simp)
                subst hwt
                clear hor
                go_wp2_with fail
                go_meet
                exact ⟨rfl, Lib.hid HS.out.row, Lib.hid HS.out.bel⟩
              · clear hor
                go_wp2_with fail
                go_meet
                exact ⟨rfl, Lib.hid HS.out.row, Lib.hid HS.out.bel⟩
          · cases tb
            · cases yb
              · go_wp2_with fail
                go_meet
                exact ⟨rfl, Lib.hid HS.out.row, Lib.hid HS.out.bel⟩
              · go_wp2_with fail
                go_meet
                exact ⟨rfl, Lib.hid HS.out.row, Lib.hid HS.out.bel⟩
            · have HTT := HT.out rfl
              clear hcmp hcmpe
              obtain ⟨w1s, hw1s⟩ : ∃ b, decide (ss = wEarly) = b := ⟨_, rfl⟩
              have hcmp := list_due ss
              have hcmpe := list_early ss
              rw [HYB.out] at hcmp
              rw [hw1s] at hcmpe
              have hor : yb = true ∨ w1s = true := by
                rcases HTT with h | h
                · left; rw [← HYB.out]; exact decide_eq_true h
                · right; rw [← hw1s]; exact decide_eq_true h
              clear HTT hw1s
              cases yb
              · have hwt : w1s = true := hor.resolve_left (by simp)
                subst hwt
                clear hor
                go_wp2_with fail
                go_meet
                exact ⟨rfl, Lib.hid HS.out.row, Lib.hid HS.out.bel⟩
              · clear hor
                go_wp2_with fail
                go_meet
                exact ⟨rfl, Lib.hid HS.out.row, Lib.hid HS.out.bel⟩
      case rest =>
        clear HS HOK HQ HSS HDO HT HYB etb ekb eyb hcmp hcmpe c0 c1 c2 c3 HFE HW1
        obtain ⟨rfl, HI, HB⟩ := hcut
        go_wp2_with fail
        refine (drawDueDays_any a len cap zs _ HI.out (by omega)).mono ?_
        rintro e w1 ⟨⟨id, se, ma, xs⟩, g, c, v, es, rfl, hok, htl, hv, he, b0⟩
        (try dsimp only at hok he)
        (try dsimp only)
        obtain ⟨t, ht⟩ : ∃ t, es.map Prod.fst = t := ⟨_, rfl⟩
        replace hv := hv.reads
        replace he := he.row
        rw [ht] at hv
        clear ht
        have HOK := Lib.hid hok
        obtain ⟨F, hF⟩ : ∃ F, w1.heap.size = F := ⟨_, rfl⟩
        have HS : Hid (FvS W (w1.alloc (.cells #[.int .i64 id, .int .i64 se, .int .i64 ma, .slice (some ⟨g, 0, none⟩) xs.length c] 27 (0, 0))) F id se ma g c xs v t a len cap zs) := Lib.hid (FvS.mk (BxV.new' hF _ _) (he.below rEv_stable (below_al (Below.refl _ _) _)) (hv.below rVe_stable (below_al (Below.refl _ _) _)) (isRow_after8 (isRow_after8 HI.out b0) (below_al (Below.refl _ _) _)) (HB.out.trans ((b0.alloc b0.size _).mono HB.out.size)))
        clear hok he hv b0
        go_upto_region 32 with fail
        try rw [hF]
        have HFE := Lib.hid hF
        clear hF
        generalize hW1 : w1.alloc (.cells #[.int .i64 id, .int .i64 se, .int .i64 ma, .slice (some ⟨g, 0, none⟩) xs.length c] 27 (0, 0)) = W1 at *
        have HW1 := Lib.hid hW1
        clear hW1
        have c0 := HS.out.box.cell 0
        have c1 := HS.out.box.cell 1
        have c2 := HS.out.box.cell 2
        have c3 := HS.out.box.cell 3
        simp at c0 c1 c2 c3
        clear HI HB
        obtain ⟨ds, db, hd⟩ : ∃ x b, ddRes t ⟨id, se, ma, xs⟩ = (x, b) := ⟨_, _, rfl⟩
        have HD := Lib.hid hd
        clear hd
        go_wp2_with fail
        refine (implDueDays_any _ _ t ⟨id, se, ma, xs⟩  _ HS.out.ves (HS.out.reco HOK.out) ds db HD.out).mono ?_
        rintro e y15 ⟨u1, rfl, hx1, b⟩
        replace HS := Lib.hid (HS.out.below b)
        have HX1 := Lib.hid hx1
        clear hx1
        clear b c0 c1 c2 c3
        have c0 := HS.out.box.cell 0
        have c1 := HS.out.box.cell 1
        have c2 := HS.out.box.cell 2
        have c3 := HS.out.box.cell 3
        simp at c0 c1 c2 c3
        go_wp2_with fail
        refine (specDueDays_any _ _ t ⟨id, se, ma, xs⟩  _ HS.out.ves (HS.out.reco HOK.out) ds db HD.out).mono ?_
        rintro e y16 ⟨u2, rfl, hx2, b⟩
        replace HS := Lib.hid (HS.out.below b)
        have HX2 := Lib.hid hx2
        replace HX1 := Lib.hid (HX1.out.below b)
        clear hx2
        clear b c0 c1 c2 c3
        have c0 := HS.out.box.cell 0
        have c1 := HS.out.box.cell 1
        have c2 := HS.out.box.cell 2
        have c3 := HS.out.box.cell 3
        simp at c0 c1 c2 c3
        have edb : (db == db) = true := by simp
        go_wp2_with fail
        refine (vInts_same _ _ ds _ HX1.out.row HX2.out.row).mono ?_
        rintro e z9 ⟨rfl, b⟩
        replace HS := Lib.hid (HS.out.below b)
        clear b c0 c1 c2 c3
        go_wp2_with fail
        go_ret
        exact ⟨rfl, HS.out.bel⟩
theorem walkVersions (v0 : Value) (x0 : By8) (W : World) (hv0 : ByV W v0 x0) :
    Calls Try.prog 3 #[v0] W fun e w' => e = .returned (.bool true) ∧ Below W.heap.size W w' := by
  obtain ⟨a, len, cap, zs⟩ := x0
  obtain ⟨rfl, hi⟩ := hv0
  exact walkVersions0 a len cap zs W hi

set_option maxRecDepth 100000 in
theorem fnVersions_lifted (os : Os) (started : os.Started) (H : Type) (enc : TypeId × Value → H) :
    ReturnsInHanded {} Try.checked os 3 .any (Rows.fnVersionsSpec.pre6 enc Try.prog Try.f3 Rows.fnVersionsRow.domain false) (Rows.fnVersionsSpec.post enc Try.prog Try.f3 false true false false) := by
  refine returnsInHanded_of_change (C := Try.checked) Try.own started (by kernel_rfl) Try.func3
    (ChangeSpec.witness6 (enc := enc) (C := Try.checked) false ⟨#[], #[.slice none 0 0], []⟩ 8 (by kernel_rfl) (by kernel_rfl) (by kernel_rfl) (by kernel_rfl)) ?_
  intro W base args ds gs before hval0 hW hcnd _
  have hval : ∀ (j : Nat) t v, Try.f3.params[j]? = some t → args[j]? = some v → Value.okWide Try.prog W .any base t v := hval0
  have hW' := hW
  obtain ⟨p, q, hA0, hV, rfl, hfz, hnd⟩ := hW
  have hA : DataW.TrodAll enc Try.prog W 0 (fun _ => true) true Try.f3.params.toList args.toList ds p := hA0
  rw [Try.params3] at hA hval
  obtain ⟨v0, vs0, d0, ds0, p0, q0, hargs, rfl, rfl, h0, r0⟩ := trodAll_cons hA
  obtain ⟨rfl, rfl, rfl⟩ := trodAll_nil r0
  obtain rfl : args = #[v0] := by cases args; simp_all
  obtain ⟨rfl, rfl⟩ := trodVars_none hV
  obtain ⟨x0, w0⟩ := arg_code (hval 0 22 v0 rfl rfl) h0
  have lt0 : ∀ x ∈ p0, x.block < W.heap.size := by obtain ⟨m, hm⟩ := h0; exact DataW.trod_lt m _ _ _ hm
  clear hA0 hval0
  refine (walkVersions v0 x0 W w0).mono fun e W' ⟨he, bel⟩ => ?_
  subst he
  exact ⟨_, rfl, _, _, _, [], _, [], hW', trodAll_mk1 (shut_bool Try.underlying4 _), (trodAll_cons_mk (Below.trod Try.laidOut (by kernel_rfl) (of_decide_eq_true (by kernel_rfl)) h0 bel lt0) trodAll_mk0), rfl, bel.frame _, fun h => by cases h⟩

theorem fnVersions_proved : Rows.FnVersionsSaid :=
  OpenClaim.holds_of_wide 3 Try.f3 rfl rfl rfl rfl rfl rfl rfl ⟨rfl, rfl, rfl, rfl, rfl⟩ rfl rfl rfl rfl rfl (by kernel_rfl) Try.func3 (by kernel_rfl)
    (of_decide_eq_true (by kernel_rfl)) (by unfold Func.isWrapper; first | (rw [if_pos (by decide +kernel)]; kernel_rfl) | (rw [if_neg (by decide +kernel)]; exact ⟨rfl, rfl⟩))
    (fun os started H enc _ => fnVersions_lifted os started H enc)
end Go.Proofs.Ytdbomnhakikmfaa
