/- The model's periods: l6Asked, l6End, l6Deciding, l6Due. -/
import Derived.Test.YtkjpehpodlpdhaaPerM
import Derived.Test.YtkjpehpodlpdhaaDayOf
import Derived.Test.YtkjpehpodlpdhaaRuFor
import Derived.Test.YtkjpehpodlpdhaaL1In
import Derived.Test.YtkjpehpodlpdhaaPuts
import Derived.Test.YtkjpehpodlpdhaaBox4
import Derived.Lib.QuietBelow
import Derived.BigQuiet
import Derived.Deep.QuietTactic
import Derived.WalkSmall
namespace Go.Proofs.Ytkjpehpodlpdhaa
set_option linter.unusedVariables false
open Go.RowKit Go.Sort

/-- A record's box. -/
abbrev RBOX (r : Rec) (s : Value) (t : TypeId) : Obj := .cells #[.int .i64 r.id, .int .i64 r.series, .int .i64 r.made, s] t (0, 0)

theorem l6End_any (v : Value) (r : Rec) (x : Ru) (w : World) (h : RecV w v r) (hr : isRec r = true) (hx : isRu x = true) :
    Calls Try.prog 152 #[v, .agg #[.int .i64 x.series, .int .i64 x.event, .int .i64 x.days, .int .i64 x.act]] w fun e w' => e = .returned (.int .i64 (endR r x)) ∧ Below w.heap.size w w' := by
  obtain ⟨s, rfl, h0, hok⟩ := h
  have HV := Lib.hid (show ∀ W, Below w.heap.size w W → RecV W (.agg #[.int .i64 r.id, .int .i64 r.series, .int .i64 r.made, s]) r from fun W hb => ⟨s, rfl, h0.below rEv_stable hb, hok⟩)
  have hd1 := dayOf_top hr x.event
  have hd2 := dayOf_least hr x.event
  have hx2 := (isRu_iff.1 hx).2.2.1
  obtain ⟨x0, x1, x2, x3⟩ := x
  simp only at hd1 hd2 hx2 ⊢
  obtain ⟨d, hd⟩ : ∃ d, dayOf r x1 = d := ⟨_, rfl⟩
  rw [hd] at hd1 hd2
  have he : endR r ⟨x0, x1, x2, x3⟩ = if d < 0 then -1 else d + x2 := by unfold endR; simp only; rw [hd]
  rw [he]
  have HD := Lib.hid hd
  clear h0 hok hd he hx hr
  have b0 := below_al (below_al (Below.refl w.heap.size w) (RBOX r s 38)) (.cells #[.int .i64 x0, .int .i64 x1, .int .i64 x2, .int .i64 x3] 125 (0, 0))
  have c2 := cell_new (w.alloc (RBOX r s 38)) #[.int .i64 x0, .int .i64 x1, .int .i64 x2, .int .i64 x3] 125 2 (v := .int .i64 x2) rfl
  by_cases hn : d < 0
  · have HN := Lib.hid (if_pos hn : (if d < 0 then -1 else d + x2) = -1)
    rw [HN.out]
    go_enter Try.func152, Try.ntmps152
    go_wp2_with (first | (go_at_call 175; refine (l2DayOf_any _ r x1 _ (HV.out _ b0)).mono ?_; rw [HD.out]; rintro e w1 ⟨rfl, b1⟩))
    go_ret
    exact ⟨rfl, below_chain b0 b1⟩
  · have HN := Lib.hid (if_neg hn : (if d < 0 then -1 else d + x2) = d + x2)
    rw [HN.out]
    have hw : IntKind.i64.wrap (d + x2) = d + x2 := Go.IntWalk.i64_in _ (by omega)
    go_enter Try.func152, Try.ntmps152
    go_wp2_with (first | (go_at_call 175; refine (l2DayOf_any _ r x1 _ (HV.out _ b0)).mono ?_; rw [HD.out]; rintro e w1 ⟨rfl, b1⟩; replace c2 := cell_kept c2 b1; simp at c2))
    go_ret
    exact ⟨rfl, below_chain b0 b1⟩

/-- A rule's box. -/
structure UBox (w : World) (g : Nat) (u : Ru) : Prop where
  c0 : w.cell? ⟨g, 0, none⟩ = some (.int .i64 u.series)
  c1 : w.cell? ⟨g, 1, none⟩ = some (.int .i64 u.event)
  c2 : w.cell? ⟨g, 2, none⟩ = some (.int .i64 u.days)
  c3 : w.cell? ⟨g, 3, none⟩ = some (.int .i64 u.act)
  y0 : w.frozen? ⟨g, 0, none⟩ = false
  y1 : w.frozen? ⟨g, 1, none⟩ = false
  y2 : w.frozen? ⟨g, 2, none⟩ = false
  y3 : w.frozen? ⟨g, 3, none⟩ = false
theorem UBox.lt {w : World} {g : Nat} {u : Ru} (h : UBox w g u) : g < w.heap.size := World.block_lt_of_cell? _ _ h.c0
theorem UBox.under {a b : World} {g n : Nat} {u : Ru} (h : UBox a g u) (hg : g < n) (hb : Below n a b) : UBox b g u :=
  ⟨(hb.cell (p := ⟨g, 0, none⟩) hg).trans h.c0, (hb.cell (p := ⟨g, 1, none⟩) hg).trans h.c1, (hb.cell (p := ⟨g, 2, none⟩) hg).trans h.c2, (hb.cell (p := ⟨g, 3, none⟩) hg).trans h.c3,
   (hb.frozen (p := ⟨g, 0, none⟩) hg).trans h.y0, (hb.frozen (p := ⟨g, 1, none⟩) hg).trans h.y1, (hb.frozen (p := ⟨g, 2, none⟩) hg).trans h.y2, (hb.frozen (p := ⟨g, 3, none⟩) hg).trans h.y3⟩
theorem UBox.kept {a b : World} {g : Nat} {u : Ru} (h : UBox a g u) (hb : Below a.heap.size a b) : UBox b g u := h.under h.lt hb
theorem UBox.new (w : World) (u : Ru) (t : TypeId) : UBox (w.alloc (.cells #[.int .i64 u.series, .int .i64 u.event, .int .i64 u.days, .int .i64 u.act] t (0, 0))) w.heap.size u :=
  ⟨cell_new w _ _ 0 rfl, cell_new w _ _ 1 rfl, cell_new w _ _ 2 rfl, cell_new w _ _ 3 rfl, by simp, by simp, by simp, by simp⟩
theorem UBox.al {w : World} {g : Nat} {u : Ru} (h : UBox w g u) (o : Obj) : UBox (w.alloc o) g u := h.kept (below_al (Below.refl _ _) o)
theorem UBox.drewN {w : World} {g : Nat} {u : Ru} (h : UBox w g u) (n : Nat) : UBox (w.drewN n) g u := ⟨h.c0, h.c1, h.c2, h.c3, h.y0, h.y1, h.y2, h.y3⟩
theorem UBox.drew {w : World} {g : Nat} {u : Ru} (h : UBox w g u) : UBox w.drew g u := ⟨h.c0, h.c1, h.c2, h.c3, h.y0, h.y1, h.y2, h.y3⟩
theorem below_drewN {n : Nat} {a b : World} (h : Below n a b) (k : Nat) : Below n a (b.drewN k) := ⟨h.os, h.tape, h.output, h.size, h.block⟩
theorem UBox.far {w : World} {g g' j : Nat} {u : Ru} (h : UBox w g u) (hn : g' ≠ g) (v : Value) : UBox (w.setCell ⟨g', j, none⟩ v) g u :=
  ⟨(cellset_other _ (by simp)).trans h.c0, (cellset_other _ (by simp)).trans h.c1, (cellset_other _ (by simp)).trans h.c2, (cellset_other _ (by simp)).trans h.c3,
   by rw [World.frozen?_setCell]; exact h.y0, by rw [World.frozen?_setCell]; exact h.y1, by rw [World.frozen?_setCell]; exact h.y2, by rw [World.frozen?_setCell]; exact h.y3⟩
/-- A rule is stored into its box. -/
abbrev putU (w : World) (g : Nat) (x : Ru) : World := (((w.setCell ⟨g, 0, none⟩ (.int .i64 x.series)).setCell ⟨g, 1, none⟩ (.int .i64 x.event)).setCell ⟨g, 2, none⟩ (.int .i64 x.days)).setCell ⟨g, 3, none⟩ (.int .i64 x.act)
theorem UBox.put {w : World} {g : Nat} {u : Ru} (h : UBox w g u) (x : Ru) : UBox (putU w g x) g x := by
  have n01 : (⟨g, 1, none⟩ : Addr) ≠ ⟨g, 0, none⟩ := by simp
  have n02 : (⟨g, 2, none⟩ : Addr) ≠ ⟨g, 0, none⟩ := by simp
  have n03 : (⟨g, 3, none⟩ : Addr) ≠ ⟨g, 0, none⟩ := by simp
  have n12 : (⟨g, 2, none⟩ : Addr) ≠ ⟨g, 1, none⟩ := by simp
  have n13 : (⟨g, 3, none⟩ : Addr) ≠ ⟨g, 1, none⟩ := by simp
  have n23 : (⟨g, 3, none⟩ : Addr) ≠ ⟨g, 2, none⟩ := by simp
  refine ⟨?_, ?_, ?_, ?_, ?_, ?_, ?_, ?_⟩
  · unfold putU; rw [cellset_other _ n03, cellset_other _ n02, cellset_other _ n01, cellset_same _ h.c0]
  · unfold putU; rw [cellset_other _ n13, cellset_other _ n12]; exact cellset_same (u := .int .i64 u.event) _ (by rw [cellset_other _ n01.symm]; exact h.c1)
  · unfold putU; rw [cellset_other _ n23]; exact cellset_same (u := .int .i64 u.days) _ (by rw [cellset_other _ n12.symm, cellset_other _ n02.symm]; exact h.c2)
  · unfold putU; exact cellset_same (u := .int .i64 u.act) _ (by rw [cellset_other _ n23.symm, cellset_other _ n13.symm, cellset_other _ n03.symm]; exact h.c3)
  · unfold putU; simp only [World.frozen?_setCell]; exact h.y0
  · unfold putU; simp only [World.frozen?_setCell]; exact h.y1
  · unfold putU; simp only [World.frozen?_setCell]; exact h.y2
  · unfold putU; simp only [World.frozen?_setCell]; exact h.y3
theorem below_putU {n : Nat} {w w' : World} {g : Nat} (hb : Below n w w') (hg : n ≤ g) (x : Ru) : Below n w (putU w' g x) := (((hb.setCell hg _).setCell hg _).setCell hg _).setCell hg _

theorem l6End_grown (v : Value) (r : Rec) (x : Ru) (E : Int) (hE : endR r x = E) (wx : World) (h : ∀ W, Below wx.heap.size wx W → RecV W v r) (hr : isRec r = true) (hx : isRu x = true) (d : Nat) (os : Array Obj) :
    Calls Try.prog 152 #[v, .agg #[.int .i64 x.series, .int .i64 x.event, .int .i64 x.days, .int .i64 x.act]] (grow (redrawn wx d) os) fun e w'' => e = .returned (.int .i64 E) ∧ ∃ p : Regrown, w'' = grow (redrawn wx p.d) p.os := by
  subst hE
  exact Calls.regrown_of (l6End_any v r x _ (h _ (below_regrown wx d os)) hr hx)

set_option maxRecDepth 20000 in
set_option maxHeartbeats 8000000 in
theorem l6Deciding_any (v v1 : Value) (r : Rec) (t : List Ru) (w : World) (h : RecV w v r) (h1 : RowR 4 rRu w v1 t) (hr : isRec r = true) (ht : isSch t = true) (q : Ru) (d : Int) (hres : decR r (forRu t r.series) = (q, d)) :
    Calls Try.prog 103 #[v, v1] w fun e w' => e = .returned (.tuple #[.agg #[.int .i64 q.series, .int .i64 q.event, .int .i64 q.days, .int .i64 q.act], .int .i64 d]) ∧ Below w.heap.size w w' := by
  obtain ⟨s, rfl, h0, hok⟩ := h
  have HV := Lib.hid (show ∀ W, Below w.heap.size w W → RecV W (.agg #[.int .i64 r.id, .int .i64 r.series, .int .i64 r.made, s]) r from fun W hb => ⟨s, rfl, h0.below rEv_stable hb, hok⟩)
  have H1 := Lib.hid h1
  have HR := Lib.hid hr
  have HT := Lib.hid ht
  have hn8 := sch_len ht
  obtain ⟨R, hR⟩ : ∃ R, forRu t r.series = R := ⟨_, rfl⟩
  have hRl : R.length ≤ t.length := by rw [← hR]; exact forRu_len t r.series
  have HRU := Lib.hid (show ∀ u ∈ R, isRu u = true by rw [← hR]; exact forRu_ok ht r.series)
  rw [hR] at hres
  have HRR := Lib.hid hR
  have HRES := Lib.hid hres
  clear h0 hok h1 hr ht hR hres
  have b0 := below_al (below_al (Below.refl w.heap.size w) (RBOX r s 38)) (.cells #[.int .i64 0, .int .i64 0, .int .i64 0, .int .i64 0] 125 (0, 0))
  have HX0 : Hid (UBox ((w.alloc (RBOX r s 38)).alloc (.cells #[.int .i64 0, .int .i64 0, .int .i64 0, .int .i64 0] 125 (0, 0))) (w.heap.size + 1) ruD) := Lib.hid (by rw [← (show (w.alloc (RBOX r s 38)).heap.size = w.heap.size + 1 by simp)]; exact UBox.new (w.alloc (RBOX r s 38)) ruD 125)
  have HC0 : Hid (Box4 ((w.alloc (RBOX r s 38)).alloc (.cells #[.int .i64 0, .int .i64 0, .int .i64 0, .int .i64 0] 125 (0, 0))) w.heap.size r s) := Lib.hid ((Box4.new w r s 38).kept (below_al (Below.refl _ _) _))
  go_enter Try.func103, Try.ntmps103
  go_wp2_with (first | (go_at_call 137; refine (l4For_any _ t r.series _ (H1.out.below rRu_stable b0) (by omega)).mono ?_; rw [HRR.out]; rintro e w1 ⟨v2, rfl, ho1, b1⟩; obtain ⟨a1, cp1, hv, hl1, hm1, r1⟩ := ho1.row.rus; subst hv; have R1 := Lib.hid r1; clear ho1 r1; unfold maxLen at hm1; have HX1 := Lib.hid (HX0.out.kept b1); have HC1 := Lib.hid (HC0.out.kept b1); replace b1 := below_chain b0 b1; clear b0 HX0 HC0))
  have hgw : w.heap.size ≤ w1.heap.size := b1.size
  have HXl : w.heap.size + 1 < w1.heap.size := HX1.out.lt
  have HB0 : Hid (UBox (w1.alloc (.cells #[.int .i64 0, .int .i64 0, .int .i64 0, .int .i64 0] 125 (0, 0))) w1.heap.size ruD) := Lib.hid (UBox.new w1 ruD 125)
  go_loopw [8, 9] (fun due i wr => ∃ (k : Nat) (b : Ru) (dd : Int), k ≤ R.length ∧ i = .int .i64 k ∧ due = .int .i64 dd ∧ Hid (decF r (R.drop k) b dd = decR r R) ∧ Hid (UBox wr w1.heap.size b) ∧ Below w1.heap.size w1 wr) (fun _ i _ => R.length - (intOf i).toNat)
  case atStart => exact ⟨0, ruD, -1, Nat.zero_le _, rfl, rfl, Lib.hid rfl, HB0, below_al (Below.refl _ _) _⟩
  case round =>
    clear HB0
    obtain ⟨k, b, dd, hk, rfl, rfl, HF, HB, hb⟩ := hrel
    have hb2 := hb
    have HX := Lib.hid (HX1.out.kept hb2)
    have HC := Lib.hid (HC1.out.kept hb2)
    have bw := b1.trans (hb2.mono b1.size)
    have hgl := HB.out.lt
    by_cases hlt : k < R.length
    · obtain ⟨bb, o1, hb1, rfl, e1⟩ := R1.out.resolve_left (fun e => by rw [e] at hlt; simp at hlt)
      obtain ⟨q0, q1, q2, q3, hok⟩ := e1 k hlt
      obtain ⟨⟨x0, x1, x2, x3⟩, hx⟩ : ∃ s, R.getD k ruD = s := ⟨_, rfl⟩
      rw [hx] at q0 q1 q2 q3
      simp only at q0 q1 q2 q3
      have f0 := cell_kept q0 hb2
      have f1 := cell_kept q1 hb2
      have f2 := cell_kept q2 hb2
      have f3 := cell_kept q3 hb2
      have hxu : isRu ⟨x0, x1, x2, x3⟩ = true := by rw [← hx, getRu_lt hlt]; exact HRU.out _ (List.getElem_mem hlt)
      have hdrop := drop_ru hlt
      rw [hx] at hdrop
      have HFF := Lib.hid (by rw [← hdrop]; exact HF.out : decF r (⟨x0, x1, x2, x3⟩ :: R.drop (k + 1)) b dd = decR r R)
      obtain ⟨E, hE⟩ : ∃ E, endR r ⟨x0, x1, x2, x3⟩ = E := ⟨_, rfl⟩
      have HE := Lib.hid hE
      have g0 : (0 : Int) ≤ (k : Int) := by omega
      have g1 : (k : Int) < (R.length : Int) := by omega
      have c0 := HC.out.1
      have c1 := HC.out.2.1
      have c2 := HC.out.2.2.1
      have c3 := HC.out.2.2.2
      have k0 := cell_regrown f0
      have k1 := cell_regrown f1
      have k2 := cell_regrown f2
      have k3 := cell_regrown f3
      have m0 := cell_regrown c0
      have m1 := cell_regrown c1
      have m2 := cell_regrown c2
      have m3 := cell_regrown c3
      have hc := l6End_grown (.agg #[.int .i64 r.id, .int .i64 r.series, .int .i64 r.made, s]) r ⟨x0, x1, x2, x3⟩ E hE wr (fun W hW => HV.out W (bw.trans (hW.mono bw.size))) HR.out hxu
      simp only at hc
      clear q0 q1 q2 q3 hok e1 hx hdrop hE hxu HF
      go_wp2_with fail
      refine wp_region_quiet_below (by kernel_rfl) (by kernel_rfl) ?_
      repeat (go_big_quiet_step (first | exact hc _ _))
      refine wpQuiet_nil ?_
      intro _ hw'
      obtain ⟨⟨dq, osq⟩, hw''⟩ := hw'
      subst hw''
      have bq := below_regrown wr dq osq
      have HXq := Lib.hid (HX.out.kept bq)
      have HBq := Lib.hid (HB.out.kept bq)
      have i0 := cell_kept f0 bq
      have i1 := cell_kept f1 bq
      have i2 := cell_kept f2 bq
      have i3 := cell_kept f3 bq
      have bgz : Below w1.heap.size w1 (grow (redrawn wr dq) osq) := hb.trans (bq.mono (by have := hb.size; omega))
      have bwz := bw.trans (bq.mono bw.size)
      generalize grow (redrawn wr dq) osq = wz at *
      clear k0 k1 k2 k3 m0 m1 m2 m3 hc c0 c1 c2 c3 f0 f1 f2 f3 HX HC HB bq hb hb2 bw
      obtain ⟨b0, b1', b2, b3⟩ := b
      obtain ⟨p0, p1, p2, p3, y0, y1, y2, y3⟩ := HBq.out
      simp only at p0 p1 p2 p3
      by_cases hEn : E < 0
      · have HZ := Lib.hid ((decF_stop (by rw [HE.out]; exact hEn)).symm.trans HFF.out)
        obtain ⟨z0, z1, z2, z3, u0, u1, u2, u3⟩ := HXq.out
        simp only [ruD] at z0 z1 z2 z3
        have hq := HRES.out
        rw [← HZ.out] at hq
        obtain ⟨rfl, rfl⟩ := Prod.mk.inj hq
        clear hq
        go_wp2_with fail
        refine bodyPost_ret (v := .tuple #[.agg #[.int .i64 0, .int .i64 0, .int .i64 0, .int .i64 0], .int .i64 (-1)]) (by simp [results, Try.results103 , go_sem, z0, z1, z2, z3]) rfl ⟨rfl, ?_⟩
        exact below_putU bwz (by omega) ruD
      · have HNE := Lib.hid (show ¬ endR r ⟨x0, x1, x2, x3⟩ < 0 by rw [HE.out]; exact hEn)
        by_cases h1 : dd < E
        · have h1d : decide (dd < E) = true := decide_eq_true h1
          have HZ := Lib.hid ((decF_cons HNE.out).symm.trans HFF.out)
          rw [if_pos (.inl (by rw [HE.out]; exact h1)), HE.out] at HZ
          go_wp2_with fail
          go_quiet (fail)
          go_wp2_with fail
          go_roundw
          case rel => exact ⟨k + 1, ⟨x0, x1, x2, x3⟩, E, by omega, by go_num, rfl, HZ, Lib.hid ((HBq.out.drewN _).put ⟨x0, x1, x2, x3⟩), below_putU (below_drewN bgz _) (Nat.le_refl _) ⟨x0, x1, x2, x3⟩⟩
          case measure => simp [intOf]; omega
        · have h1d : decide (dd < E) = false := decide_eq_false h1
          by_cases h2 : E = dd
          · subst h2
            by_cases h3 : x3 < b3
            · have h3d : decide (x3 < b3) = true := decide_eq_true h3
              have HZ := Lib.hid ((decF_cons HNE.out).symm.trans HFF.out)
              rw [if_pos (.inr ⟨HE.out, h3⟩), HE.out] at HZ
              go_wp2_with fail
              go_quiet (fail)
              go_wp2_with fail
              go_roundw
              case rel => exact ⟨k + 1, ⟨x0, x1, x2, x3⟩, E, by omega, by go_num, rfl, HZ, Lib.hid ((HBq.out.drewN _).put ⟨x0, x1, x2, x3⟩), below_putU (below_drewN bgz _) (Nat.le_refl _) ⟨x0, x1, x2, x3⟩⟩
              case measure => simp [intOf]; omega
            · have h3d : decide (x3 < b3) = false := decide_eq_false h3
              have HZ := Lib.hid ((decF_cons HNE.out).symm.trans HFF.out)
              rw [if_neg (by rw [HE.out]; rintro (q | ⟨_, q⟩); exact h1 q; exact h3 q)] at HZ
              go_wp2_with fail
              go_quiet (fail)
              go_wp2_with fail
              go_roundw
              case rel => exact ⟨k + 1, ⟨b0, b1', b2, b3⟩, _, by omega, by go_num, rfl, HZ, Lib.hid (HBq.out.drewN _), below_drewN bgz _⟩
              case measure => simp [intOf]; omega
          · have h2d : (E == dd) = false := by simp [h2]
            have HZ := Lib.hid ((decF_cons HNE.out).symm.trans HFF.out)
            rw [if_neg (by rw [HE.out]; rintro (q | ⟨q, _⟩); exact h1 q; exact h2 q)] at HZ
            go_wp2_with fail
            go_quiet (fail)
            go_wp2_with fail
            go_roundw
            case rel => exact ⟨k + 1, ⟨b0, b1', b2, b3⟩, _, by omega, by go_num, rfl, HZ, Lib.hid (HBq.out.drewN _), below_drewN bgz _⟩
            case measure => simp [intOf]; omega
    · obtain rfl : k = R.length := by omega
      have hfin := HF.out
      rw [List.drop_length, HRES.out] at hfin
      obtain ⟨rfl, rfl⟩ := Prod.mk.inj (show (b, dd) = (q, d) from hfin)
      obtain ⟨b0, b1', b2, b3⟩ := b
      obtain ⟨p0, p1, p2, p3, y0, y1, y2, y3⟩ := HB.out
      obtain ⟨z0, z1, z2, z3, u0, u1, u2, u3⟩ := HX.out
      simp only [ruD] at z0 z1 z2 z3 p0 p1 p2 p3 ⊢
      have hne : w1.heap.size ≠ w.heap.size + 1 := by omega
      clear hfin
      go_wp2_with fail
      refine bodyPost_ret (v := .tuple #[.agg #[.int .i64 b0, .int .i64 b1', .int .i64 b2, .int .i64 b3], .int .i64 dd]) (by simp [results, Try.results103 , go_sem, z0, z1, z2, z3]) rfl ⟨rfl, ?_⟩
      exact below_putU bw (by omega) ⟨b0, b1', b2, b3⟩


end Go.Proofs.Ytkjpehpodlpdhaa
