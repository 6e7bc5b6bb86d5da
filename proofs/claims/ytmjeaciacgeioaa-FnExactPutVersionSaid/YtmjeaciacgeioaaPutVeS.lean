/- PutVersion, the model's. -/
import Derived.Test.YtmjeaciacgeioaaVeO
import Derived.Test.YtmjeaciacgeioaaVeS
namespace Go.Proofs.Ytmjeaciacgeioaa
set_option linter.unusedVariables false
open Go.RowKit Go.Sort

theorem Try.info_veX : (Try.prog.info? 27).map (fun i => (i.zero, i.size, i.bytes)) = some (some (.agg #[.int .i64 0, .slice none 0 0]), 2, 32) := by kernel_rfl
theorem VesD.lower {lo lo' : Nat} {w : World} {v : Value} {es : List (Ve × Value)} (h : VesD lo w v es) (hl : lo' ≤ lo) : VesD lo' w v es := by
  refine ⟨?_, fun p hp => ⟨(h.each p hp).1.wide hl (Nat.le_refl _), (h.each p hp).2⟩⟩
  exact ownsRow_base_a' h.row hl
theorem row_one {W : World} {x : Ve} {s : Value} {g : Nat} (hr : RowR 4 rRu W s x.rules) (hok : x.ok) (h0 : W.cell? ⟨g, 0, none⟩ = some (.int .i64 x.frm)) (h1 : W.cell? ⟨g, 1, none⟩ = some s) : RowR 2 rVe W (.slice (some ⟨g, 0, none⟩) 1 1) [x] := by
  refine ⟨_, _, rfl, Nat.le_refl _, by simp [maxLen], .inr ⟨g, 0, World.block_lt_of_cell? _ _ h0, rfl, fun i hi => ?_⟩⟩
  have hi0 : i = 0 := by simpa using hi
  subst hi0
  refine ⟨[.int .i64 x.frm, s], rfl, fun j hj => ?_, s, rfl, hr, hok⟩
  match j, hj with
  | 0, _ => simpa using h0
  | 1, _ => simpa using h1
theorem filter_succ {α : Type} (p : α → Bool) (t : List α) (k : Nat) (h : k < t.length) : (t.take (k + 1)).filter p = (t.take k).filter p ++ (if p t[k] = true then [t[k]] else []) := by
  rw [List.take_add_one, List.getElem?_eq_getElem h, List.filter_append, Option.toList_some]
  simp [List.filter_cons]

set_option maxRecDepth 20000 in
set_option maxHeartbeats 8000000 in
theorem specPutVersion_any (v v1 : Value) (t : List Ve) (x : Ve) (w : World) (h : RowR 2 rVe w v t) (hx : VeV w v1 x) (xs : List Ve) (b : Bool) (hres : pvRes t x = (xs, b)) :
    Calls Try.prog 9 #[v, v1] w fun e w' => ∃ v' es, e = .returned (.tuple #[v', .bool b]) ∧ VesD w.heap.size w' v' es ∧ es.map Prod.fst = xs ∧ Below w.heap.size w w' := by
  obtain ⟨i0, hi, hz0, hz1, hz2⟩ := info_parts Try.info_veX
  obtain ⟨s, rfl, hxr, hxok⟩ := hx
  obtain ⟨xf, xr⟩ := x
  simp only at hxr
  obtain ⟨sa, sc, rfl, _, hsm, _⟩ := hxr.rus
  unfold maxLen at hsm
  have HXR := Lib.hid (show ∀ W, Below w.heap.size w W → RowR 4 rRu W (.slice sa xr.length sc) xr from fun W hb => hxr.below rRu_stable hb)
  have HXO := Lib.hid hxok
  have H := Lib.hid (show ∀ W, Below w.heap.size w W → RowR 2 rVe W v t from fun W hb => h.below rVe_stable hb)
  obtain ⟨a1, c1, rfl, hl1, hm1, r1⟩ := h.ves
  have R1 := Lib.hid r1
  unfold maxLen at hm1
  have HRES := Lib.hid hres
  obtain ⟨bA, hA⟩ : ∃ b, areVe t = b := ⟨_, rfl⟩
  obtain ⟨bX, hX⟩ : ∃ b, areVe [(⟨xf, xr⟩ : Ve)] = b := ⟨_, rfl⟩
  have HA := Lib.hid hA
  have HX := Lib.hid hX
  have b0 := below_al (Below.refl w.heap.size w) (.cells #[.int .i64 xf, .slice sa xr.length sc] 27 (0, 0))
  have D0 : Hid (∀ W, Below (w.alloc (.cells #[.int .i64 xf, .slice sa xr.length sc] 27 (0, 0))).heap.size (w.alloc (.cells #[.int .i64 xf, .slice sa xr.length sc] 27 (0, 0))) W → W.cell? ⟨w.heap.size, 0, none⟩ = some (.int .i64 xf) ∧ W.cell? ⟨w.heap.size, 1, none⟩ = some (.slice sa xr.length sc)) := Lib.hid (fun W hW => ⟨cell_kept (cell_new w _ _ 0 rfl) hW, cell_kept (cell_new w _ _ 1 rfl) hW⟩)
  simp only
  clear h hxr hxok hres hA hX r1
  cases bA
  · obtain ⟨rfl, rfl⟩ := pvRes_no HRES.out (.inl HA.out)
    go_enter Try.func9, Try.ntmps9
    go_wp2_with (first | (go_at_call 54; refine (l8Good_any _ t _ (H.out _ b0)).mono ?_; rw [HA.out]; rintro e w1 ⟨rfl, b1⟩; have hb1 := below_chain b0 b1))
    go_ret2
    exact ⟨_, [], rfl, VesD.start' rfl hb1.size, rfl, below_al hb1 _⟩
  · cases bX
    · obtain ⟨rfl, rfl⟩ := pvRes_no HRES.out (.inr (pve_one HX.out))
      go_enter Try.func9, Try.ntmps9
      go_wp2_with fail
      refine (l8Good_any _ t _ (H.out _ b0)).mono ?_
      rw [HA.out]
      rintro e w1 ⟨rfl, b1⟩
      obtain ⟨c0, c1x⟩ := D0.out _ b1
      have hb1 := below_chain b0 b1
      go_wp2_with fail
      refine (l8Good_any _ [(⟨xf, xr⟩ : Ve)] _ (row_one (HXR.out _ (below_al hb1 (.cells #[.int .i64 xf, .slice sa xr.length sc] 27 (0, 0)))) HXO.out (cell_new w1 _ _ 0 rfl) (cell_new w1 _ _ 1 rfl))).mono ?_
      rw [HX.out]
      rintro e w2 ⟨rfl, b2⟩
      have hb2 := below_chain (below_al hb1 _) b2
      go_wp2_with fail
      go_ret2
      exact ⟨_, [], rfl, VesD.start' rfl hb2.size, rfl, below_al hb2 _⟩
    · have h5 := ve_len HA.out
      have hxl : xr.length ≤ 8 := by have := (ve_at HX.out (i := 0) (by simp)).2.1; exact sch_len (by simpa using this)
      go_enter Try.func9, Try.ntmps9
      go_wp2_with fail
      refine (l8Good_any _ t _ (H.out _ b0)).mono ?_
      rw [HA.out]
      rintro e w1 ⟨rfl, b1⟩
      obtain ⟨c0, c1x⟩ := D0.out _ b1
      have C0 := Lib.hid c0
      have C1 := Lib.hid c1x
      have hb1 := below_chain b0 b1
      go_wp2_with fail
      refine (l8Good_any _ [(⟨xf, xr⟩ : Ve)] _ (row_one (HXR.out _ (below_al hb1 (.cells #[.int .i64 xf, .slice sa xr.length sc] 27 (0, 0)))) HXO.out (cell_new w1 _ _ 0 rfl) (cell_new w1 _ _ 1 rfl))).mono ?_
      rw [HX.out]
      rintro e w3 ⟨rfl, b2⟩
      have hb3 := below_chain (below_al hb1 _) b2
      have E0 := Lib.hid (cell_kept C0.out (below_chain (below_al (Below.refl w1.heap.size w1) (.cells #[.int .i64 xf, .slice sa xr.length sc] 27 (0, 0))) b2))
      have E1 := Lib.hid (cell_kept C1.out (below_chain (below_al (Below.refl w1.heap.size w1) (.cells #[.int .i64 xf, .slice sa xr.length sc] 27 (0, 0))) b2))
      clear b1 b2 c0 c1x
      go_wp2_with fail
      have hs3 := hb3.size
      have HO0 : Hid (VesD w3.heap.size (w3.alloc (.cells #[] 27 (0, 0))) (.slice (some ⟨w3.heap.size, 0, none⟩) 0 0) []) := Lib.hid (VesD.start rfl)
      go_loopw [6, 7] (fun o i wr => ∃ (k : Nat) (a : Option Addr) (c : Nat) (es : List (Ve × Value)), k ≤ t.length ∧ i = .int .i64 k ∧ o = .slice a es.length c ∧ es.length ≤ k ∧ Hid (es.map Prod.fst = (t.take k).filter (fun y => decide (y.frm < xf))) ∧ Hid (VesD w3.heap.size wr (.slice a es.length c) es) ∧ Below w3.heap.size w3 wr) (fun _ i _ => t.length - (intOf i).toNat)
      case atStart => exact ⟨0, _, _, [], Nat.zero_le _, rfl, rfl, Nat.le_refl _, Lib.hid (by simp), HO0, below_al (Below.refl _ _) _⟩
      case round =>
        clear HO0
        obtain ⟨k, a, c, es, hk, rfl, rfl, hel, HES, HO, hb⟩ := hrel
        have hbw := hb3.trans (hb.mono hs3)
        by_cases hlt : k < t.length
        · obtain ⟨bL, oL, hbL, rfl, e1⟩ := R1.out.resolve_left (fun e => by rw [e] at hlt; simp at hlt)
          obtain ⟨sr, q0, q1, hr, hok⟩ := e1 k hlt
          obtain ⟨⟨fk, rk⟩, hy⟩ : ∃ y, t.getD k veD = y := ⟨_, rfl⟩
          have hsch := (ve_at HA.out hlt).2.1
          rw [hy] at q0 hr hok hsch
          simp only at q0 hr hsch
          have hkl := sch_len hsch
          obtain ⟨ra, rc, rfl, _, hrm, _⟩ := hr.rus
          unfold maxLen at hrm
          have HRK := Lib.hid (show ∀ W, Below w.heap.size w W → RowR 4 rRu W (.slice ra rk.length rc) rk from fun W hb => hr.below rRu_stable hb)
          have HOK := Lib.hid hok
          have f0 := cell_kept q0 hbw
          have f1 := cell_kept q1 hbw
          have c0 := cell_kept E0.out hb
          have m0 := cell_regrown f0
          have m1 := cell_regrown c0
          have hsucc := filter_succ (fun y : Ve => decide (y.frm < xf)) t k hlt
          rw [← getVe_lt hlt, hy] at hsucc
          have HSU := Lib.hid hsucc
          have g0 : (0 : Int) ≤ (k : Int) := by omega
          have g1 : (k : Int) < (t.length : Int) := by omega
          have hsz := hb.size
          have F0 := Lib.hid f0
          have F1 := Lib.hid f1
          clear q0 q1 hr hok hsch e1 hy hsucc
          by_cases hcmp : fk < xf
          · have hsu2 := HSU.out
            rw [if_pos (decide_eq_true hcmp)] at hsu2
            have HSU2 := Lib.hid hsu2
            have hd : decide (fk < xf) = true := decide_eq_true hcmp
            clear hsu2
            go_wp2_with fail
            refine wp_region_quiet_below (by kernel_rfl) (by kernel_rfl) ?_
            repeat (go_big_quiet_step (first | fail))
            refine wpQuiet_nil ?_
            intro _ hw'
            obtain ⟨⟨dq, osq⟩, hw''⟩ := hw'
            subst hw''
            have bq := below_regrown wr dq osq
            have f0 := cell_kept F0.out bq
            have f1 := cell_kept F1.out bq
            have HOq := Lib.hid (HO.out.below bq)
            have hbq := hb.trans (bq.mono hsz)
            have hbwq := hbw.trans (bq.mono hbw.size)
            have hszq := hbq.size
            generalize grow (redrawn wr dq) osq = w4 at *
            clear bq m0 m1 c0
            go_wp2_with (first | (go_at_call 55; refine (l8Own_any _ (⟨fk, rk⟩ : Ve) _ ⟨_, rfl, HRK.out _ hbwq, HOK.out⟩ (by simp only; omega)).mono ?_; rintro e w5 ⟨na, nc, rfl, hown5, b5⟩; have HO5 := Lib.hid (HOq.out.below b5); have HR5 := Lib.hid (hown5.wide hszq (Nat.le_refl _)); have HAP : Hid (∀ gg, Value.ownBlock (.slice na rk.length nc) = some gg → Value.ownBlock (.slice a es.length c) ≠ some gg) := Lib.hid (fun gg e1 e2 => by have h1 := HOq.out.lt gg e2; have h2 := hown5.1.ge gg e1; omega); have hs5 := b5.size; have hb5 := hbq.trans (b5.mono hszq); clear hown5 b5 f0 f1) | (at_builtin; refine wpList_append_own_at _ rfl _ _ 24 rfl w3.heap.size 27 i0 (.agg #[.int .i64 0, .slice none 0 0]) 2 32 Try.underlying24 hi hz0 hz1 hz2 rfl (by decide) (.slice a es.length c) es.length (vesC es) rfl (HO5.out.row.alloc _) ⟨w5.heap.size, 0, none⟩ 1 1 [.int .i64 fk, .slice na rk.length nc] rfl rfl (cells2_new' _ _ _ _ (by simp)) (by simp [Value.oneCell']) (by unfold maxLen; omega) (by omega) (by first | (simp; done) | (simp; omega)) ?_; intro v' w7 hown' hgrow _ hat))
            have HX4 := Lib.hid ((HO5.out.alloc (.cells #[.int .i64 fk, .slice na rk.length nc] 27 (0, 0))).app (r := ⟨fk, rk⟩) (s := .slice na rk.length nc) (((HR5.out.alloc _)).wide (Nat.le_refl _) (by simp)) HOK.out HAP.out hown' hgrow hat)
            have hb7 : Below w3.heap.size w3 w7 := below_app hb5 (Nat.le_refl _) HO5.out.row hgrow
            obtain ⟨na2, nc2, rfl⟩ := HX4.out.slice
            clear hown' hgrow hat
            go_wp2_with fail
            go_roundw
            case rel => exact ⟨k + 1, na2, nc2, es ++ [(⟨fk, rk⟩, .slice na rk.length nc)], by omega, by go_num, rfl, by simp; omega, Lib.hid (by rw [List.map_append, HES.out, HSU2.out]; simp), HX4, hb7⟩
            case measure => simp [intOf]; omega
          · have hsu2 := HSU.out
            rw [if_neg (by simpa using hcmp)] at hsu2
            have HSU2 := Lib.hid hsu2
            have hd : decide (fk < xf) = false := decide_eq_false hcmp
            clear hsu2
            go_wp2_with fail
            refine wp_region_quiet_below (by kernel_rfl) (by kernel_rfl) ?_
            repeat (go_big_quiet_step (first | fail))
            refine wpQuiet_nil ?_
            intro _ hw'
            obtain ⟨⟨dq, osq⟩, hw''⟩ := hw'
            subst hw''
            have bq := below_regrown wr dq osq
            have HOq := Lib.hid (HO.out.below bq)
            have hbq := hb.trans (bq.mono hsz)
            generalize grow (redrawn wr dq) osq = w4 at *
            clear bq m0 m1 c0
            go_wp2_with fail
            go_roundw
            case rel => exact ⟨k + 1, a, c, es, by omega, by go_num, rfl, by omega, Lib.hid (by rw [HES.out, HSU2.out]; simp), HOq, hbq⟩
            case measure => simp [intOf]; omega
        · obtain rfl : k = t.length := by omega
          have hes1 := HES.out
          rw [List.take_length] at hes1
          have HES1 := Lib.hid hes1
          obtain ⟨c0, c1x⟩ : wr.cell? ⟨w.heap.size, 0, none⟩ = some (.int .i64 xf) ∧ wr.cell? ⟨w.heap.size, 1, none⟩ = some (.slice sa xr.length sc) := ⟨cell_kept E0.out hb, cell_kept E1.out hb⟩
          have hel5 : es.length ≤ 5 := by omega
          have hszr := hb.size
          have HOB := Lib.hid hb
          clear HES hes1 hlt hk hel
          go_wp2_with (first | (go_at_call 55; refine (l8Own_any _ (⟨xf, xr⟩ : Ve) _ ⟨_, rfl, HXR.out _ hbw, HXO.out⟩ (by simp only; omega)).mono ?_; rintro e w5 ⟨na, nc, rfl, hown5, b5⟩; have HO5 := Lib.hid (HO.out.below b5); have HR5 := Lib.hid (hown5.wide hszr (Nat.le_refl _)); have HAP : Hid (∀ gg, Value.ownBlock (.slice na xr.length nc) = some gg → Value.ownBlock (.slice a es.length c) ≠ some gg) := Lib.hid (fun gg e1 e2 => by have h1 := HO.out.lt gg e2; have h2 := hown5.1.ge gg e1; omega); have hs5 := b5.size; have hb5 := hb.trans (b5.mono hszr); clear hown5 b5 c0 c1x) | (at_builtin; refine wpList_append_own_at _ rfl _ _ 24 rfl w3.heap.size 27 i0 (.agg #[.int .i64 0, .slice none 0 0]) 2 32 Try.underlying24 hi hz0 hz1 hz2 rfl (by decide) (.slice a es.length c) es.length (vesC es) rfl (HO5.out.row.alloc _) ⟨w5.heap.size, 0, none⟩ 1 1 [.int .i64 xf, .slice na xr.length nc] rfl rfl (cells2_new' _ _ _ _ (by simp)) (by simp [Value.oneCell']) (by unfold maxLen; omega) (by omega) (by first | (simp; done) | (simp; omega)) ?_; intro v' w7 hown' hgrow _ hat))
          have HX4 := Lib.hid ((HO5.out.alloc (.cells #[.int .i64 xf, .slice na xr.length nc] 27 (0, 0))).app (r := ⟨xf, xr⟩) (s := .slice na xr.length nc) (((HR5.out.alloc _)).wide (Nat.le_refl _) (by simp)) HXO.out HAP.out hown' hgrow hat)
          have hb7 : Below w3.heap.size w3 w7 := below_app hb5 (Nat.le_refl _) HO5.out.row hgrow
          obtain ⟨na2, nc2, rfl⟩ := HX4.out.slice
          have HES2 : Hid ((es ++ [((⟨xf, xr⟩ : Ve), Value.slice na xr.length nc)]).map Prod.fst = t.filter (fun y => decide (y.frm < xf)) ++ [(⟨xf, xr⟩ : Ve)]) := Lib.hid (by rw [List.map_append, HES1.out]; rfl)
          obtain ⟨es, hes⟩ : ∃ q, es ++ [((⟨xf, xr⟩ : Ve), Value.slice na xr.length nc)] = q := ⟨_, rfl⟩
          have hel6 : es.length ≤ 6 := by rw [← hes]; simp; omega
          rw [hes] at HX4 HES2 ⊢
          clear hown' hgrow hat hb5 HO5 HR5 HAP HO HES1 hes hb hbw hszr HOB
          go_wp2_with fail
          go_loopw [6, 8] (fun o i wr => ∃ (k : Nat) (a : Option Addr) (c : Nat) (es : List (Ve × Value)), k ≤ t.length ∧ i = .int .i64 k ∧ o = .slice a es.length c ∧ es.length ≤ 6 + k ∧ Hid (es.map Prod.fst = t.filter (fun y => decide (y.frm < xf)) ++ (⟨xf, xr⟩ : Ve) :: (t.take k).filter (fun y => decide (xf < y.frm))) ∧ Hid (VesD w3.heap.size wr (.slice a es.length c) es) ∧ Below w3.heap.size w3 wr) (fun _ i _ => t.length - (intOf i).toNat)
          case atStart => exact ⟨0, _, _, es, Nat.zero_le _, rfl, rfl, by omega, Lib.hid (by rw [HES2.out]; simp), HX4, hb7⟩
          case round =>
            clear HX4 HES2 hb7 hel6 hel5
            obtain ⟨k, a, c, es, hk, rfl, rfl, hel, HES, HO, hb⟩ := hrel
            have hbw := hb3.trans (hb.mono hs3)
            by_cases hlt : k < t.length
            · obtain ⟨bL, oL, hbL, rfl, e1⟩ := R1.out.resolve_left (fun e => by rw [e] at hlt; simp at hlt)
              obtain ⟨sr, q0, q1, hr, hok⟩ := e1 k hlt
              obtain ⟨⟨fk, rk⟩, hy⟩ : ∃ y, t.getD k veD = y := ⟨_, rfl⟩
              have hsch := (ve_at HA.out hlt).2.1
              rw [hy] at q0 hr hok hsch
              simp only at q0 hr hsch
              have hkl := sch_len hsch
              obtain ⟨ra, rc, rfl, _, hrm, _⟩ := hr.rus
              unfold maxLen at hrm
              have HRK := Lib.hid (show ∀ W, Below w.heap.size w W → RowR 4 rRu W (.slice ra rk.length rc) rk from fun W hb => hr.below rRu_stable hb)
              have HOK := Lib.hid hok
              have f0 := cell_kept q0 hbw
              have f1 := cell_kept q1 hbw
              have c0 := cell_kept E0.out hb
              have m0 := cell_regrown f0
              have m1 := cell_regrown c0
              have hsucc := filter_succ (fun y : Ve => decide (xf < y.frm)) t k hlt
              rw [← getVe_lt hlt, hy] at hsucc
              have HSU := Lib.hid hsucc
              have g0 : (0 : Int) ≤ (k : Int) := by omega
              have g1 : (k : Int) < (t.length : Int) := by omega
              have hsz := hb.size
              have F0 := Lib.hid f0
              have F1 := Lib.hid f1
              clear q0 q1 hr hok hsch e1 hy hsucc
              by_cases hcmp : xf < fk
              · have hsu2 := HSU.out
                rw [if_pos (decide_eq_true hcmp)] at hsu2
                have HSU2 := Lib.hid hsu2
                have hd : decide (xf < fk) = true := decide_eq_true hcmp
                clear hsu2
                go_wp2_with fail
                refine wp_region_quiet_below (by kernel_rfl) (by kernel_rfl) ?_
                repeat (go_big_quiet_step (first | fail))
                refine wpQuiet_nil ?_
                intro _ hw'
                obtain ⟨⟨dq, osq⟩, hw''⟩ := hw'
                subst hw''
                have bq := below_regrown wr dq osq
                have f0 := cell_kept F0.out bq
                have f1 := cell_kept F1.out bq
                have HOq := Lib.hid (HO.out.below bq)
                have hbq := hb.trans (bq.mono hsz)
                have hbwq := hbw.trans (bq.mono hbw.size)
                have hszq := hbq.size
                generalize grow (redrawn wr dq) osq = w4 at *
                clear bq m0 m1 c0
                go_wp2_with (first | (go_at_call 55; refine (l8Own_any _ (⟨fk, rk⟩ : Ve) _ ⟨_, rfl, HRK.out _ hbwq, HOK.out⟩ (by simp only; omega)).mono ?_; rintro e w5 ⟨na, nc, rfl, hown5, b5⟩; have HO5 := Lib.hid (HOq.out.below b5); have HR5 := Lib.hid (hown5.wide hszq (Nat.le_refl _)); have HAP : Hid (∀ gg, Value.ownBlock (.slice na rk.length nc) = some gg → Value.ownBlock (.slice a es.length c) ≠ some gg) := Lib.hid (fun gg e1 e2 => by have h1 := HOq.out.lt gg e2; have h2 := hown5.1.ge gg e1; omega); have hs5 := b5.size; have hb5 := hbq.trans (b5.mono hszq); clear hown5 b5 f0 f1) | (at_builtin; refine wpList_append_own_at _ rfl _ _ 24 rfl w3.heap.size 27 i0 (.agg #[.int .i64 0, .slice none 0 0]) 2 32 Try.underlying24 hi hz0 hz1 hz2 rfl (by decide) (.slice a es.length c) es.length (vesC es) rfl (HO5.out.row.alloc _) ⟨w5.heap.size, 0, none⟩ 1 1 [.int .i64 fk, .slice na rk.length nc] rfl rfl (cells2_new' _ _ _ _ (by simp)) (by simp [Value.oneCell']) (by unfold maxLen; omega) (by omega) (by first | (simp; done) | (simp; omega)) ?_; intro v' w7 hown' hgrow _ hat))
                have HX4 := Lib.hid ((HO5.out.alloc (.cells #[.int .i64 fk, .slice na rk.length nc] 27 (0, 0))).app (r := ⟨fk, rk⟩) (s := .slice na rk.length nc) (((HR5.out.alloc _)).wide (Nat.le_refl _) (by simp)) HOK.out HAP.out hown' hgrow hat)
                have hb7 : Below w3.heap.size w3 w7 := below_app hb5 (Nat.le_refl _) HO5.out.row hgrow
                obtain ⟨na2, nc2, rfl⟩ := HX4.out.slice
                clear hown' hgrow hat
                go_wp2_with fail
                go_roundw
                case rel => exact ⟨k + 1, na2, nc2, es ++ [(⟨fk, rk⟩, .slice na rk.length nc)], by omega, by go_num, rfl, by simp; omega, Lib.hid (by rw [List.map_append, HES.out, HSU2.out]; simp), HX4, hb7⟩
                case measure => simp [intOf]; omega
              · have hsu2 := HSU.out
                rw [if_neg (by simpa using hcmp)] at hsu2
                have HSU2 := Lib.hid hsu2
                have hd : decide (xf < fk) = false := decide_eq_false hcmp
                clear hsu2
                go_wp2_with fail
                refine wp_region_quiet_below (by kernel_rfl) (by kernel_rfl) ?_
                repeat (go_big_quiet_step (first | fail))
                refine wpQuiet_nil ?_
                intro _ hw'
                obtain ⟨⟨dq, osq⟩, hw''⟩ := hw'
                subst hw''
                have bq := below_regrown wr dq osq
                have HOq := Lib.hid (HO.out.below bq)
                have hbq := hb.trans (bq.mono hsz)
                generalize grow (redrawn wr dq) osq = w4 at *
                clear bq m0 m1 c0
                go_wp2_with fail
                go_roundw
                case rel => exact ⟨k + 1, a, c, es, by omega, by go_num, rfl, by omega, Lib.hid (by rw [HES.out, HSU2.out]; simp), HOq, hbq⟩
                case measure => simp [intOf]; omega
            · obtain rfl : k = t.length := by omega
              have hes1 := HES.out
              rw [List.take_length] at hes1
              have hput : es.map Prod.fst = putVe t ⟨xf, xr⟩ := hes1
              have HPUT := Lib.hid hput
              have HG := Lib.hid (l8Good_any (.slice a es.length c) (es.map Prod.fst) wr (by have := HO.out.reads; exact this))
              obtain ⟨bO, hO⟩ : ∃ b, areVe (putVe t ⟨xf, xr⟩) = b := ⟨_, rfl⟩
              have HBO := Lib.hid hO
              have hszr := hb.size
              clear hes1 hput HES hO
              cases bO
              · obtain ⟨rfl, rfl⟩ := pvRes_no HRES.out (.inr HBO.out)
                go_wp2_with (first | (go_at_call 54; refine HG.out.mono ?_; rw [HPUT.out, HBO.out]; rintro e w8 ⟨rfl, b8⟩; have hb8 := below_chain hbw b8))
                go_ret2
                exact ⟨_, [], rfl, VesD.start' rfl hb8.size, rfl, below_al hb8 _⟩
              · obtain ⟨rfl, rfl⟩ := pvRes_yes HRES.out HA.out HBO.out
                go_wp2_with (first | (go_at_call 54; refine HG.out.mono ?_; rw [HPUT.out, HBO.out]; rintro e w8 ⟨rfl, b8⟩; have hb8 := below_chain hbw b8; have HO8 := Lib.hid (HO.out.below b8)))
                go_ret2
                exact ⟨_, es, rfl, HO8.out.lower hs3, HPUT.out, hb8⟩
end Go.Proofs.Ytmjeaciacgeioaa
