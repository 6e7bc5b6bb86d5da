/- The text of a schedule, the program's. -/
import Derived.Test.YtpcdjpkcalbpkaaDoorSchT
import Derived.Test.YtpcdjpkcalbpkaaDoorCopy
import Derived.Test.YtpcdjpkcalbpkaaDoorShelf
import Derived.Maps.AppendAt
import Derived.Lib.QuietBelow
import Derived.BigQuiet
namespace Go.Proofs.YtpcdjpkcalbpkaaDoor
set_option linter.unusedVariables false
open Go.RowKit Go.Sort

set_option maxRecDepth 20000 in
set_option maxHeartbeats 2000000 in
theorem ruleText_any (r : Ru) (w : World) (hr : isRu r = true) (hok : r.ok) (ht : Tab w) :
    Calls Tryd.prog 34 #[.agg #[.int .i64 r.series, .int .i64 r.event, .int .i64 r.days, .int .i64 r.act]] w fun e w' => e = .returned (.string (ruTxt r)) ∧ Below w.heap.size w w' := by
  obtain ⟨⟨u0, u1⟩, ⟨u2, u3⟩, ⟨u4, u5⟩, u6, u7⟩ := isRu_iff.1 hr
  have n0 := num_size _ hok.1
  have n1 := num_size _ hok.2.1
  have n2 := num_size _ hok.2.2.1
  obtain ⟨x0, x1, x2, x3⟩ := r
  simp only at u0 u1 u2 u3 u4 u5 u6 u7 n0 n1 n2
  have HTAB := Lib.hid ht
  clear hr hok ht
  have HII : ∀ n : Int, -1099511627776 ≤ n → n ≤ 1099511627776 → ∀ W, Tab W → Calls Tryd.prog 48 #[.int .i64 n] W fun e w' => e = .returned (.string (num n)) ∧ Below W.heap.size W w' := fun n h0 h1 W hT => itoa_any n W h0 h1 hT
  have HI := Lib.hid HII
  clear HII
  have m1 : ¬ 9223372036854775807 < (num x0).size + 1 := by omega
  have m2 : ¬ 9223372036854775807 < (num x0).size + 1 + (num x1).size := by omega
  have m3 : ¬ 9223372036854775807 < (num x0).size + 1 + (num x1).size + 1 := by omega
  have m4 : ¬ 9223372036854775807 < (num x0).size + 1 + (num x1).size + 1 + (num x2).size := by omega
  have m5 : ¬ 9223372036854775807 < (num x0).size + 1 + (num x1).size + 1 + (num x2).size + 1 := by omega
  have hx : x3 = 1 ∨ x3 = 2 ∨ x3 = 3 := by omega
  clear u6 u7
  rcases hx with rfl | rfl | rfl
  · have hu : Utf8.encode (((⟨#[107, 116, 100]⟩ : ByteArray)[0]'(by decide)).toNat : Int) = ⟨#[107]⟩ := by kernel_rfl
    go_enter Tryd.func34, Tryd.ntmps34
    go_wp2_with fail
    have b1 := below_al (Below.refl w.heap.size w) (.cells #[.int .i64 x0, .int .i64 x1, .int .i64 x2, .int .i64 1] 30 (0, 0))
    have k0 := cell_regrown (cell_new (v := .int .i64 x0) w #[.int .i64 x0, .int .i64 x1, .int .i64 x2, .int .i64 1] 30 0 rfl)
    have k1 := cell_regrown (cell_new (v := .int .i64 x1) w #[.int .i64 x0, .int .i64 x1, .int .i64 x2, .int .i64 1] 30 1 rfl)
    have k2 := cell_regrown (cell_new (v := .int .i64 x2) w #[.int .i64 x0, .int .i64 x1, .int .i64 x2, .int .i64 1] 30 2 rfl)
    have k3 := cell_regrown (cell_new (v := .int .i64 1) w #[.int .i64 x0, .int .i64 x1, .int .i64 x2, .int .i64 1] 30 3 rfl)
    generalize w.alloc (.cells #[.int .i64 x0, .int .i64 x1, .int .i64 x2, .int .i64 1] 30 (0, 0)) = w1 at *
    have hN : ∀ n : Int, -1099511627776 ≤ n → n ≤ 1099511627776 → ∀ d os, Calls Tryd.prog 48 #[.int .i64 n] (grow (redrawn w1 d) os) fun e w'' => e = .returned (.string (num n)) ∧ ∃ p : Regrown, w'' = grow (redrawn w1 p.d) p.os := fun n h0 h1 d os => Calls.regrown_of (HI.out n h0 h1 _ ((HTAB.out.later b1).later (below_regrown w1 d os)))
    have HNQ := Lib.hid hN
    clear hN
    refine wp_region_quiet_below (by kernel_rfl) (by kernel_rfl) ?_
    repeat (go_big_quiet_step ((go_at_call 48; exact HNQ.out _ (by omega) (by omega) _ _)))
    refine wpQuiet_nil ?_
    intro _ hw'
    obtain ⟨⟨dq, osq⟩, hw''⟩ := hw'
    subst hw''
    have bq := below_regrown w1 dq osq
    generalize grow (redrawn w1 dq) osq = w2 at bq ⊢
    clear k0 k1 k2 k3 m1 m2 m3 m4 m5 HNQ
    go_wp2_with fail
    go_ret
    exact ⟨ret_str (by rfl), below_chain b1 bq⟩
  · have hu : Utf8.encode (((⟨#[107, 116, 100]⟩ : ByteArray)[1]'(by decide)).toNat : Int) = ⟨#[116]⟩ := by kernel_rfl
    go_enter Tryd.func34, Tryd.ntmps34
    go_wp2_with fail
    have b1 := below_al (Below.refl w.heap.size w) (.cells #[.int .i64 x0, .int .i64 x1, .int .i64 x2, .int .i64 2] 30 (0, 0))
    have k0 := cell_regrown (cell_new (v := .int .i64 x0) w #[.int .i64 x0, .int .i64 x1, .int .i64 x2, .int .i64 2] 30 0 rfl)
    have k1 := cell_regrown (cell_new (v := .int .i64 x1) w #[.int .i64 x0, .int .i64 x1, .int .i64 x2, .int .i64 2] 30 1 rfl)
    have k2 := cell_regrown (cell_new (v := .int .i64 x2) w #[.int .i64 x0, .int .i64 x1, .int .i64 x2, .int .i64 2] 30 2 rfl)
    have k3 := cell_regrown (cell_new (v := .int .i64 2) w #[.int .i64 x0, .int .i64 x1, .int .i64 x2, .int .i64 2] 30 3 rfl)
    generalize w.alloc (.cells #[.int .i64 x0, .int .i64 x1, .int .i64 x2, .int .i64 2] 30 (0, 0)) = w1 at *
    have hN : ∀ n : Int, -1099511627776 ≤ n → n ≤ 1099511627776 → ∀ d os, Calls Tryd.prog 48 #[.int .i64 n] (grow (redrawn w1 d) os) fun e w'' => e = .returned (.string (num n)) ∧ ∃ p : Regrown, w'' = grow (redrawn w1 p.d) p.os := fun n h0 h1 d os => Calls.regrown_of (HI.out n h0 h1 _ ((HTAB.out.later b1).later (below_regrown w1 d os)))
    have HNQ := Lib.hid hN
    clear hN
    refine wp_region_quiet_below (by kernel_rfl) (by kernel_rfl) ?_
    repeat (go_big_quiet_step ((go_at_call 48; exact HNQ.out _ (by omega) (by omega) _ _)))
    refine wpQuiet_nil ?_
    intro _ hw'
    obtain ⟨⟨dq, osq⟩, hw''⟩ := hw'
    subst hw''
    have bq := below_regrown w1 dq osq
    generalize grow (redrawn w1 dq) osq = w2 at bq ⊢
    clear k0 k1 k2 k3 m1 m2 m3 m4 m5 HNQ
    go_wp2_with fail
    go_ret
    exact ⟨ret_str (by rfl), below_chain b1 bq⟩
  · have hu : Utf8.encode (((⟨#[107, 116, 100]⟩ : ByteArray)[2]'(by decide)).toNat : Int) = ⟨#[100]⟩ := by kernel_rfl
    go_enter Tryd.func34, Tryd.ntmps34
    go_wp2_with fail
    have b1 := below_al (Below.refl w.heap.size w) (.cells #[.int .i64 x0, .int .i64 x1, .int .i64 x2, .int .i64 3] 30 (0, 0))
    have k0 := cell_regrown (cell_new (v := .int .i64 x0) w #[.int .i64 x0, .int .i64 x1, .int .i64 x2, .int .i64 3] 30 0 rfl)
    have k1 := cell_regrown (cell_new (v := .int .i64 x1) w #[.int .i64 x0, .int .i64 x1, .int .i64 x2, .int .i64 3] 30 1 rfl)
    have k2 := cell_regrown (cell_new (v := .int .i64 x2) w #[.int .i64 x0, .int .i64 x1, .int .i64 x2, .int .i64 3] 30 2 rfl)
    have k3 := cell_regrown (cell_new (v := .int .i64 3) w #[.int .i64 x0, .int .i64 x1, .int .i64 x2, .int .i64 3] 30 3 rfl)
    generalize w.alloc (.cells #[.int .i64 x0, .int .i64 x1, .int .i64 x2, .int .i64 3] 30 (0, 0)) = w1 at *
    have hN : ∀ n : Int, -1099511627776 ≤ n → n ≤ 1099511627776 → ∀ d os, Calls Tryd.prog 48 #[.int .i64 n] (grow (redrawn w1 d) os) fun e w'' => e = .returned (.string (num n)) ∧ ∃ p : Regrown, w'' = grow (redrawn w1 p.d) p.os := fun n h0 h1 d os => Calls.regrown_of (HI.out n h0 h1 _ ((HTAB.out.later b1).later (below_regrown w1 d os)))
    have HNQ := Lib.hid hN
    clear hN
    refine wp_region_quiet_below (by kernel_rfl) (by kernel_rfl) ?_
    repeat (go_big_quiet_step ((go_at_call 48; exact HNQ.out _ (by omega) (by omega) _ _)))
    refine wpQuiet_nil ?_
    intro _ hw'
    obtain ⟨⟨dq, osq⟩, hw''⟩ := hw'
    subst hw''
    have bq := below_regrown w1 dq osq
    generalize grow (redrawn w1 dq) osq = w2 at bq ⊢
    clear k0 k1 k2 k3 m1 m2 m3 m4 m5 HNQ
    go_wp2_with fail
    go_ret
    exact ⟨ret_str (by rfl), below_chain b1 bq⟩

theorem schT_size {t : List Ru} (hok : ∀ r ∈ t, r.ok) (h8 : t.length ≤ 8) : (Lib.join ((t.map ruTxt).map (·.data.toList)) [32]).length ≤ 536 := by
  have h := schAt_size hok t.length (Nat.le_refl _)
  unfold schAt schL sj at h
  rw [List.take_length] at h
  simp only [ByteArray.size, List.size_toArray] at h
  omega

theorem join_sch (t : List Ru) : (⟨(Lib.join ((t.map ruTxt).map (·.data.toList)) (⟨#[32]⟩ : ByteArray).data.toList).toArray⟩ : ByteArray) = schAt t t.length := by
  unfold schAt schL sj
  rw [List.take_length]
theorem joinSch_any (g cap : Nat) (t : List Ru) (w : World) (hcells : ∀ (j : Nat) x, (t.map ruTxt)[j]? = some x → w.cell? ⟨g, 0 + j, none⟩ = some (.string x)) (hg : g < w.heap.size) (hcap : t.length ≤ cap) (h8 : t.length ≤ 8) (hok : ∀ r ∈ t, r.ok) :
    Calls Tryd.prog 35 #[.slice (some ⟨g, 0, none⟩) t.length cap, .string ⟨#[32]⟩] w fun e w' => e = .returned (.string (schAt t t.length)) ∧ Below w.heap.size w w' := by
  have h := Tryd.strings_Join g 0 cap (t.map ruTxt) ⟨#[32]⟩ w hcells hg (by rw [List.length_map]; omega) (by rw [List.length_map]; exact hcap) (Nat.le_trans (schT_size hok h8) (by omega))
  rw [List.length_map, join_sch] at h
  exact h

set_option maxRecDepth 20000 in
set_option maxHeartbeats 4000000 in
theorem implScheduleText_any (v : Value) (t : List Ru) (w : World) (h : RowR 4 rRu w v t) (xs : ByteArray) (b : Bool) (hres : schRes t = (xs, b)) (ht : Tab w) :
    Calls Tryd.prog 18 #[v] w fun e w' => e = .returned (.tuple #[.string xs, .bool b]) ∧ Below w.heap.size w w' := by
  obtain ⟨i0, hi, hz0, hz1, hz2⟩ := info_parts Tryd.info_string
  have hcap := h.cap
  have H := Lib.hid h
  have HOK := Lib.hid h.rus_ok
  have HTAB := Lib.hid ht
  obtain ⟨a1, c1, hv, hl1, hm1, r1⟩ := h.rus
  subst hv
  have R1 := Lib.hid r1
  obtain ⟨bs, hs⟩ : ∃ q, isSch t = q := ⟨_, rfl⟩
  have HS := Lib.hid hs
  have HRES := Lib.hid hres
  clear h r1 hs hres ht
  unfold maxLen at hm1
  cases bs
  · obtain ⟨rfl, rfl⟩ := schRes_no HRES.out HS.out
    go_enter Tryd.func18, Tryd.ntmps18
    go_wp2_with (first | (go_at_call 30; refine (implIsSchedule_any _ t _ H.out).mono ?_; rw [HS.out]; rintro e w1 ⟨rfl, b1⟩))
    go_ret2
    exact ⟨rfl, b1⟩
  · obtain ⟨rfl, rfl⟩ := schRes_yes HRES.out HS.out
    have h8 := sch_len HS.out
    go_enter Tryd.func18, Tryd.ntmps18
    go_wp2_with (first | (go_at_call 30; refine (implIsSchedule_any _ t _ H.out).mono ?_; rw [HS.out]; rintro e w1 ⟨rfl, b1⟩))
    go_loopw [4, 12] (fun o i wr => ∃ k : Nat, k ≤ t.length ∧ i = .int .i64 k ∧ wr.ownsRow w.heap.size 9 1 o k (((t.take k).map ruTxt).map Value.string) ∧ Below w.heap.size w wr) (fun _ i _ => t.length - (intOf i).toNat)
    case atStart => exact ⟨0, Nat.zero_le _, rfl, World.ownsRow_nil _ _ _ _, b1⟩
    case round =>
      clear b1
      obtain ⟨k, hk, rfl, hO, hb⟩ := hrel
      by_cases hlt : k < t.length
      · obtain ⟨bb, o1, hb1, rfl, e1⟩ := R1.out.resolve_left (fun e => by rw [e] at hlt; simp at hlt)
        obtain ⟨q0, q1, q2, q3, hok⟩ := e1 k hlt
        have hru := (sch_at HS.out hlt).1
        have hsn : ((t.take (k + 1)).map ruTxt).map Value.string = ((t.take k).map ruTxt).map Value.string ++ [.string (ruTxt (t.getD k ruD))] := by
          rw [take_succ_snoc t k hlt, List.map_append, List.map_append, getRu_lt hlt]
          rfl
        obtain ⟨⟨x0, x1, x2, x3⟩, hx⟩ : ∃ s, t.getD k ruD = s := ⟨_, rfl⟩
        rw [hx] at q0 q1 q2 q3 hok hru hsn
        simp only at q0 q1 q2 q3
        have f0 := cell_kept q0 hb
        have f1 := cell_kept q1 hb
        have f2 := cell_kept q2 hb
        have f3 := cell_kept q3 hb
        have HSN := Lib.hid hsn
        have HRU := Lib.hid hru
        have HK := Lib.hid hok
        have HO := Lib.hid hO
        have g0 : (0 : Int) ≤ (k : Int) := by omega
        have g1 : (k : Int) < (t.length : Int) := by omega
        have hsz := hb.size
        clear q0 q1 q2 q3 hok e1 hx hsn hru hO
        have hb2 := below_al hb (.cells #[.int .i64 x0, .int .i64 x1, .int .i64 x2, .int .i64 x3] 30 (0, 0))
        go_wp2_with fail
        refine (ruleText_any ⟨x0, x1, x2, x3⟩ _ HRU.out HK.out (HTAB.out.later hb2)).mono ?_
        rintro e w2 ⟨rfl, b2⟩
        have hb3 := below_chain hb2 b2
        have hO3 := ownsRow_below (HO.out.alloc (.cells #[.int .i64 x0, .int .i64 x1, .int .i64 x2, .int .i64 x3] 30 (0, 0))) b2
        have hsz3 := hb3.size
        obtain ⟨TX, hTX⟩ : ∃ q, ruTxt ⟨x0, x1, x2, x3⟩ = q := ⟨_, rfl⟩
        rw [hTX]
        have HTX := Lib.hid hTX
        clear hTX hb2 b2
        go_wp2_with (first | (at_builtin; refine wpList_append_own _ rfl _ _ 57 rfl w.heap.size 9 i0 (.string ⟨#[]⟩) 1 16 Tryd.underlying57 hi hz0 hz1 hz2 rfl (by decide) _ _ _ rfl (hO3.alloc _) ⟨w2.heap.size, 0, none⟩ 1 1 [.string TX] rfl rfl (cell_one_new _ _ _) (by simp [Value.oneCell']) (by unfold maxLen; omega) (by omega) (by simp; omega) ?_; intro v' w3 hown' hgrow _))
        have HOWN := Lib.hid hown'
        have HB := Lib.hid (below_app hb3 (Nat.le_refl _) hO3 hgrow)
        clear hown' hgrow hO3
        go_wp2_with fail
        go_roundw
        case rel => exact ⟨k + 1, by omega, by go_num, (by rw [HSN.out, HTX.out]; exact HOWN.out), HB.out⟩
        case measure => simp [intOf]; omega
      · obtain rfl : k = t.length := by omega
        rw [List.take_length] at hO
        have HO := Lib.hid hO
        have hsz := hb.size
        have hjs := schT_size HOK.out h8
        have HJS := Lib.hid hjs
        clear hO hjs
        rcases HO.out.2 with ⟨rfl, h0⟩ | ⟨g, cap, cur, rfl, hg, hgs, hcap2, hcm, hcs, htk⟩
        · have ht0 : t = [] := List.length_eq_zero_iff.1 h0
          subst ht0
          go_wp2_with (go_at_call 35; refine (Tryd.strings_Join_none _ _ _ _).mono ?_; rintro e w' ⟨rfl, rfl⟩)
          go_ret2
          exact ⟨rfl, hb⟩
        · have hcells : ∀ (j : Nat) x, (t.map ruTxt)[j]? = some x → wr.cell? ⟨g, 0 + j, none⟩ = some (.string x) := fun j x hx => by
            have hj : j < (((t.map ruTxt).map Value.string)).length := by rw [List.length_map]; exact (List.getElem?_eq_some_iff.1 hx).1
            have := HO.out.cells (g := g) rfl j (.string x) (by rw [List.getElem?_map, hx]; rfl)
            rw [Addr.add_lit] at this
            exact this
          have HC := Lib.hid hcells
          have hlt := (Array.getElem?_eq_some_iff.1 hgs).1
          clear hcells hcs htk hgs
          go_wp2_with (go_at_call 35; refine (joinSch_any g cap t _ HC.out hlt hcap2 h8 HOK.out).mono ?_; rintro e w' ⟨rfl, hb'⟩)
          go_ret2
          exact ⟨rfl, below_chain hb hb'⟩

set_option maxHeartbeats 2000000 in
theorem specScheduleText_any (v : Value) (t : List Ru) (w : World) (h : RowR 4 rRu w v t) (xs : ByteArray) (b : Bool) (hres : schRes t = (xs, b)) :
    Calls Tryd.prog 17 #[v] w fun e w' => e = .returned (.tuple #[.string xs, .bool b]) ∧ Below w.heap.size w w' := by
  have hcap := h.cap
  have H := Lib.hid h
  obtain ⟨a1, c1, hv, hl1, hm1, r1⟩ := h.rus
  subst hv
  obtain ⟨bs, hs⟩ : ∃ q, isSch t = q := ⟨_, rfl⟩
  have HS := Lib.hid hs
  have HRES := Lib.hid hres
  clear h r1 hs hres
  unfold maxLen at hm1
  cases bs
  · obtain ⟨rfl, rfl⟩ := schRes_no HRES.out HS.out
    go_enter Tryd.func17, Tryd.ntmps17
    go_wp2_with (first | (go_at_call 21; refine (l4Good_any _ t _ H.out).mono ?_; rw [HS.out]; rintro e w1 ⟨rfl, b1⟩))
    go_ret2
    exact ⟨rfl, b1⟩
  · obtain ⟨rfl, rfl⟩ := schRes_yes HRES.out HS.out
    go_enter Tryd.func17, Tryd.ntmps17
    go_wp2_with (first | (go_at_call 21; refine (l4Good_any _ t _ H.out).mono ?_; rw [HS.out]; rintro e w1 ⟨rfl, b1⟩) | (go_at_call 33; refine (l4Text_any _ t _ (H.out.below rRu_stable b1) HS.out).mono ?_; rintro e w2 ⟨rfl, b2⟩))
    go_ret2
    exact ⟨rfl, below_chain b1 b2⟩
end Go.Proofs.YtpcdjpkcalbpkaaDoor
