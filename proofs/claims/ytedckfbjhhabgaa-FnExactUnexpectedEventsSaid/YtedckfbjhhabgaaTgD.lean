/- DropTriggers, the model's and the program's. -/
import Derived.Test.YtedckfbjhhabgaaTgS
import Derived.Test.YtedckfbjhhabgaaTgI
import Derived.Test.YtedckfbjhhabgaaTgN
import Derived.Test.YtedckfbjhhabgaaSlTg
namespace Go.Proofs.Ytedckfbjhhabgaa
set_option linter.unusedVariables false
open Go.RowKit Go.Sort

theorem cellsL_new (w : World) (cs : List Value) (t : TypeId) {k : Nat} (hk : k = w.heap.size) : ∀ j u, cs[j]? = some u → (w.alloc (.cells cs.toArray t (0, 0))).cell? ((⟨k, 0, none⟩ : Addr).add j) = some u := by
  subst hk
  intro j u hj
  rw [Addr.add_lit]
  simp only [Nat.zero_add]
  rw [blk_cell (heap_alloc_new w _)]
  simpa using hj
theorem dropTg_succ {t : List Tg} {e : Int} {k : Nat} (hk : k < t.length) : dropTg (t.take (k + 1)) e = if ¬ (t.getD k tgD).ev = e ∧ ¬ (t.getD k tgD).aft = e then dropTg (t.take k) e ++ [t.getD k tgD] else dropTg (t.take k) e := by
  unfold dropTg
  rw [List.take_succ_eq_append_getElem hk, List.filter_append, ← getTg_lt hk]
  by_cases h : ¬ (t.getD k tgD).ev = e ∧ ¬ (t.getD k tgD).aft = e
  · rw [if_pos h, List.filter_cons_of_pos (by simpa using h), List.filter_nil]
  · rw [if_neg h, List.filter_cons_of_neg (by simpa using h), List.filter_nil, List.append_nil]
theorem dropTg_len (t : List Tg) (e : Int) : (dropTg t e).length ≤ t.length := List.length_filter_le _ _
theorem dropTg_mem {t : List Tg} {e : Int} {x : Tg} (h : x ∈ dropTg t e) : x ∈ t := (List.mem_filter.1 h).1
theorem dropTRes_len {t : List Tg} {e : Int} {xs : List Tg} {b : Bool} (h : dropTRes t e = (xs, b)) : xs.length ≤ t.length := by
  unfold dropTRes at h
  split at h <;> obtain ⟨rfl, _⟩ := Prod.mk.inj h
  · exact dropTg_len _ _
  · exact Nat.zero_le _
theorem TgsO.nilD (lo hi : Nat) (w : World) : TgsO lo hi w (.slice none 0 0) [] := TgsO.nil _ _ _

set_option maxRecDepth 20000 in
set_option maxHeartbeats 4000000 in
theorem specDropTg_any (v : Value) (t : List Tg) (x : Int) (w : World) (h : RowR 3 rTg w v t) (hn : t.length ≤ 1048576) (xs : List Tg) (b : Bool) (hres : dropTRes t x = (xs, b)) :
    Calls Try.prog 46 #[v, .int .i64 x] w fun e w' => ∃ v', e = .returned (.tuple #[v', .bool b]) ∧ TgsO w.heap.size w'.heap.size w' v' xs ∧ Below w.heap.size w w' := by
  obtain ⟨i0, hi, hz0, hz1, hz2⟩ := info_parts Try.info_tg
  have hok := h.tgs_ok
  have HOK := Lib.hid hok
  have b0 := below_al (Below.refl w.heap.size w) (.cells #[] 63 (0, 0))
  have H0 := Lib.hid (h.below rTg_stable b0)
  obtain ⟨a1, c1, hv, hl1, hm1, r1⟩ := h.tgs
  subst hv
  have R1 := Lib.hid r1
  unfold maxLen at hm1
  obtain ⟨bs, hs⟩ : ∃ b, areTg t = b := ⟨_, rfl⟩
  obtain ⟨bx, hx⟩ : ∃ b, decide (0 ≤ x ∧ x ≤ 9) = b := ⟨_, rfl⟩
  have HS := Lib.hid hs
  have HX := Lib.hid hx
  have HRES := Lib.hid hres
  clear h hs hx r1 hok hres
  cases bs
  · have hr := HRES.out
    unfold dropTRes at hr
    rw [if_neg (by rw [HS.out]; simp)] at hr
    obtain ⟨rfl, rfl⟩ := Prod.mk.inj hr
    clear hr HRES
    go_enter Try.func46, Try.ntmps46
    go_wp2_with (first | (go_at_call 49; refine (l10Good_any _ t _ H0.out).mono ?_; rw [HS.out]; rintro e w1 ⟨rfl, b1⟩))
    go_ret2
    exact ⟨_, rfl, ((TgsO.empty w (Nat.le_refl _)).below b1).wide (Nat.le_refl _) b1.size, below_chain b0 b1⟩
  · cases bx
    · have hr := HRES.out
      unfold dropTRes at hr
      rw [if_neg (fun q => of_decide_eq_false HX.out q.2)] at hr
      obtain ⟨rfl, rfl⟩ := Prod.mk.inj hr
      clear hr HRES
      go_enter Try.func46, Try.ntmps46
      go_wp2_with (first | (go_at_call 49; refine (l10Good_any _ t _ H0.out).mono ?_; rw [HS.out]; rintro e w1 ⟨rfl, b1⟩) | (go_at_call 73; refine (l1In_any _ _ _ _).mono ?_; rw [HX.out]; rintro e w2 ⟨rfl, h2⟩; subst w2))
      go_ret2
      exact ⟨_, rfl, ((TgsO.empty w (Nat.le_refl _)).below b1).wide (Nat.le_refl _) b1.size, below_chain b0 b1⟩
    · have hr := HRES.out
      unfold dropTRes at hr
      rw [if_pos ⟨HS.out, of_decide_eq_true HX.out⟩] at hr
      obtain ⟨rfl, rfl⟩ := Prod.mk.inj hr
      clear hr HRES
      go_enter Try.func46, Try.ntmps46
      go_wp2_with (first | (go_at_call 49; refine (l10Good_any _ t _ H0.out).mono ?_; rw [HS.out]; rintro e w1 ⟨rfl, b1⟩) | (go_at_call 73; refine (l1In_any _ _ _ _).mono ?_; rw [HX.out]; rintro e w2 ⟨rfl, h2⟩; subst w2))
      go_loopw [6, 7] (fun o i wr => ∃ k : Nat, k ≤ t.length ∧ i = .int .i64 k ∧ wr.ownsRow w.heap.size 63 3 o (dropTg (t.take k) x).length (((dropTg (t.take k) x).map tgC).flatten) ∧ Below w.heap.size w wr) (fun _ i _ => t.length - (intOf i).toNat)
      case atStart => exact ⟨0, Nat.zero_le _, rfl, (by have := ((TgsO.empty w (Nat.le_refl _)).below b1).1.1; simpa [dropTg] using this), below_chain b0 b1⟩
      case round =>
        clear b1
        obtain ⟨k, hk, rfl, hO, hb⟩ := hrel
        by_cases hlt : k < t.length
        · obtain ⟨b1, o1, hb1, rfl, e1⟩ := R1.out.resolve_left (fun e => by rw [e] at hlt; simp at hlt)
          obtain ⟨q0, q1, q2, hok⟩ := e1 k hlt
          have hsucc := dropTg_succ (e := x) hlt
          obtain ⟨P, hP⟩ : ∃ P, dropTg (t.take k) x = P := ⟨_, rfl⟩
          have hPl : P.length ≤ k := by
            rw [← hP]
            have := dropTg_len (t.take k) x
            rw [List.length_take] at this
            omega
          rw [hP] at hO hsucc
          obtain ⟨⟨x0, x1, x2⟩, hx⟩ : ∃ s, t.getD k tgD = s := ⟨_, rfl⟩
          rw [hx] at q0 q1 q2 hsucc
          simp only at q0 q1 q2 hsucc
          have f0 := cell_kept q0 hb
          have f1 := cell_kept q1 hb
          have f2 := cell_kept q2 hb
          have HSU := Lib.hid hsucc
          have g0 : (0 : Int) ≤ (k : Int) := by omega
          have g1 : (k : Int) < (t.length : Int) := by omega
          have hsz := hb.size
          clear q0 q1 q2 hok e1 hx hsucc hP
          by_cases he : x0 = x
          · have hq : (x0 != x) = false := by simp [he]
            have HSU2 := Lib.hid (HSU.out.trans (if_neg (fun q => q.1 he)))
            clear he
            have HO := Lib.hid hO
            clear hO
            go_wp2_with fail
            go_roundw
            case rel => exact ⟨k + 1, by omega, by go_num, (by rw [HSU2.out]; exact HO.out), hb⟩
            case measure => simp [intOf]; omega
          · have hq : (x0 != x) = true := by simp [he]
            by_cases hf : x1 = x
            · have hq1 : (x1 != x) = false := by simp [hf]
              have HSU2 := Lib.hid (HSU.out.trans (if_neg (fun q => q.2 hf)))
              clear he hf
              have HO := Lib.hid hO
              clear hO
              go_wp2_with fail
              go_roundw
              case rel => exact ⟨k + 1, by omega, by go_num, (by rw [HSU2.out]; exact HO.out), hb⟩
              case measure => simp [intOf]; omega
            · have hq1 : (x1 != x) = true := by simp [hf]
              have HSU2 := Lib.hid (HSU.out.trans (if_pos ⟨he, hf⟩))
              clear he hf
              go_wp2_with (first | (at_builtin; refine wpList_append_own _ rfl _ _ 25 rfl w.heap.size 63 i0 (.agg #[.int .i64 0, .int .i64 0, .int .i64 0]) 3 24 Try.underlying25 hi hz0 hz1 hz2 rfl (by decide) _ _ _ rfl (hO.alloc _) ⟨wr.heap.size, 0, none⟩ 1 1 [.int .i64 x0, .int .i64 x1, .int .i64 x2] rfl rfl (cellsL_new _ _ _ (by simp)) (by simp [Value.oneCell']) (by unfold maxLen; omega) (by omega) (by simp; omega) ?_; intro v' w4 hown' hgrow _))
              have HOWN := Lib.hid hown'
              have HB := Lib.hid (below_app hb (Nat.le_refl _) hO hgrow)
              clear hown' hgrow hO
              go_wp2_with fail
              go_roundw
              case rel => exact ⟨k + 1, by omega, by go_num, (by rw [HSU2.out]; simpa [tgC] using HOWN.out), HB.out⟩
              case measure => simp [intOf]; omega
        · obtain rfl : k = t.length := by omega
          rw [List.take_length] at hO
          have HF := Lib.hid (TgsO.of_row hO rfl (fun f hf => HOK.out f (dropTg_mem hf)))
          clear hO
          go_wp2_with fail
          go_ret2
          exact ⟨_, rfl, HF.out, hb⟩
set_option maxRecDepth 20000 in
set_option maxHeartbeats 4000000 in
theorem implDropTg_any (v : Value) (t : List Tg) (x : Int) (w : World) (h : RowR 3 rTg w v t) (hn : t.length ≤ 1048576) (xs : List Tg) (b : Bool) (hres : dropTRes t x = (xs, b)) :
    Calls Try.prog 47 #[v, .int .i64 x] w fun e w' => ∃ v', e = .returned (.tuple #[v', .bool b]) ∧ TgsO w.heap.size w'.heap.size w' v' xs ∧ Below w.heap.size w w' := by
  obtain ⟨i0, hi, hz0, hz1, hz2⟩ := info_parts Try.info_tg
  have hok := h.tgs_ok
  have HOK := Lib.hid hok
  have b0 := below_al (Below.refl w.heap.size w) (.cells #[] 63 (0, 0))
  have H0 := Lib.hid (h)
  obtain ⟨a1, c1, hv, hl1, hm1, r1⟩ := h.tgs
  subst hv
  have R1 := Lib.hid r1
  unfold maxLen at hm1
  obtain ⟨bs, hs⟩ : ∃ b, areTg t = b := ⟨_, rfl⟩
  obtain ⟨bx, hx⟩ : ∃ b, decide (0 ≤ x ∧ x ≤ 9) = b := ⟨_, rfl⟩
  have HS := Lib.hid hs
  have HX := Lib.hid hx
  have HRES := Lib.hid hres
  clear h hs hx r1 hok hres
  cases bs
  · have hr := HRES.out
    unfold dropTRes at hr
    rw [if_neg (by rw [HS.out]; simp)] at hr
    obtain ⟨rfl, rfl⟩ := Prod.mk.inj hr
    clear hr HRES
    go_enter Try.func47, Try.ntmps47
    go_wp2_with (first | (go_at_call 16; refine (implAreTg_any _ t _ H0.out).mono ?_; rw [HS.out]; rintro e w1 ⟨rfl, b1⟩))
    go_ret2
    exact ⟨_, rfl, TgsO.nil _ _ _, b1⟩
  · cases bx
    · have hr := HRES.out
      unfold dropTRes at hr
      rw [if_neg (fun q => of_decide_eq_false HX.out q.2)] at hr
      obtain ⟨rfl, rfl⟩ := Prod.mk.inj hr
      clear hr HRES
      go_enter Try.func47, Try.ntmps47
      go_wp2_with (first | (go_at_call 16; refine (implAreTg_any _ t _ H0.out).mono ?_; rw [HS.out]; rintro e w1 ⟨rfl, b1⟩) | (go_at_call 79; refine (isEom_any _ _).mono ?_; rw [HX.out]; rintro e w2 ⟨rfl, h2⟩; subst w2))
      go_ret2
      exact ⟨_, rfl, TgsO.nil _ _ _, b1⟩
    · have hr := HRES.out
      unfold dropTRes at hr
      rw [if_pos ⟨HS.out, of_decide_eq_true HX.out⟩] at hr
      obtain ⟨rfl, rfl⟩ := Prod.mk.inj hr
      clear hr HRES
      go_enter Try.func47, Try.ntmps47
      go_wp2_with (first | (go_at_call 16; refine (implAreTg_any _ t _ H0.out).mono ?_; rw [HS.out]; rintro e w1 ⟨rfl, b1⟩) | (go_at_call 79; refine (isEom_any _ _).mono ?_; rw [HX.out]; rintro e w2 ⟨rfl, h2⟩; subst w2))
      go_loopw [6, 19] (fun o i wr => ∃ k : Nat, k ≤ t.length ∧ i = .int .i64 k ∧ wr.ownsRow w.heap.size 63 3 o (dropTg (t.take k) x).length (((dropTg (t.take k) x).map tgC).flatten) ∧ Below w.heap.size w wr) (fun _ i _ => t.length - (intOf i).toNat)
      case atStart => exact ⟨0, Nat.zero_le _, rfl, (by simpa [dropTg] using (TgsO.nil w.heap.size w.heap.size _).1.1), b1⟩
      case round =>
        clear b1
        obtain ⟨k, hk, rfl, hO, hb⟩ := hrel
        by_cases hlt : k < t.length
        · obtain ⟨b1, o1, hb1, rfl, e1⟩ := R1.out.resolve_left (fun e => by rw [e] at hlt; simp at hlt)
          obtain ⟨q0, q1, q2, hok⟩ := e1 k hlt
          have hsucc := dropTg_succ (e := x) hlt
          obtain ⟨P, hP⟩ : ∃ P, dropTg (t.take k) x = P := ⟨_, rfl⟩
          have hPl : P.length ≤ k := by
            rw [← hP]
            have := dropTg_len (t.take k) x
            rw [List.length_take] at this
            omega
          rw [hP] at hO hsucc
          obtain ⟨⟨x0, x1, x2⟩, hx⟩ : ∃ s, t.getD k tgD = s := ⟨_, rfl⟩
          rw [hx] at q0 q1 q2 hsucc
          simp only at q0 q1 q2 hsucc
          have f0 := cell_kept q0 hb
          have f1 := cell_kept q1 hb
          have f2 := cell_kept q2 hb
          have HSU := Lib.hid hsucc
          have g0 : (0 : Int) ≤ (k : Int) := by omega
          have g1 : (k : Int) < (t.length : Int) := by omega
          have hsz := hb.size
          clear q0 q1 q2 hok e1 hx hsucc hP
          by_cases he : x0 = x
          · have hq : (x0 != x) = false := by simp [he]
            have HSU2 := Lib.hid (HSU.out.trans (if_neg (fun q => q.1 he)))
            clear he
            have HO := Lib.hid (hO.alloc (.cells #[.int .i64 x0, .int .i64 x1, .int .i64 x2] 63 (0, 0)))
            clear hO
            go_wp2_with fail
            go_roundw
            case rel => exact ⟨k + 1, by omega, by go_num, (by rw [HSU2.out]; exact HO.out), below_al hb _⟩
            case measure => simp [intOf]; omega
          · have hq : (x0 != x) = true := by simp [he]
            by_cases hf : x1 = x
            · have hq1 : (x1 != x) = false := by simp [hf]
              have HSU2 := Lib.hid (HSU.out.trans (if_neg (fun q => q.2 hf)))
              clear he hf
              have HO := Lib.hid (hO.alloc (.cells #[.int .i64 x0, .int .i64 x1, .int .i64 x2] 63 (0, 0)))
              clear hO
              go_wp2_with fail
              go_roundw
              case rel => exact ⟨k + 1, by omega, by go_num, (by rw [HSU2.out]; exact HO.out), below_al hb _⟩
              case measure => simp [intOf]; omega
            · have hq1 : (x1 != x) = true := by simp [hf]
              have HSU2 := Lib.hid (HSU.out.trans (if_pos ⟨he, hf⟩))
              clear he hf
              have hb2 := below_al hb (.cells #[.int .i64 x0, .int .i64 x1, .int .i64 x2] 63 (0, 0))
              have hO2 := hO.alloc (.cells #[.int .i64 x0, .int .i64 x1, .int .i64 x2] 63 (0, 0))
              go_wp2_with (first | (at_builtin; refine wpList_append_own _ rfl _ _ 25 rfl w.heap.size 63 i0 (.agg #[.int .i64 0, .int .i64 0, .int .i64 0]) 3 24 Try.underlying25 hi hz0 hz1 hz2 rfl (by decide) _ _ _ rfl (hO2.alloc _) ⟨wr.heap.size + 1, 0, none⟩ 1 1 [.int .i64 x0, .int .i64 x1, .int .i64 x2] rfl rfl (cellsL_new _ _ _ (by simp)) (by simp [Value.oneCell']) (by unfold maxLen; omega) (by omega) (by simp; omega) ?_; intro v' w4 hown' hgrow _))
              have HOWN := Lib.hid hown'
              have HB := Lib.hid (below_app hb2 (Nat.le_refl _) hO2 hgrow)
              clear hown' hgrow hO2 hO
              go_wp2_with fail
              go_roundw
              case rel => exact ⟨k + 1, by omega, by go_num, (by rw [HSU2.out]; simpa [tgC] using HOWN.out), HB.out⟩
              case measure => simp [intOf]; omega
        · obtain rfl : k = t.length := by omega
          rw [List.take_length] at hO
          have HF := Lib.hid (TgsO.of_row hO rfl (fun f hf => HOK.out f (dropTg_mem hf)))
          clear hO
          go_wp2_with fail
          go_ret2
          exact ⟨_, rfl, HF.out, hb⟩
end Go.Proofs.Ytedckfbjhhabgaa
