/- WithoutLeaf, the model's and the program's. -/
import Derived.Test.YtapbajficopnlaaDelFn
import Derived.Test.YtapbajficopnlaaAddF
import Derived.Test.YtapbajficopnlaaUnder
namespace Go.Proofs.Ytapbajficopnlaa
set_option linter.unusedVariables false
open Go.RowKit Go.Sort

/-- What WithoutLeaf answers. -/
def leafRes (t : List Fn) (x : Int) : List Fn × Bool := if isTree t = true ∧ hasF t x = true ∧ hasChild t x = false then (delF t x, true) else ([], false)
theorem leafRes_len {t : List Fn} {x : Int} {xs : List Fn} {b : Bool} (h : leafRes t x = (xs, b)) : xs.length ≤ t.length := by
  unfold leafRes at h
  split at h
  · obtain ⟨rfl, _⟩ := Prod.mk.inj h; exact List.length_filter_le _ _
  · obtain ⟨rfl, _⟩ := Prod.mk.inj h; exact Nat.zero_le _
theorem leafRes_no {t : List Fn} {x : Int} {xs : List Fn} {b : Bool} (h : leafRes t x = (xs, b)) (hn : ¬ (isTree t = true ∧ hasF t x = true)) : xs = [] ∧ b = false := by
  unfold leafRes at h
  rw [if_neg (fun k => hn ⟨k.1, k.2.1⟩)] at h
  obtain ⟨h1, h2⟩ := Prod.mk.inj h
  exact ⟨h1.symm, h2.symm⟩
theorem leafRes_yes {t : List Fn} {x : Int} {xs : List Fn} {b : Bool} (h : leafRes t x = (xs, b)) (ht : isTree t = true) (hx : hasF t x = true) : (hasChild t x = false → xs = delF t x ∧ b = true) ∧ (hasChild t x = true → xs = [] ∧ b = false) := by
  unfold leafRes at h
  refine ⟨fun e => ?_, fun e => ?_⟩
  · rw [if_pos ⟨ht, hx, e⟩] at h
    obtain ⟨h1, h2⟩ := Prod.mk.inj h
    exact ⟨h1.symm, h2.symm⟩
  · rw [if_neg (fun k => by rw [e] at k; cases k.2.2)] at h
    obtain ⟨h1, h2⟩ := Prod.mk.inj h
    exact ⟨h1.symm, h2.symm⟩
theorem delF_ok {t : List Fn} (h : ∀ f ∈ t, f.ok) (x : Int) : ∀ f ∈ delF t x, f.ok := fun f hf => h f (List.mem_filter.1 hf).1
theorem delF_succ {t : List Fn} {x : Int} {k : Nat} (hk : k < t.length) : delF (t.take (k + 1)) x = if (t.getD k fnD).id = x then delF (t.take k) x else delF (t.take k) x ++ [t.getD k fnD] := by
  unfold delF
  rw [List.take_succ_eq_append_getElem hk, List.filter_append, getF_lt hk]
  by_cases h : t[k].id = x
  · rw [if_pos h, List.filter_cons, if_neg (by simp [h])]; simp
  · rw [if_neg h, List.filter_cons, if_pos (by simp [h])]; rfl
theorem child_at {t : List Fn} {x : Int} {k : Nat} (hk : k < t.length) (h : (t.getD k fnD).parent = x) : hasChild t x = true := hasChild_iff.2 ⟨t[k], List.getElem_mem hk, by rw [← getF_lt hk]; exact h⟩
theorem child_none {t : List Fn} {x : Int} (h : hasChild (t.take t.length) x = false) : hasChild t x = false := by rwa [List.take_length] at h
theorem child_succ {t : List Fn} {x : Int} {k : Nat} (hk : k < t.length) (h : hasChild (t.take k) x = false) (h2 : ¬ (t.getD k fnD).parent = x) : hasChild (t.take (k + 1)) x = false := by
  rw [← Bool.not_eq_true, hasChild_iff] at h ⊢
  rintro ⟨f, hf, he⟩
  rw [List.take_succ_eq_append_getElem hk, List.mem_append, List.mem_singleton] at hf
  rcases hf with hf | rfl
  · exact h ⟨f, hf, he⟩
  · rw [getF_lt hk] at h2; exact h2 he

set_option maxRecDepth 20000 in
set_option maxHeartbeats 2000000 in
theorem implWithoutLeaf_any (v : Value) (t : List Fn) (x : Int) (w : World) (h : RowR 3 rFn w v t) (xs : List Fn) (b : Bool) (hres : leafRes t x = (xs, b)) :
    Calls Try.prog 29 #[v, .int .i64 x] w fun e w' => ∃ v', e = .returned (.tuple #[v', .bool b]) ∧ FnsO w.heap.size w'.heap.size w' v' xs ∧ Below w.heap.size w w' := by
  have H := Lib.hid h
  have hok := h.fns_ok
  have HRES := Lib.hid hres
  clear h hres
  rcases ht : isTree t with _ | _
  · obtain ⟨rfl, rfl⟩ := leafRes_no HRES.out (by rw [ht]; simp)
    have HT := Lib.hid ht
    clear ht hok
    go_enter Try.func29, Try.ntmps29
    go_wp2_with (first | (go_at_call 73; refine (placeInTree_no _ t x _ H.out HT.out).mono ?_; rintro e w1 ⟨rfl, b1⟩))
    go_ret2
    exact ⟨_, rfl, FnsO.nil _ _ _, b1⟩
  · have HT := Lib.hid ht
    rcases hh : hasF t x with _ | _
    · obtain ⟨rfl, rfl⟩ := leafRes_no HRES.out (by rw [hh]; simp)
      have hfi := findI_no hh
      have HFI := Lib.hid hfi
      have HH := Lib.hid hh
      clear ht hok hh hfi
      go_enter Try.func29, Try.ntmps29
      go_wp2_with (first | (go_at_call 73; refine (placeInTree_any _ t x _ H.out HT.out).mono ?_; rw [HH.out, HFI.out]; rintro e w1 ⟨rfl, b1⟩))
      go_ret2
      exact ⟨_, rfl, FnsO.nil _ _ _, b1⟩
    · have hpl : placeF t x < t.length := of_decide_eq_true hh
      have hfi := findI_yes hh
      have h15 := tree_len ht
      obtain ⟨bc, hbc⟩ : ∃ b, hasChild t x = b := ⟨_, rfl⟩
      have hdt := del_tree ht hh
      rw [hbc] at hdt
      have hlr := leafRes_yes HRES.out ht hh
      rw [hbc] at hlr
      have hmo := delF_ok hok x
      have hde := delF_eq ht hh
      obtain ⟨P, hP⟩ : ∃ P, placeF t x = P := ⟨_, rfl⟩
      rw [hP] at hpl hfi hde
      have HLR := Lib.hid hlr
      have HMO := Lib.hid hmo
      have HDT := Lib.hid hdt
      have HDE := Lib.hid hde
      have HFI := Lib.hid hfi
      have HH := Lib.hid hh
      have HPL := Lib.hid hpl
      have gpw : IntKind.i64.wrap ((P : Int) + 1) = (P : Int) + 1 := Go.IntWalk.i64_in _ (by omega)
      have g0 : (0 : Int) ≤ (P : Int) := by omega
      clear ht hok hh hfi hlr hmo hdt hde hbc hP hpl
      go_enter Try.func29, Try.ntmps29
      go_wp2_with (first | (go_at_call 73; refine (placeInTree_any _ t x _ H.out HT.out).mono ?_; rw [HH.out, HFI.out]; rintro e w1 ⟨rfl, b1⟩) | (go_at_call 72; refine (cloneFn_any _ t _ (H.out.below rFn_stable b1) (by omega)).mono ?_; rintro e w2 ⟨v2, rfl, ho2, b2⟩; have HO := Lib.hid (ho2.1.lower b1.size); have b3 := below_chain b1 b2; clear ho2) | (go_at_call 74; refine (deleteFn_any _ t P (P + 1) _ _ _ HO.out (by omega) HPL.out rfl (by push_cast; rfl)).mono ?_; rintro e w4 ⟨v4, rfl, ho4, g4⟩; have b4 := b3.grown g4 b3.size HO.out.ge; rw [← HDE.out] at ho4; have HF := Lib.hid (show FnsO w.heap.size _ _ v4 (delF t x) from ⟨ho4, HMO.out, ho4.under⟩); clear ho4 g4) | (go_at_call 23; refine (implIsTree_any _ (delF t x) _ HF.out.row).mono ?_; rw [HDT.out]; rintro e w5 ⟨rfl, b5⟩; have hb5 := b4.trans (b5.mono b4.size); have HF5 := Lib.hid (HF.out.below b5); have s5 := b5.size; clear b5))
      · rename_i hq
        obtain ⟨rfl, rfl⟩ := HLR.out.2 hq
        go_ret2
        exact ⟨_, rfl, FnsO.nil _ _ _, hb5⟩
      · rename_i hq
        obtain ⟨rfl, rfl⟩ := HLR.out.1 hq
        go_ret2
        exact ⟨_, rfl, HF5.out.wide (Nat.le_refl _) s5, hb5⟩

set_option maxRecDepth 20000 in
set_option maxHeartbeats 2000000 in
theorem specWithoutLeaf_any (v : Value) (t : List Fn) (x : Int) (w : World) (h : RowR 3 rFn w v t) (xs : List Fn) (b : Bool) (hres : leafRes t x = (xs, b)) :
    Calls Try.prog 37 #[v, .int .i64 x] w fun e w' => ∃ v', e = .returned (.tuple #[v', .bool b]) ∧ FnsO w.heap.size w'.heap.size w' v' xs ∧ Below w.heap.size w w' := by
  obtain ⟨i0, hi, hz0, hz1, hz2⟩ := info_parts Try.info_fn
  have H := Lib.hid h
  have HOK := Lib.hid h.fns_ok
  obtain ⟨a1, c1, rfl, hl1, hm1, r1⟩ := h.fns
  have R1 := Lib.hid r1
  have HRES := Lib.hid hres
  clear h r1 hres
  unfold maxLen at hm1
  obtain ⟨bt, ht⟩ : ∃ b, isTree t = b := ⟨_, rfl⟩
  obtain ⟨bh, hh⟩ : ∃ b, hasF t x = b := ⟨_, rfl⟩
  obtain ⟨c, hc⟩ : ∃ c, findI t x = c := ⟨_, rfl⟩
  have HT := Lib.hid ht
  have HH := Lib.hid hh
  have HC := Lib.hid hc
  have hneg : c < 0 ↔ bh = false := by rw [← hc, ← hh]; exact findI_neg
  have HO0 : Hid (FnsO w.heap.size (w.alloc (.cells #[] 36 (0, 0))).heap.size (w.alloc (.cells #[] 36 (0, 0))) (.slice (some ⟨w.heap.size, 0, none⟩) 0 0) []) := Lib.hid (FnsO.empty w (Nat.le_refl _))
  have HB0 : Hid (Below w.heap.size w (w.alloc (.cells #[] 36 (0, 0)))) := Lib.hid (below_al (Below.refl _ _) _)
  cases bt
  · obtain ⟨rfl, rfl⟩ := leafRes_no HRES.out (by rw [ht]; simp)
    clear ht hh hc
    go_enter Try.func37, Try.ntmps37
    go_wp2_with (first | (go_at_call 57; refine (l3Good_any _ t _ (H.out.below rFn_stable HB0.out)).mono ?_; rw [HT.out]; rintro e w1 ⟨rfl, b1⟩))
    go_ret2
    exact ⟨_, rfl, (HO0.out.below b1).wide (Nat.le_refl _) b1.size, below_chain HB0.out b1⟩
  · cases bh
    · obtain ⟨rfl, rfl⟩ := leafRes_no HRES.out (by rw [hh]; simp)
      have hcn : c < 0 := hneg.2 rfl
      clear ht hh hc hneg
      go_enter Try.func37, Try.ntmps37
      go_wp2_with (first | (go_at_call 57; refine (l3Good_any _ t _ (H.out.below rFn_stable HB0.out)).mono ?_; rw [HT.out]; rintro e w1 ⟨rfl, b1⟩) | (go_at_call 58; refine (l3Find_any _ t x _ (H.out.below rFn_stable (below_chain HB0.out b1))).mono ?_; rw [HC.out]; rintro e w2 ⟨rfl, b2⟩))
      go_ret2
      exact ⟨_, rfl, ((HO0.out.below b1).below b2).wide (Nat.le_refl _) (Nat.le_trans b1.size b2.size), below_chain (below_chain HB0.out b1) b2⟩
    · have hcn : 0 ≤ c := by
        rcases Int.lt_or_le c 0 with h | h
        · have := hneg.1 h; cases this
        · exact h
      have h15 := tree_len ht
      obtain ⟨bc, hbc⟩ : ∃ b, hasChild t x = b := ⟨_, rfl⟩
      have hlr := leafRes_yes HRES.out ht hh
      have HLR := Lib.hid hlr
      clear ht hh hc hneg hbc hlr
      go_enter Try.func37, Try.ntmps37
      go_wp2_with (first | (go_at_call 57; refine (l3Good_any _ t _ (H.out.below rFn_stable HB0.out)).mono ?_; rw [HT.out]; rintro e w1 ⟨rfl, b1⟩) | (go_at_call 58; refine (l3Find_any _ t x _ (H.out.below rFn_stable (below_chain HB0.out b1))).mono ?_; rw [HC.out]; rintro e w2 ⟨rfl, b2⟩))
      go_loopw [6, 7] (fun o i wr => ∃ k : Nat, k ≤ t.length ∧ i = .int .i64 k ∧ wr.ownsRow w.heap.size 36 3 o (delF (t.take k) x).length (((delF (t.take k) x).map fnC).flatten) ∧ Hid (hasChild (t.take k) x = false) ∧ Below w.heap.size w wr) (fun _ i _ => t.length - (intOf i).toNat)
      case atStart => exact ⟨0, Nat.zero_le _, rfl, by simpa [delF] using ((HO0.out.below b1).below b2).1.1, Lib.hid (by simp [hasChild]), below_chain (below_chain HB0.out b1) b2⟩
      case round =>
        clear b1 b2
        obtain ⟨k, hk, rfl, hO, HN, hb⟩ := hrel
        by_cases hlt : k < t.length
        · obtain ⟨b1, o1, hb1, rfl, e1⟩ := R1.out.resolve_left (fun e => by rw [e] at hlt; simp at hlt)
          obtain ⟨q0, q1, q2, hok⟩ := e1 k hlt
          have hsucc := delF_succ (x := x) hlt
          have hca := child_at (x := x) hlt
          have hcs := child_succ (x := x) hlt HN.out
          obtain ⟨P, hP⟩ : ∃ P, delF (t.take k) x = P := ⟨_, rfl⟩
          have hPl : P.length ≤ k := by
            rw [← hP]
            have := List.length_filter_le (fun f : Fn => decide (f.id ≠ x)) (t.take k)
            rw [List.length_take] at this
            unfold delF
            omega
          rw [hP] at hO hsucc
          obtain ⟨⟨fi, fp, fs⟩, hx⟩ : ∃ s, t.getD k fnD = s := ⟨_, rfl⟩
          rw [hx] at q0 q1 q2 hsucc hca hcs
          simp only at q0 q1 q2 hsucc hca hcs
          have f0 := cell_kept q0 hb
          have f1 := cell_kept q1 hb
          have f2 := cell_kept q2 hb
          have HSU := Lib.hid hsucc
          have HCA := Lib.hid hca
          have HCS := Lib.hid hcs
          have g0 : (0 : Int) ≤ (k : Int) := by omega
          have g1 : (k : Int) < (t.length : Int) := by omega
          have hsz := hb.size
          clear q0 q1 q2 hok e1 hx hsucc hP hca hcs
          by_cases he : fp = x
          · have hq : (fp == x) = true := by simp [he]
            obtain ⟨rfl, rfl⟩ := HLR.out.2 (HCA.out he)
            clear he hO
            go_wp2_with fail
            go_ret2
            exact ⟨_, rfl, FnsO.empty _ hsz, below_al hb _⟩
          · have hq : (fp == x) = false := by simp [he]
            have HCS2 := Lib.hid (HCS.out he)
            clear he
            by_cases he : fi = x
            · have hq2 : (fi != x) = false := by simp [he]
              have hq3 : (fi == x) = true := by simp [he]
              have HSU2 := Lib.hid (HSU.out.trans (if_pos he))
              have HO := Lib.hid hO
              clear he hO
              go_wp2_with fail
              go_roundw
              case rel => exact ⟨k + 1, by omega, by go_num, (by rw [HSU2.out]; exact HO.out), HCS2, hb⟩
              case measure => simp [intOf]; omega
            · have hq2 : (fi != x) = true := by simp [he]
              have hq3 : (fi == x) = false := by simp [he]
              have HSU2 := Lib.hid (HSU.out.trans (if_neg he))
              clear he
              go_wp2_with (first | (at_builtin; refine wpList_append_own _ rfl _ _ 24 rfl w.heap.size 36 i0 (.agg #[.int .i64 0, .int .i64 0, .string ⟨#[]⟩]) 3 32 Try.underlying24 hi hz0 hz1 hz2 rfl (by decide) _ _ _ rfl (hO.alloc _) ⟨wr.heap.size, 0, none⟩ 1 1 [.int .i64 fi, .int .i64 fp, .string fs] rfl rfl (cells3_new' _ _ _ _ _ (by simp)) (by simp [Value.oneCell']) (by unfold maxLen; omega) (by omega) (by simp; omega) ?_; intro v' w4 hown' hgrow _))
              have HOWN := Lib.hid hown'
              have HB := Lib.hid (below_app hb (Nat.le_refl _) hO hgrow)
              clear hown' hgrow hO
              go_wp2_with fail
              go_roundw
              case rel => exact ⟨k + 1, by omega, by go_num, (by rw [HSU2.out]; simpa [fnC] using HOWN.out), HCS2, HB.out⟩
              case measure => simp [intOf]; omega
        · obtain rfl : k = t.length := by omega
          obtain ⟨rfl, rfl⟩ := HLR.out.1 (child_none HN.out)
          rw [List.take_length] at hO
          have HF := Lib.hid (FnsO.of_row hO rfl (delF_ok HOK.out x))
          clear hO
          go_wp2_with fail
          go_ret2
          exact ⟨_, rfl, HF.out, hb⟩
end Go.Proofs.Ytapbajficopnlaa
