/- Holds sorted by the day on which they begin, by the library: slices.SortedFunc. -/
import Derived.Test.YtkjpehpodlpdhaaValHo
import Derived.Test.YtkjpehpodlpdhaaSortRow
import Derived.Test.YtkjpehpodlpdhaaSortF
import Derived.Test.YtkjpehpodlpdhaaShelf
import Derived.Sort.LotA
namespace Go.Proofs.Ytkjpehpodlpdhaa
set_option linter.unusedVariables false
open Go.RowKit Go.Shelf Go.Sort

theorem hpC_len (x : Hp) : (hpC x).length = 6 := rfl
theorem hpC_one (x : Hp) : ∀ u ∈ hpC x, u.oneCell' = true := by
  intro u hu
  simp only [hpC, hpS, List.mem_cons, List.not_mem_nil, or_false] at hu
  rcases hu with rfl | rfl | rfl | rfl | rfl | rfl <;> rfl
def cfH (a b : Hp) : Int := Lib.compareInt a.1.frm b.1.frm
def ltH (a b : Hp) : Bool := decide (a.1.frm < b.1.frm)
theorem ltOf_cfH : ltOf cfH = ltH := by
  funext a b
  unfold ltOf cfH ltH Lib.compareInt
  by_cases h : a.1.frm < b.1.frm
  · simp [h]
  · by_cases h2 : a.1.frm > b.1.frm
    · simp [h, h2]
    · simp [h, h2]
theorem swoH : SWO ltH := ⟨fun x => by simp [ltH], fun x y z h1 h2 => by simp [ltH] at *; omega, fun x y z h1 h2 => by simp [ltH] at *; omega⟩
/-- The list in the order in which the sort leaves it. -/
def ordH (t : List Hp) : List Hp := (insertionSort ltH t.toArray 0 t.length).toList
theorem ordH_spec (t : List Hp) : (ordH t).Perm t ∧ (ordH t).length = t.length ∧ ∀ i j, i < j → j < (ordH t).length → ((ordH t).getD i hpD).1.frm ≤ ((ordH t).getD j hpD).1.frm := by
  obtain ⟨⟨h1, h2, h3⟩, h4⟩ := insertionSort_holds (lt := ltH) swoH t.toArray 0 t.length (Nat.zero_le _) (by simp)
  have hs : (insertionSort ltH t.toArray 0 t.length).size = t.length := by rw [h1]; simp
  have hlen : (ordH t).length = t.length := by unfold ordH; rw [Array.length_toList, hs]
  refine ⟨?_, hlen, fun i j hij hj => ?_⟩
  · have e1 : (insertionSort ltH t.toArray 0 t.length).extract 0 t.length = insertionSort ltH t.toArray 0 t.length := by
      have h := Array.extract_size (xs := insertionSort ltH t.toArray 0 t.length)
      rwa [hs] at h
    have e2 : t.toArray.extract 0 t.length = t.toArray := by simp
    rw [e1, e2] at h3
    exact h3
  · rw [hlen] at hj
    have h5 := h4 i j (Nat.zero_le _) hij hj
    have g : ∀ k, (insertionSort ltH t.toArray 0 t.length)[k]! = (ordH t).getD k hpD := fun k => by
      rw [Array.getElem!_eq_getD, Array.getD_eq_getD_getElem?, List.getD_eq_getElem?_getD, ordH, Array.getElem?_toList]
      rfl
    rw [g, g] at h5
    have := of_decide_eq_false h5
    omega
theorem cmpH_any (x y : Hp) (W : World) : Calls Try.prog 116 #[.agg (hpC x).toArray, .agg (hpC y).toArray] W fun e w' => e = .returned (.int .i64 (cfH x y)) ∧ ∃ q os', w' = grow (W.drewN q) os' := by
  obtain ⟨⟨x0, x1, x2, x3, x4, x5⟩, ⟨sa, sn, sc⟩⟩ := x
  obtain ⟨⟨y0, y1, y2, y3, y4, y5⟩, ⟨ta, tn, tc⟩⟩ := y
  have hcon := fun W' => AnyG.cmp_Compare_int Try.cmpI x1 y1 W'
  change ∀ W', Calls Try.prog 117 _ _ _ at hcon
  show Calls Try.prog 116 _ _ fun e w' => e = .returned (.int .i64 (Lib.compareInt x1 y1)) ∧ _
  generalize Lib.compareInt x1 y1 = r at hcon ⊢
  unfold hpC hpS
  simp only
  go_enter Try.func116, Try.ntmps116
  go_wp2_with (go_at_call 117; refine (hcon _).mono ?_; rintro e w' ⟨rfl, rfl⟩)
  go_ret
  exact ⟨rfl, 0, _, by rw [alloc_eq_grow, alloc_eq_grow, grow_grow]; rfl⟩

set_option maxRecDepth 20000 in
theorem insH_any (lo g cap : Nat) (t : List Hp) (w : World) (h : w.ownsRow lo 100 6 (.slice (some ⟨g, 0, none⟩) t.length cap) t.length ((t.map hpC).flatten)) (hn : t.length ≤ 10) :
    Calls Try.prog 187 #[.slice (some ⟨g, 0, none⟩) t.length cap, .int .i64 0, .int .i64 t.length, .func (.func 116) #[] #[]] w fun e w' =>
      e = .returned (.tuple #[]) ∧ w'.ownsRow lo 100 6 (.slice (some ⟨g, 0, none⟩) t.length cap) t.length (((ordH t).map hpC).flatten) ∧ Below lo w w' := by
  obtain ⟨hH, hgl⟩ := holdsK_owns hpC_len (by omega) h
  have hlo : lo ≤ g := (h.lt g rfl).1
  have eg : ∀ args w, (callFunc 116 args).run Try.prog w = .ok (.enter 116 args) w := enters_of Try.func116 (by kernel_rfl) rfl
  have hcon := AnyQ.insertionSortCmpFunc Try.insF 6 Try.isAgg100 Try.sizeOf100 hpC hpC_len hpC_one cfH 116 #[] g 0 cap 0 t.length t.toArray w eg (fun _ _ _ _ x y => cmpH_any x y _) hH hgl (Nat.zero_le _) (Nat.le_refl _) (by show t.length < _; omega)
  change Calls Try.prog 187 _ _ _ at hcon
  refine hcon.mono ?_
  rintro e w' ⟨rfl, n, os, rfl⟩
  have hD : insertionSort (ltOf cfH) t.toArray 0 t.length = (ordH t).toArray := by rw [ltOf_cfH]; rfl
  rw [hD]
  exact ⟨rfl, owns_sorted hpC_len (by omega) h (ordH_spec t).2.1, below_sorted (Below.refl _ _) hlo hgl⟩

theorem insH_none (w : World) : Calls Try.prog 187 #[.slice none 0 0, .int .i64 0, .int .i64 0, .func (.func 116) #[] #[]] w fun e w' => e = .returned (.tuple #[]) ∧ w' = w := by
  go_enter Try.func187, Try.ntmps187
  go_wp2
  refine wp_loop_rounds 1 ?_
  rw [rounds_succ]
  go_wp2
  go_end0
  exact ⟨rfl, rfl⟩

set_option maxRecDepth 20000 in
theorem pdqH_any (v : Value) (n : Nat) (L : Int) (w : World) (Q : World → Prop) (hn : n ≤ 10)
    (h : Calls Try.prog 187 #[v, .int .i64 0, .int .i64 n, .func (.func 116) #[] #[]] w fun e w' => e = .returned (.tuple #[]) ∧ Q w') :
    Calls Try.prog 179 #[v, .int .i64 0, .int .i64 n, .int .i64 L, .func (.func 116) #[] #[]] w fun e w' => e = .returned (.tuple #[]) ∧ Q w' := by
  have H := Lib.hid h
  have h12 : (n : Int) ≤ 12 := by omega
  have h0 : (0 : Int) ≤ (n : Int) := by omega
  clear h
  go_enter Try.func179, Try.ntmps179
  go_wp2
  refine wp_loop_rounds 1 ?_
  rw [rounds_succ]
  go_wp2_with fail
  refine H.out.mono ?_
  rintro e w1 ⟨rfl, q⟩
  have HQ := Lib.hid q
  clear q
  go_wp2_with fail

  first | go_end0 | (refine bodyPost_ret (results_none rfl _ _ _) rfl ?_)
  exact ⟨rfl, HQ.out⟩

set_option maxRecDepth 20000 in
theorem sortH_any (lo : Nat) (v : Value) (t : List Hp) (w : World) (h : w.ownsRow lo 100 6 v t.length ((t.map hpC).flatten)) (hn : t.length ≤ 10) :
    Calls Try.prog 156 #[v, .func (.func 116) #[] #[]] w fun e w' => e = .returned (.tuple #[]) ∧ w'.ownsRow lo 100 6 v t.length (((ordH t).map hpC).flatten) ∧ Below lo w w' := by
  have hlen := Try.bits_Len (t.length : Int) w (by omega) (by omega)
  have main : ∀ a c, v = .slice a t.length c → (∀ L, Calls Try.prog 179 #[v, .int .i64 0, .int .i64 t.length, .int .i64 L, .func (.func 116) #[] #[]] w (fun e w' => e = .returned (.tuple #[]) ∧ (w'.ownsRow lo 100 6 v t.length (((ordH t).map hpC).flatten) ∧ Below lo w w'))) → Calls Try.prog 156 #[v, .func (.func 116) #[] #[]] w fun e w' => e = .returned (.tuple #[]) ∧ w'.ownsRow lo 100 6 v t.length (((ordH t).map hpC).flatten) ∧ Below lo w w' := by
    intro a c hv hc
    subst hv
    obtain ⟨Q, hQ⟩ : ∃ Q : World → Prop, (fun w' : World => w'.ownsRow lo 100 6 (.slice a t.length c) t.length (((ordH t).map hpC).flatten) ∧ Below lo w w') = Q := ⟨_, rfl⟩
    have hc2 : ∀ L, Calls Try.prog 179 #[.slice a t.length c, .int .i64 0, .int .i64 t.length, .int .i64 L, .func (.func 116) #[] #[]] w (fun e w' => e = .returned (.tuple #[]) ∧ Q w') := by rw [← hQ]; exact hc
    have HC := Lib.hid hc2
    have HLEN := Lib.hid hlen
    have hcv : IntKind.u64.wrap (t.length : Int) = (t.length : Int) := by unfold IntKind.wrap; simp [IntKind.signed, IntKind.bits]; omega
    suffices Calls Try.prog 156 #[.slice a t.length c, .func (.func 116) #[] #[]] w fun e w' => e = .returned (.tuple #[]) ∧ Q w' by rw [← hQ] at this; exact this
    clear hc hc2 hQ h hlen
    go_enter Try.func156, Try.ntmps156
    go_wp2_with fail
    refine HLEN.out.mono ?_
    rintro e w1 ⟨rfl, rfl⟩
    go_wp2_with fail
    refine (HC.out _).mono ?_
    rintro e w1 ⟨rfl, q⟩
    have HQ := Lib.hid q
    clear q
    go_wp2_with fail
    go_end0
    exact ⟨rfl, HQ.out⟩
  rcases h.2 with ⟨e0, e1⟩ | ⟨g, cap, cur, e0, hb, hg, hnc, hm, hs, ht⟩
  · have ht : t = [] := List.length_eq_zero_iff.1 e1
    subst ht
    subst e0
    refine main none 0 rfl (fun L => pdqH_any _ 0 L w _ (by omega) ((insH_none w).mono ?_))
    rintro e w' ⟨rfl, rfl⟩
    exact ⟨rfl, by rw [show ordH [] = [] from List.length_eq_zero_iff.1 (ordH_spec []).2.1]; exact h, Below.refl _ _⟩
  · subst e0
    exact main _ _ rfl (fun L => pdqH_any _ t.length L w _ hn (insH_any lo g cap t w h hn))

set_option maxRecDepth 20000 in
theorem sortedH_any (Bs : Nat) (v : Value) (t : List Hp) (w : World) (hr : HC w v t) (hn : t.length ≤ 10) (hcs : w.cell? ⟨Bs, 0, none⟩ = some v) :
    Calls Try.prog 114 #[.func (.func 157) #[] #[.pointer (some ⟨Bs, 0, none⟩)], .func (.func 116) #[] #[]] w (ColH (ordH t) w) := by
  have hcon := collectH_any Bs v t w hr (by omega) hcs
  have HCON := Lib.hid hcon
  clear hcon
  go_enter Try.func114, Try.ntmps114
  go_wp2_with fail
  refine HCON.out.mono ?_
  rintro e w1 ⟨v1, rfl, hrow, hb⟩
  have hcon := sortH_any w.heap.size v1 t w1 hrow hn
  have HC2 := Lib.hid hcon
  have HB := Lib.hid hb
  obtain ⟨a, n, c, rfl⟩ : ∃ a n c, v1 = .slice a n c := by
    rcases hrow.2 with ⟨rfl, _⟩ | ⟨g, cap, cur, rfl, _⟩
    · exact ⟨_, _, _, rfl⟩
    · exact ⟨_, _, _, rfl⟩
  clear hcon hrow hb
  go_wp2_with fail
  refine HC2.out.mono ?_
  rintro e w2 ⟨rfl, hrow2, hb2⟩
  go_wp2_with fail
  go_ret
  exact ⟨_, rfl, by rw [(ordH_spec t).2.1]; exact hrow2, HB.out.trans hb2⟩
end Go.Proofs.Ytkjpehpodlpdhaa
