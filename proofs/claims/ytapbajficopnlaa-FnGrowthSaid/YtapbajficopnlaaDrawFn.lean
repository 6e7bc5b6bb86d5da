/- The draws of functions: trees, and what is asked of them. -/
import Derived.Test.YtapbajficopnlaaTree3
import Derived.Test.YtapbajficopnlaaCurNew
namespace Go.Proofs.Ytapbajficopnlaa
set_option linter.unusedVariables false
open Go.RowKit

/-- A tree that is drawn. -/
def TreeIs (w w' : World) (v : Value) (t : List Fn) : Prop := t.length ≤ 16 ∧ (∃ ad c, v = .slice (some ad) t.length c) ∧ FnsO w.heap.size w'.heap.size w' v t ∧ Below w.heap.size w w'
theorem Dr.drawn {w w1 : World} {ob : Obj} {K : Nat} {v : Value} {t : List Fn} (h : Dr (w.alloc ob) w1 w.heap.size K v t) (hl : t.length ≤ 16) (hsm : ∃ ad c, v = .slice (some ad) t.length c) : TreeIs w w1 v t :=
  ⟨hl, hsm, h.out.wide (Nat.le_succ _) (Nat.le_refl _), ((Below.refl w.heap.size w).alloc (Nat.le_refl _) ob).trans (below_of_cur h.gr (by simp))⟩
def drawnNames : List ByteArray := [⟨#[108, 97, 119]⟩, ⟨#[116, 97, 120]⟩, ⟨#[119, 97, 116, 101, 114]⟩, ⟨#[114, 111, 97, 100, 115]⟩, ⟨#[]⟩, ⟨#[65]⟩]
theorem drawn_short {s : ByteArray} (h : s ∈ drawnNames) : s.size ≤ 5 := by
  have : ∀ x ∈ drawnNames, x.size ≤ 5 := by decide
  exact this s h
def TreeDrawn (w : World) (e : Ending) (w' : World) : Prop := ∃ v t, e = .returned v ∧ TreeIs w w' v t
def TreeIdDrawn (w : World) (e : Ending) (w' : World) : Prop := ∃ v t n, e = .returned (.tuple #[v, .int .i64 n]) ∧ inI n ∧ TreeIs w w' v t
def TreeTwoDrawn (w : World) (e : Ending) (w' : World) : Prop := ∃ v t n m, e = .returned (.tuple #[v, .int .i64 n, .int .i64 m]) ∧ inI n ∧ inI m ∧ TreeIs w w' v t
def TreeTextDrawn (w : World) (e : Ending) (w' : World) : Prop := ∃ v t n s, e = .returned (.tuple #[v, .int .i64 n, .string s]) ∧ inI n ∧ s.size ≤ 5 ∧ TreeIs w w' v t

set_option maxRecDepth 20000 in
set_option maxHeartbeats 2000000 in
theorem drawIsTree_any (a : Option Addr) (len cap : Nat) (zs : List Int) (w : World) (h : IsRow .u8 w a len cap zs) (hl : len ≤ 1099511627776) :
    Calls Try.prog 75 #[.slice a len cap] w (TreeDrawn w) := by
  have HC := Lib.hid (cur_new h hl 83)
  clear h
  go_enter Try.func75, Try.ntmps75
  go_wp2_with fail
  refine (tree3_any w.heap.size 0 _ HC.out (by omega)).mono ?_
  rintro e w1 ⟨v, t, rfl, hn, hsm, hd⟩
  have HSM := Lib.hid hsm
  clear hsm
  have HD := Lib.hid hd
  clear hd HC
  go_wp2_with fail
  go_ret
  exact ⟨v, t, rfl, HD.out.drawn hn HSM.out⟩
set_option maxRecDepth 20000 in
set_option maxHeartbeats 2000000 in
theorem drawDeepest_any (a : Option Addr) (len cap : Nat) (zs : List Int) (w : World) (h : IsRow .u8 w a len cap zs) (hl : len ≤ 1099511627776) :
    Calls Try.prog 33 #[.slice a len cap] w (TreeDrawn w) := by
  have H := Lib.hid h
  clear h
  go_enter Try.func33, Try.ntmps33
  go_wp2_with (first | (go_at_call 75; refine (drawIsTree_any a len cap zs _ H.out hl).mono ?_; rintro e w1 ⟨v, t, rfl, ht⟩))
  go_ret
  exact ⟨v, t, rfl, ht⟩
set_option maxRecDepth 20000 in
set_option maxHeartbeats 2000000 in
theorem drawPathTo_any (a : Option Addr) (len cap : Nat) (zs : List Int) (w : World) (h : IsRow .u8 w a len cap zs) (hl : len ≤ 1099511627776) :
    Calls Try.prog 54 #[.slice a len cap] w (TreeIdDrawn w) := by
  have HC := Lib.hid (cur_new h hl 83)
  clear h
  go_enter Try.func54, Try.ntmps54
  go_wp2_with fail
  refine (tree3_any w.heap.size 0 _ HC.out (by omega)).mono ?_
  rintro e w1 ⟨v, t, rfl, hn, hsm, hd⟩
  have HSM := Lib.hid hsm
  clear hsm
  have HD := Lib.hid hd
  clear hd HC
  have hlt := HD.out.cur.lt
  go_wp2_with fail
  refine (functionId_any w.heap.size 1000 v t _ _ HD.out.cur HD.out.out (by omega) (by omega)).mono ?_
  rintro e w2 ⟨n, rfl, hin, hc2, hg2⟩
  have HD2 := Lib.hid (HD.out.step hc2 hg2)
  clear hc2 hg2
  go_wp2_with fail
  go_ret2
  exact ⟨v, t, n, rfl, hin, HD2.out.drawn hn HSM.out⟩
set_option maxRecDepth 20000 in
set_option maxHeartbeats 2000000 in
theorem drawLeaf_any (a : Option Addr) (len cap : Nat) (zs : List Int) (w : World) (h : IsRow .u8 w a len cap zs) (hl : len ≤ 1099511627776) :
    Calls Try.prog 36 #[.slice a len cap] w (TreeIdDrawn w) := by
  have H := Lib.hid h
  clear h
  go_enter Try.func36, Try.ntmps36
  go_wp2_with (first | (go_at_call 54; refine (drawPathTo_any a len cap zs _ H.out hl).mono ?_; rintro e w1 ⟨v, t, n, rfl, hin, ht⟩))
  go_ret2
  exact ⟨v, t, n, rfl, hin, ht⟩
set_option maxRecDepth 20000 in
set_option maxHeartbeats 2000000 in
theorem drawMove_any (a : Option Addr) (len cap : Nat) (zs : List Int) (w : World) (h : IsRow .u8 w a len cap zs) (hl : len ≤ 1099511627776) :
    Calls Try.prog 30 #[.slice a len cap] w (TreeTwoDrawn w) := by
  have HC := Lib.hid (cur_new h hl 83)
  clear h
  go_enter Try.func30, Try.ntmps30
  go_wp2_with fail
  refine (tree3_any w.heap.size 0 _ HC.out (by omega)).mono ?_
  rintro e w1 ⟨v, t, rfl, hn, hsm, hd⟩
  have HSM := Lib.hid hsm
  clear hsm
  have HD := Lib.hid hd
  clear hd HC
  have hlt := HD.out.cur.lt
  go_wp2_with fail
  refine (functionId_any w.heap.size 1000 v t _ _ HD.out.cur HD.out.out (by omega) (by omega)).mono ?_
  rintro e w2 ⟨n, rfl, hin, hc2, hg2⟩
  have HD2 := Lib.hid (HD.out.step hc2 hg2)
  clear hc2 hg2 HD
  go_wp2_with fail
  refine (one_any w.heap.size 1004 4 _ HD2.out.cur (by omega) (by omega) (by omega)).mono ?_
  rintro e w3 ⟨r, rfl, hc3, hg3⟩
  have HD3 := Lib.hid (HD2.out.step hc3 hg3)
  clear hc3 hg3 HD2
  cases r
  · go_wp2_with fail
    refine (functionId_any w.heap.size 1006 v t _ _ HD3.out.cur HD3.out.out (by omega) (by omega)).mono ?_
    rintro e w4 ⟨m, rfl, him, hc4, hg4⟩
    have HD4 := Lib.hid (HD3.out.step hc4 hg4)
    clear hc4 hg4 HD3
    go_wp2_with fail
    go_ret3
    exact ⟨v, t, n, m, rfl, hin, him, HD4.out.drawn hn HSM.out⟩
  · go_wp2_with fail
    go_ret3
    exact ⟨v, t, n, 0, rfl, hin, by simp [inI], HD3.out.drawn hn HSM.out⟩
set_option maxRecDepth 20000 in
set_option maxHeartbeats 2000000 in
theorem drawAddF_any (a : Option Addr) (len cap : Nat) (zs : List Int) (w : World) (h : IsRow .u8 w a len cap zs) (hl : len ≤ 1099511627776) :
    Calls Try.prog 25 #[.slice a len cap] w (TreeTextDrawn w) := by
  have HC := Lib.hid (cur_new h hl 83)
  clear h
  go_enter Try.func25, Try.ntmps25
  go_wp2_with fail
  refine (tree3_any w.heap.size 0 _ HC.out (by omega)).mono ?_
  rintro e w1 ⟨v, t, rfl, hn, hsm, hd⟩
  have HSM := Lib.hid hsm
  clear hsm
  have HD := Lib.hid hd
  clear hd HC
  have hlt := HD.out.cur.lt
  go_wp2_with fail
  refine (functionId_any w.heap.size 1000 v t _ _ HD.out.cur HD.out.out (by omega) (by omega)).mono ?_
  rintro e w2 ⟨n, rfl, hin, hc2, hg2⟩
  have HD2 := Lib.hid (HD.out.step hc2 hg2)
  clear hc2 hg2 HD
  go_wp2_with fail
  refine (one_any w.heap.size 1004 4 _ HD2.out.cur (by omega) (by omega) (by omega)).mono ?_
  rintro e w3 ⟨r, rfl, hc3, hg3⟩
  have HD3 := Lib.hid (HD2.out.step hc3 hg3)
  clear hc3 hg3 HD2
  cases r
  · go_wp2_with fail
    refine (of_any w.heap.size 1006 w3.heap.size 0 6 6 drawnNames _ (HD3.out.al (.cells (drawnNames.map Value.string).toArray 9)).cur (by omega) rfl (by omega) (by omega) (by have := HD3.out.gr.size; simp at this; omega) (new_cells w3 drawnNames 9 _ rfl)).mono ?_
    rintro e w4 ⟨s, rfl, hm, hc4, hg4⟩
    have HD4 := Lib.hid ((HD3.out.al (.cells (drawnNames.map Value.string).toArray 9)).step hc4 hg4)
    clear hc4 hg4 HD3
    go_wp2_with fail
    go_ret3
    exact ⟨v, t, n, s, rfl, hin, drawn_short hm, HD4.out.drawn hn HSM.out⟩
  · go_wp2_with fail
    refine (of_any w.heap.size 1006 w3.heap.size 0 6 6 drawnNames _ (HD3.out.al (.cells (drawnNames.map Value.string).toArray 9)).cur (by omega) rfl (by omega) (by omega) (by have := HD3.out.gr.size; simp at this; omega) (new_cells w3 drawnNames 9 _ rfl)).mono ?_
    rintro e w4 ⟨s, rfl, hm, hc4, hg4⟩
    have HD4 := Lib.hid ((HD3.out.al (.cells (drawnNames.map Value.string).toArray 9)).step hc4 hg4)
    clear hc4 hg4 HD3
    go_wp2_with fail
    go_ret3
    exact ⟨v, t, 0, s, rfl, by simp [inI], drawn_short hm, HD4.out.drawn hn HSM.out⟩
end Go.Proofs.Ytapbajficopnlaa
