/- Read, Spoilt, TreesM, DrawFn, DrawFnI, DrawPath, in one text. -/
import Derived.Test.YtpbjddiopfkgbaaPathS
import Derived.Test.YtpbjddiopfkgbaaEqFn
import Derived.Test.YtpbjddiopfkgbaaCurNew
import Derived.BigQuiet
import Derived.Test.YtpbjddiopfkgbaaFpM
import Derived.Test.YtpbjddiopfkgbaaUnder
import Derived.Test.YtpbjddiopfkgbaaShareI
import Derived.Test.YtpbjddiopfkgbaaTree3
namespace Go.Proofs.Ytpbjddiopfkgbaa
set_option linter.unusedVariables false
open Go.RowKit Go.Sort

set_option maxHeartbeats 1000000 in
theorem rHas_any (v : Value) (xs : List Int) (x : Int) (w : World) (h : RowOf vI w v xs) :
    Calls Try.prog 17 #[v, .int .i64 x] w fun e w' => e = .returned (.bool (decide (x ∈ xs))) ∧ Below w.heap.size w w' := by
  have hcap := h.cap
  obtain ⟨a1, c1, rfl, hl1, hm1, r1⟩ := h
  have R1 := Lib.hid r1
  clear r1
  unfold maxLen at hm1
  go_enter Try.func17, Try.ntmps17
  go_wp2
  go_loopw [5] (fun i wr => ∃ k : Nat, k ≤ xs.length ∧ i = .int .i64 k ∧ Hid (¬ x ∈ xs.take k) ∧ Below w.heap.size w wr) (fun i _ => xs.length - (intOf i).toNat)
  case atStart => exact ⟨0, Nat.zero_le _, rfl, Lib.hid (by simp), Below.refl _ _⟩
  case round =>
    obtain ⟨k, hk, rfl, HN, hb⟩ := hrel
    by_cases hlt : k < xs.length
    · obtain ⟨b1, o1, hb1, rfl, e1⟩ := R1.out.resolve_left (fun e => by rw [e] at hlt; simp at hlt)
      obtain ⟨y, hy⟩ : ∃ s, xs[k] = s := ⟨_, rfl⟩
      have f1 := (hb.cell (p := ⟨b1, o1 + k, none⟩) hb1).trans (e1 k hlt)
      rw [hy] at f1
      simp only [vI] at f1
      have HY := Lib.hid hy
      have g0 : (0 : Int) ≤ (k : Int) := by omega
      have g1 : (k : Int) < (xs.length : Int) := by omega
      clear e1 hy
      by_cases he : y = x
      · have hq : (y == x) = true := by simp [he]
        have HE : Hid (x ∈ xs) := by rw [← he, ← HY.out]; exact List.getElem_mem hlt
        clear he
        go_wp2
        go_ret
        exact ⟨ret_bool (Eq.symm (decide_eq_true HE.out)), hb⟩
      · have hq : (y == x) = false := by simp [he]
        have HE : Hid (¬ x ∈ xs.take (k + 1)) := fun h => by
          rw [List.take_succ_eq_append_getElem hlt, List.mem_append, List.mem_singleton, HY.out] at h
          exact h.elim HN.out (fun h => he h.symm)
        clear he
        go_wp2
        go_roundw
        case rel => exact ⟨k + 1, by omega, by go_num, HE, hb⟩
        case measure => simp [intOf]; omega
    · have hkl : k = xs.length := by omega
      have HE : Hid (¬ x ∈ xs) := by have := HN.out; rwa [hkl, List.take_length] at this
      clear hkl
      go_wp2
      go_ret
      exact ⟨ret_bool (Eq.symm (decide_eq_false HE.out)), hb⟩

set_option maxHeartbeats 1000000 in
theorem rInts_any (v1 v2 : Value) (xs ys : List Int) (w : World) (h1 : RowOf vI w v1 xs) (h2 : RowOf vI w v2 ys) :
    Calls Try.prog 15 #[v1, v2] w fun e w' => e = .returned (.bool (decide (xs = ys))) ∧ Below w.heap.size w w' := by
  have hx := h1.cap
  have hy := h2.cap
  obtain ⟨a1, c1, rfl, hl1, hm1, r1⟩ := h1
  obtain ⟨a2, c2, rfl, hl2, hm2, r2⟩ := h2
  by_cases hlen : xs.length = ys.length
  · have hLen := Lib.hid hlen
    have hne : (((xs.length : Nat) : Int) != (xs.length : Int)) = false := by simp
    rw [← hlen]
    clear hlen
    have R1 := Lib.hid r1
    have R2 := Lib.hid r2
    clear r1 r2
    go_enter Try.func15, Try.ntmps15
    go_wp2
    go_loopw [5] (fun i wr => ∃ k : Nat, k ≤ xs.length ∧ i = .int .i64 k ∧ Hid (∀ j (h : j < k) (h1 : j < xs.length) (h2 : j < ys.length), xs[j] = ys[j]) ∧ Below w.heap.size w wr) (fun i _ => xs.length - (intOf i).toNat)
    case atStart => exact ⟨0, Nat.zero_le _, rfl, Lib.hid (fun j h => by omega), Below.refl _ _⟩
    case round =>
      obtain ⟨k, hk, rfl, HJ, hb⟩ := hrel
      by_cases hlt : k < xs.length
      · obtain ⟨b1, o1, hb1, rfl, e1⟩ := R1.out.resolve_left (fun e => by rw [e] at hlt; simp at hlt)
        obtain ⟨b2, o2, hb2, rfl, e2⟩ := R2.out.resolve_left (fun e => by have := hLen.out; rw [e] at this; simp at this; rw [this] at hlt; simp at hlt)
        obtain ⟨x, hx⟩ : ∃ s, xs[k] = s := ⟨_, rfl⟩
        obtain ⟨y, hy⟩ : ∃ s, ys[k]'(by have := hLen.out; omega) = s := ⟨_, rfl⟩
        have f1 := (hb.cell (p := ⟨b1, o1 + k, none⟩) hb1).trans (e1 k hlt)
        have f2 := (hb.cell (p := ⟨b2, o2 + k, none⟩) hb2).trans (e2 k (by have := hLen.out; omega))
        rw [hx] at f1
        rw [hy] at f2
        simp only [vI] at f1 f2
        have HX := Lib.hid hx
        have HY := Lib.hid hy
        have g0 : (0 : Int) ≤ (k : Int) := by omega
        have g1 : (k : Int) < (xs.length : Int) := by omega
        clear e1 e2 hx hy
        by_cases he : x = y
        · have hq : (x != y) = false := by simp [he]
          have HE := Lib.hid he
          clear he
          go_wp2
          go_quiet (fail)
          go_wp2
          go_roundw
          case rel =>
            refine ⟨k + 1, by omega, by go_num, Lib.hid (fun j h a b => ?_), below_drewN hb _⟩
            rcases Nat.lt_or_ge j k with h' | h'
            · exact HJ.out j h' a b
            · obtain rfl : j = k := by omega
              rw [HX.out, HY.out]
              exact HE.out
          case measure => simp [intOf]; omega
        · have hq : (x != y) = true := by simp [he]
          have HE := Lib.hid he
          clear he
          go_wp2
          go_quiet (fail)
          go_wp2
          go_ret
          exact ⟨ret_bool (Eq.symm (decide_eq_false (fun e => HE.out (by subst e; exact HX.out.symm.trans HY.out)))), below_drewN hb _⟩
      · go_wp2
        go_ret
        refine ⟨ret_bool (Eq.symm (decide_eq_true ?_)), hb⟩
        exact List.ext_getElem hLen.out fun i a b => HJ.out i (by omega) a b
  · have hne : (((xs.length : Nat) : Int) != (ys.length : Int)) = true := by simp; omega
    rw [decide_eq_false (fun e => hlen (by rw [e]))]
    go_enter Try.func15, Try.ntmps15
    go_wp2
    go_ret
    exact ⟨rfl, Below.refl _ _⟩


end Go.Proofs.Ytpbjddiopfkgbaa

namespace Go.Proofs.Ytpbjddiopfkgbaa
set_option linter.unusedVariables false
open Go.RowKit

def CurText (w : World) (B K m : Nat) (e : Ending) (w' : World) : Prop := ∃ s : ByteArray, e = .returned (.string s) ∧ s.size ≤ m ∧ Cur w' B K ∧ w.grownBy w' (some B)

set_option maxRecDepth 20000 in
set_option maxHeartbeats 2000000 in
theorem spoilt_any (B K : Nat) (t u : ByteArray) (w : World) (h : Cur w B K) (hK : K ≤ 100000) (ht : t.size ≤ 100000) (hu0 : 0 < u.size) (hu : u.size ≤ 100) :
    Calls Try.prog 60 #[.pointer (some ⟨B, 0, none⟩), .string t, .string u] w (CurText w B (K + 6) (t.size + 1)) := by
  have H := Lib.hid h
  clear h
  by_cases h0 : t.size = 0
  · have h1 : t = ⟨#[]⟩ := by
      apply ByteArray.ext
      exact Array.eq_empty_of_size_eq_zero (by rw [← ByteArray.size_data] at h0; exact h0)
    subst h1
    go_enter Try.func60, Try.ntmps60
    go_wp2
    go_ret
    exact ⟨_, rfl, by rw [ByteArray.size_extract]; omega, H.out.le_K (by omega), World.grownBy.refl _ _⟩
  · have hq : t.toList.isEmpty = false := by
      rw [ByteArray.toList_eq, List.isEmpty_eq_false_iff]
      intro e
      exact h0 (by rw [← ByteArray.size_data, ← Array.length_toList, e]; rfl)
    go_enter Try.func60, Try.ntmps60
    go_wp2_with fail
    refine (pick_any B K t.size _ H.out (by omega) (by omega) (by omega)).mono ?_
    rintro e w1 ⟨i, rfl, hi0, hi1, hc1, hg1⟩
    have HC1 := Lib.hid hc1
    have HG1 := Lib.hid hg1
    clear hc1 hg1
    go_wp2_with fail
    refine (pick_any B (K + 2) u.size _ HC1.out (by omega) (by omega) (by omega)).mono ?_
    rintro e w2 ⟨j, rfl, hj0, hj1, hc2, hg2⟩
    have HC2 := Lib.hid hc2
    have HG2 := Lib.hid (grownBy_trans HG1.out hg2)
    obtain ⟨I, rfl⟩ := Int.eq_ofNat_of_zero_le hi0
    obtain ⟨J, rfl⟩ := Int.eq_ofNat_of_zero_le hj0
    have hIlt : I < t.size := by omega
    have hJlt : J < u.size := by omega
    have hj2 : (J : Int) ≤ (u.size : Int) := by omega
    have hw1 : (u.extract J u.size).size = u.size - J := by rw [ByteArray.size_extract]; omega
    have hw2 : (1 : Int) ≤ ((u.extract J u.size).size : Int) := by omega
    clear hc2 hg2 HC1 HG1
    go_wp2_with fail
    refine (pick_any B (K + 4) 3 _ HC2.out (by omega) (by omega) (by omega)).mono ?_
    rintro e w3 ⟨m, rfl, hm0, hm1, hc3, hg3⟩
    have HC3 := Lib.hid hc3
    have HG3 := Lib.hid (grownBy_trans HG2.out hg3)
    have hi2 : (I : Int) ≤ (t.size : Int) := by omega
    have hi3 : (I : Int) + 1 ≤ (t.size : Int) := by omega
    have hi4 : IntKind.i64.wrap ((I : Int) + 1) = (I : Int) + 1 := Go.IntWalk.i64_in _ (by omega)
    have hi5 : (0 : Int) ≤ (I : Int) + 1 := by omega
    have hi6 : ((I : Int) + 1).toNat = I + 1 := by omega
    clear hc3 hg3 HC2 HG2 hj0 hj1 hi0 hi1
    have bd : ∀ n, RowKit.Below (B + 1) w3 (w3.drewN n) := fun n => ⟨rfl, rfl, rfl, Nat.le_refl _, fun _ _ => rfl⟩
    have gd : ∀ n, w3.grownBy (w3.drewN n) (some B) := fun n => ⟨rfl, rfl, rfl, Nat.le_refl _, fun _ _ _ => rfl⟩
    have BD := Lib.hid bd
    have GD := Lib.hid gd
    clear bd gd
    rcases (show m = 0 ∨ m = 1 ∨ m = 2 by omega) with rfl | rfl | rfl
    · go_wp2_with fail
      go_quiet (fail)
      go_wp2_with fail
      go_ret
      exact ⟨_, rfl, by simp only [ByteArray.size_append, ByteArray.size_extract]; omega, HC3.out.later (BD.out _), grownBy_trans HG3.out (GD.out _)⟩
    · go_wp2_with fail
      go_quiet (fail)
      go_wp2_with fail
      go_ret
      exact ⟨_, rfl, by simp only [ByteArray.size_append, ByteArray.size_extract]; omega, HC3.out.later (BD.out _), grownBy_trans HG3.out (GD.out _)⟩
    · go_wp2_with fail
      go_quiet (fail)
      go_wp2_with fail
      go_ret
      exact ⟨_, rfl, by simp only [ByteArray.size_append, ByteArray.size_extract]; omega, HC3.out.later (BD.out _), grownBy_trans HG3.out (GD.out _)⟩
end Go.Proofs.Ytpbjddiopfkgbaa

namespace Go.Proofs.Ytpbjddiopfkgbaa
set_option linter.unusedVariables false

theorem named_found {t : List Fn} {x : Int} {s : ByteArray} (h : namRes t x = (s, true)) : fpRes t s = (x, true) := by
  unfold namRes at h
  split at h
  · rename_i hh
    obtain ⟨rfl, _⟩ := Prod.mk.inj h
    exact fp_end hh.1 ⟨.inr hh.2, by rw [List.take_length]; exact named_names hh.1 hh.2 rfl⟩
  · cases (Prod.mk.inj h).2
theorem named_small {t : List Fn} {x : Int} {s : ByteArray} {b : Bool} (h : namRes t x = (s, b)) : s.size ≤ 4000 := by
  unfold namRes at h
  split at h
  · rename_i hh
    obtain ⟨rfl, _⟩ := Prod.mk.inj h
    have := (names_good hh.1 hh.2).2.2
    show (sj (namesF t x) 47).toArray.size ≤ 4000
    rw [List.size_toArray]
    exact this
  · obtain ⟨rfl, _⟩ := Prod.mk.inj h
    exact Nat.zero_le _
theorem und_same {t : List Fn} {x : Int} {s : ByteArray} {us : List Int} {b c : Bool} (h : namRes t x = (s, b)) (h2 : undRes t x = (us, c)) : c = b := by
  unfold namRes at h
  unfold undRes at h2
  split at h
  · rename_i hh
    rw [if_pos hh] at h2
    exact ((Prod.mk.inj h2).2.symm).trans (Prod.mk.inj h).2
  · rename_i hh
    rw [if_neg hh] at h2
    exact ((Prod.mk.inj h2).2.symm).trans (Prod.mk.inj h).2
theorem under_path {t : List Fn} {x : Int} {us : List Int} (h : undRes t x = (us, true)) {i : Nat} (hi : i < t.length) : ∃ ps, pathRes t (t.getD i fnD).id = (ps, true) ∧ ((t.getD i fnD).id ∈ us ↔ x ∈ ps) := by
  unfold undRes at h
  split at h
  · rename_i hh
    obtain ⟨rfl, _⟩ := Prod.mk.inj h
    refine ⟨pathF t (t.getD i fnD).id, ?_, ?_⟩
    · unfold pathRes
      rw [if_pos ⟨hh.1, tree_has hi⟩]
    · rw [mem_underF (Nat.le_refl _)]
      constructor
      · rintro ⟨j, _, _, h3⟩; exact h3
      · intro h3; exact ⟨i, hi, rfl, h3⟩
  · cases (Prod.mk.inj h).2
theorem cpl_le2 : ∀ (xs ys : List Int), cpl xs ys ≤ ys.length
  | [], ys => by simp [cpl]
  | x :: xs, [] => by simp [cpl]
  | x :: xs, y :: ys => by
    have := cpl_le2 xs ys
    simp only [cpl]
    split
    · simp; exact this
    · simp
theorem cpl_take : ∀ (xs ys : List Int), ys.take (cpl xs ys) = xs.take (cpl xs ys)
  | [], ys => by simp [cpl]
  | x :: xs, [] => by simp [cpl]
  | x :: xs, y :: ys => by
    have := cpl_take xs ys
    simp only [cpl]
    split
    · rename_i e; simp [e, this]
    · simp
theorem cpl_ne : ∀ (xs ys : List Int), cpl xs ys < xs.length → cpl xs ys < ys.length → xs.getD (cpl xs ys) 0 ≠ ys.getD (cpl xs ys) 0
  | [], ys => by simp [cpl]
  | x :: xs, [] => by simp [cpl]
  | x :: xs, y :: ys => by
    have := cpl_ne xs ys
    simp only [cpl]
    split
    · intro h1 h2
      simpa using this (by simpa using h1) (by simpa using h2)
    · rename_i e; intro _ _; simpa using e
theorem shared_path {t : List Fn} {a b : Int} {sh : List Int} (h : shaRes t a b = (sh, true)) : ∃ ps qs, pathRes t a = (ps, true) ∧ pathRes t b = (qs, true) ∧ sh.length ≤ ps.length ∧ sh.length ≤ qs.length ∧ ps.take sh.length = sh ∧ qs.take sh.length = sh ∧
    (sh.length < ps.length → sh.length < qs.length → ps.getD sh.length 0 ≠ qs.getD sh.length 0) := by
  unfold shaRes at h
  split at h
  · rename_i hh
    obtain ⟨rfl, _⟩ := Prod.mk.inj h
    have h1 := cpl_le (pathF t a) (pathF t b)
    have h2 := cpl_le2 (pathF t a) (pathF t b)
    have hl : ((pathF t a).take (cpl (pathF t a) (pathF t b))).length = cpl (pathF t a) (pathF t b) := by rw [List.length_take]; omega
    refine ⟨pathF t a, pathF t b, by unfold pathRes; rw [if_pos ⟨hh.1, hh.2.1⟩], by unfold pathRes; rw [if_pos ⟨hh.1, hh.2.2⟩], by rw [hl]; exact h1, by rw [hl]; exact h2, by rw [hl], by rw [hl]; exact cpl_take _ _, ?_⟩
    rw [hl]
    exact cpl_ne _ _
  · cases (Prod.mk.inj h).2
end Go.Proofs.Ytpbjddiopfkgbaa

namespace Go.Proofs.Ytpbjddiopfkgbaa
set_option linter.unusedVariables false
open Go.RowKit

def TreeIs (w w' : World) (v : Value) (t : List Fn) : Prop := t.length ≤ 16 ∧ (∃ ad c, v = .slice (some ad) t.length c) ∧ FnsO w.heap.size w'.heap.size w' v t ∧ Below w.heap.size w w'
theorem Dr.drawn {w w1 : World} {ob : Obj} {K : Nat} {v : Value} {t : List Fn} (h : Dr (w.alloc ob) w1 w.heap.size K v t) (hl : t.length ≤ 16) (hsm : ∃ ad c, v = .slice (some ad) t.length c) : TreeIs w w1 v t :=
  ⟨hl, hsm, h.out.wide (Nat.le_succ _) (Nat.le_refl _), ((Below.refl w.heap.size w).alloc (Nat.le_refl _) ob).trans (below_of_cur h.gr (by simp))⟩
def drawnNames : List ByteArray := [⟨#[108, 97, 119]⟩, ⟨#[116, 97, 120]⟩, ⟨#[119, 97, 116, 101, 114]⟩, ⟨#[114, 111, 97, 100, 115]⟩, ⟨#[]⟩, ⟨#[65]⟩]
theorem drawn_short {s : ByteArray} (h : s ∈ drawnNames) : s.size ≤ 5 := by
  have : ∀ x ∈ drawnNames, x.size ≤ 5 := by decide
  exact this s h
def TreeDrawn (w : World) (e : Ending) (w' : World) : Prop := ∃ v t, e = .returned v ∧ TreeIs w w' v t
def TreeIdDrawn (w : World) (e : Ending) (w' : World) : Prop := ∃ v t n, e = .returned (.tuple #[v, .int .i64 n]) ∧ inI n ∧ TreeIs w w' v t
def TreeTwoDrawn (w : World) (e : Ending) (w' : World) : Prop := ∃ v t n m, e = .returned (.tuple #[v, .int .i64 n, .int .i64 m]) ∧ inI n ∧ inI m ∧ TreeIs w w' v t
def TreeTextDrawn (w : World) (e : Ending) (w' : World) : Prop := ∃ v t n s, e = .returned (.tuple #[v, .int .i64 n, .string s]) ∧ inI n ∧ s.size ≤ 5 ∧ TreeIs w w' v t

set_option maxRecDepth 20000 in
set_option maxHeartbeats 2000000 in
theorem drawPathTo_any (a : Option Addr) (len cap : Nat) (zs : List Int) (w : World) (h : IsRow .u8 w a len cap zs) (hl : len ≤ 1099511627776) :
    Calls Try.prog 45 #[.slice a len cap] w (TreeIdDrawn w) := by
  have HC := Lib.hid (cur_new h hl 81)
  clear h
  go_enter Try.func45, Try.ntmps45
  go_wp2_with fail
  refine (tree3_any w.heap.size 0 _ HC.out (by omega)).mono ?_
  rintro e w1 ⟨v, t, rfl, hn, hsm, hd⟩
  have HSM := Lib.hid hsm
  clear hsm
  have HD := Lib.hid hd
  clear hd HC
  have hlt := HD.out.cur.lt
  go_wp2_with fail
  refine (functionId_any w.heap.size 1000 v t _ _ HD.out.cur HD.out.out (by omega) (by omega)).mono ?_
  rintro e w2 ⟨n, rfl, hin, hc2, hg2⟩
  have HD2 := Lib.hid (HD.out.step hc2 hg2)
  clear hc2 hg2
  go_wp2_with fail
  go_ret2
  exact ⟨v, t, n, rfl, hin, HD2.out.drawn hn HSM.out⟩
end Go.Proofs.Ytpbjddiopfkgbaa

namespace Go.Proofs.Ytpbjddiopfkgbaa
set_option linter.unusedVariables false
open Go.RowKit

theorem isRow_after {k : IntKind} {w w' : World} {a : Option Addr} {len cap : Nat} {zs : List Int} (h : IsRow k w a len cap zs) (hb : Below w.heap.size w w') : IsRow k w' a len cap zs := by
  refine h.imp id ?_
  rintro ⟨x, rfl, hl, hm, hz, hc, hw⟩
  refine ⟨x, rfl, hl, hm, hz, fun i hi => ?_, hw⟩
  have := hc i hi
  exact (hb.cell (World.block_lt_of_cell? w _ this)).trans this
def FnDrawn (w : World) (e : Ending) (w' : World) : Prop := ∃ x : Fn, e = .returned (.agg #[.int .i64 x.id, .int .i64 x.parent, .string x.name]) ∧ x.ok ∧ Below w.heap.size w w'
end Go.Proofs.Ytpbjddiopfkgbaa

namespace Go.Proofs.Ytpbjddiopfkgbaa
set_option linter.unusedVariables false
open Go.RowKit

def TreePathDrawn (w : World) (e : Ending) (w' : World) : Prop := ∃ v t s, e = .returned (.tuple #[v, .string s]) ∧ s.size ≤ 4001 ∧ TreeIs w w' v t

set_option maxRecDepth 20000 in
set_option maxHeartbeats 2000000 in
theorem drawNamed_any (a : Option Addr) (len cap : Nat) (zs : List Int) (w : World) (h : IsRow .u8 w a len cap zs) (hl : len ≤ 1099511627776) :
    Calls Try.prog 9 #[.slice a len cap] w (TreeIdDrawn w) := by
  have H := Lib.hid h
  clear h
  go_enter Try.func9, Try.ntmps9
  go_wp2_with (first | (go_at_call 45; refine (drawPathTo_any a len cap zs _ H.out hl).mono ?_; rintro e w1 ⟨v, t, n, rfl, hin, ht⟩))
  go_ret2
  exact ⟨v, t, n, rfl, hin, ht⟩
set_option maxRecDepth 20000 in
set_option maxHeartbeats 2000000 in
theorem drawShared_any (a : Option Addr) (len cap : Nat) (zs : List Int) (w : World) (h : IsRow .u8 w a len cap zs) (hl : len ≤ 1099511627776) :
    Calls Try.prog 18 #[.slice a len cap] w (TreeTwoDrawn w) := by
  have HC := Lib.hid (cur_new h hl 81)
  clear h
  go_enter Try.func18, Try.ntmps18
  go_wp2_with fail
  refine (tree3_any w.heap.size 0 _ HC.out (by omega)).mono ?_
  rintro e w1 ⟨v, t, rfl, hn, hsm, hd⟩
  have HSM := Lib.hid hsm
  clear hsm
  have HD := Lib.hid hd
  clear hd HC
  have hlt := HD.out.cur.lt
  go_wp2_with fail
  refine (functionId_any w.heap.size 1000 v t _ _ HD.out.cur HD.out.out (by omega) (by omega)).mono ?_
  rintro e w2 ⟨n, rfl, hin, hc2, hg2⟩
  have HD2 := Lib.hid (HD.out.step hc2 hg2)
  clear hc2 hg2 HD
  go_wp2_with fail
  refine (functionId_any w.heap.size 1004 v t _ _ HD2.out.cur HD2.out.out (by omega) (by omega)).mono ?_
  rintro e w3 ⟨m, rfl, him, hc3, hg3⟩
  have HD3 := Lib.hid (HD2.out.step hc3 hg3)
  clear hc3 hg3 HD2
  go_wp2_with fail
  go_ret3
  exact ⟨v, t, n, m, rfl, hin, him, HD3.out.drawn hn HSM.out⟩
set_option maxRecDepth 20000 in
set_option maxHeartbeats 2000000 in
theorem drawFind_any (a : Option Addr) (len cap : Nat) (zs : List Int) (w : World) (h : IsRow .u8 w a len cap zs) (hl : len ≤ 1099511627776) :
    Calls Try.prog 21 #[.slice a len cap] w (TreePathDrawn w) := by
  have HC := Lib.hid (cur_new h hl 81)
  clear h
  go_enter Try.func21, Try.ntmps21
  go_wp2_with fail
  refine (tree3_any w.heap.size 0 _ HC.out (by omega)).mono ?_
  rintro e w1 ⟨v, t, rfl, hn, hsm, hd⟩
  have HSM := Lib.hid hsm
  clear hsm
  have HD := Lib.hid hd
  clear hd HC
  have hlt := HD.out.cur.lt
  go_wp2_with fail
  refine (functionId_any w.heap.size 1000 v t _ _ HD.out.cur HD.out.out (by omega) (by omega)).mono ?_
  rintro e w2 ⟨n, rfl, hin, hc2, hg2⟩
  have HD2 := Lib.hid (HD.out.step hc2 hg2)
  obtain ⟨⟨s, ok⟩, hres⟩ : ∃ z, namRes t n = z := ⟨_, rfl⟩
  have hsz := named_small hres
  have HRES := Lib.hid hres
  clear hc2 hg2 HD hres
  go_wp2_with fail
  refine (specNamedPath_any v t n _ HD2.out.out.row s ok HRES.out).mono ?_
  rintro e w3 ⟨rfl, b3⟩
  have HD3 := Lib.hid (HD2.out.below b3)
  clear b3 HD2
  go_wp2_with fail
  refine (one_any w.heap.size 1004 4 _ HD3.out.cur (by omega) (by omega) (by omega)).mono ?_
  rintro e w4 ⟨r, rfl, hc4, hg4⟩
  have HD4 := Lib.hid (HD3.out.step hc4 hg4)
  clear hc4 hg4 HD3
  cases r
  · go_wp2_with fail
    go_ret2
    exact ⟨v, t, s, rfl, by omega, HD4.out.drawn hn HSM.out⟩
  · go_wp2_with fail
    refine (spoilt_any w.heap.size 1006 s _ _ HD4.out.cur (by omega) (by omega) (by decide) (by decide)).mono ?_
    rintro e w5 ⟨s2, rfl, hs2, hc5, hg5⟩
    have HD5 := Lib.hid (HD4.out.step hc5 hg5)
    clear hc5 hg5 HD4
    go_wp2_with fail
    go_ret2
    exact ⟨v, t, s2, rfl, by omega, HD5.out.drawn hn HSM.out⟩
end Go.Proofs.Ytpbjddiopfkgbaa
