/- The draws of clerks, and of what is asked of them: each function's. -/
import Derived.Test.YtalaegkfkjpmoaaClerks
namespace Go.Proofs.Ytalaegkfkjpmoaa
set_option linter.unusedVariables false
open Go.RowKit

theorem few_inC {r : Int} (h : r ∈ ([0, 1, 50] : List Int)) : inI r := by
  have : ∀ x ∈ ([0, 1, 50] : List Int), -9223372036854775808 ≤ x ∧ x ≤ 9223372036854775807 := by decide
  have := this r h
  unfold inI
  omega
def CurSomeC (w : World) (B K : Nat) (e : Ending) (w' : World) : Prop :=
  ∃ r : Int, e = .returned (.int .i64 r) ∧ inI r ∧ Cur w' B K ∧ w.grownBy w' (some B)
set_option maxHeartbeats 1000000 in
theorem clerkId_any (B K : Nat) (v : Value) (t : List Ck) (hi : Nat) (w : World) (h : Cur w B K) (ht : CksO (B + 1) hi w v t) (hn : t.length ≤ 1048576) (hK : K ≤ 274877906944) :
    Calls Try.prog 103 #[.pointer (some ⟨B, 0, none⟩), v] w (CurSomeC w B (K + 4)) := by
  have HT := Lib.hid ht
  have H := Lib.hid h
  obtain ⟨a1, c1, hv, hl1, hm1, r1⟩ := ht.row.cks
  subst hv
  unfold maxLen at hm1
  have hlt := h.lt
  clear h ht r1
  by_cases h0 : t.length = 0
  · have hnum := new_nums w [0, 1, 50] 3 _ rfl
    have HC := Lib.hid (H.out.later (Below.alloc (Below.refl (B + 1) w) hlt (.cells (([0, 1, 50] : List Int).map (Value.int .i64)).toArray 3)))
    have hz : ((t.length : Int) == 0) = true := by simp [h0]
    have hz2 : decide ((t.length : Int) = 0) = true := decide_eq_true (by omega)
    clear h0
    go_enter Try.func103, Try.ntmps103
    go_wp2_with (first | (go_at_call 84; refine (amongZ_any B K w.heap.size 0 3 3 [0, 1, 50] _ HC.out (by omega) rfl (by omega) (by omega) (by omega) hnum).mono ?_; rintro e w1 ⟨r, rfl, hm, hc1, hg1⟩))
    go_ret
    exact ⟨r, rfl, few_inC hm, hc1.le_K (by omega), grownBy_trans (World.grownBy_alloc w _ _) hg1⟩
  · have hz : ((t.length : Int) == 0) = false := beq_eq_false_iff_ne.2 (by omega)
    have hz2 : decide ((t.length : Int) = 0) = false := decide_eq_false (by omega)
    have hp1 : (1 : Int) ≤ (t.length : Int) := by omega
    clear h0
    go_enter Try.func103, Try.ntmps103
    go_wp2_with fail
    refine (one_any B K 10 _ H.out (by omega) (by omega) (by omega)).mono ?_
    rintro e w1 ⟨b, rfl, hc1, hg1⟩
    have HC1 := Lib.hid hc1
    have HG1 := Lib.hid hg1
    have HT1 := Lib.hid (HT.out.grown hg1 (by omega))
    have hlt1 := hc1.lt
    clear hc1 hg1
    cases b
    · go_wp2_with fail
      refine (pick_any B (K + 2) t.length _ HC1.out (by omega) (by omega) (by omega)).mono ?_
      rintro e w2 ⟨r, rfl, hr0, hr1, hc2, hg2⟩
      obtain ⟨k, rfl⟩ := Int.eq_ofNat_of_zero_le hr0
      have hk : k < t.length := by omega
      obtain ⟨a2, c2, e2, _, _, r2⟩ := (HT1.out.grown hg2 (by omega)).row.cks
      cases e2
      obtain ⟨bx, ox, hbx, rfl, e1⟩ := r2.resolve_left (fun e => by rw [e] at hk; simp at hk)
      obtain ⟨q0, _, _, _, _, _, hok⟩ := e1 k hk
      have HOK := Lib.hid hok.1
      have HC2 := Lib.hid hc2
      have HG2 := Lib.hid hg2
      have g0 : (0 : Int) ≤ (k : Int) := by omega
      have g1 : (k : Int) < (t.length : Int) := by omega
      clear hc2 hg2 e1 r2 hok
      go_wp2
      go_ret
      exact ⟨_, rfl, (by have := HOK.out; rwa [getCk_lt hk] at this), HC2.out, grownBy_trans HG1.out HG2.out⟩
    · have hnum := new_nums w1 [0, 1, 50] 3 _ rfl
      have HC := Lib.hid (HC1.out.later (Below.alloc (Below.refl (B + 1) w1) hlt1 (.cells (([0, 1, 50] : List Int).map (Value.int .i64)).toArray 3)))
      go_wp2_with (first | (go_at_call 84; refine (amongZ_any B (K + 2) w1.heap.size 0 3 3 [0, 1, 50] _ HC.out (by omega) rfl (by omega) (by omega) (by omega) hnum).mono ?_; rintro e w2 ⟨r, rfl, hm, hc2, hg2⟩))
      go_ret
      exact ⟨r, rfl, few_inC hm, hc2, grownBy_trans HG1.out (grownBy_trans (World.grownBy_alloc w1 _ _) hg2)⟩
theorem amongCutC_any (B K g cap m n : Nat) (xs : List Int) (w : World) (h : Cur w B K) (hK : K ≤ 549755813888) (hm : n ≤ xs.length) (h0 : 0 < n) (hn1 : n ≤ 1099511627776) (hgB : g ≠ B)
    (hc : ∀ i (hi : i < xs.length), w.cell? ⟨g, 0 + i, none⟩ = some (.int .i64 xs[i])) :
    Calls Try.prog 84 #[.pointer (some ⟨B, 0, none⟩), .slice (some ⟨g, 0, none⟩) n cap] w (CurNum w B (K + 2) xs) := by
  refine (amongZ_any B K g 0 cap n (xs.take n) w h hK (by rw [List.length_take]; omega) h0 hn1 hgB (fun i hi => ?_)).mono ?_
  · rw [List.length_take] at hi
    rw [List.getElem_take]
    exact hc i (by omega)
  · rintro e w' ⟨r, h1, h2, h3, h4⟩
    exact ⟨r, h1, List.mem_of_mem_take h2, h3, h4⟩
theorem quo_natC (R d : Nat) : Int.tdiv (R : Int) (d : Int) = ((R / d : Nat) : Int) := by simp [Int.tdiv]
theorem inI_smallC {r : Int} {xs : List Int} (h : r ∈ xs) (hx : ∀ x ∈ xs, -100000 ≤ x ∧ x ≤ 100000) : inI r := by have := hx r h; unfold inI; omega
theorem DrC.le {w0 w : World} {B K K' : Nat} {v : Value} {t : List Ck} (h : DrC w0 w B K v t) (hk : K ≤ K') : DrC w0 w B K' v t := ⟨h.cur.le_K hk, h.out, h.gr⟩
def CidDrawn (w0 : World) (B K : Nat) (v : Value) (t : List Ck) (e : Ending) (w' : World) : Prop := ∃ n : Int, e = .returned (.int .i64 n) ∧ (-1 ≤ n ∧ n ≤ 20001) ∧ DrC w0 w' B K v t
def rights11List : List Int := [1, 2, 3, 4, 8, 10, 15, 0, 16]
theorem rights11List_in {r : Int} (h : r ∈ rights11List) : -1 ≤ r ∧ r ≤ 20001 := by
  simp [rights11List] at h; omega
set_option maxRecDepth 20000 in
set_option maxHeartbeats 2000000 in
theorem rights11_any (w0 : World) (B K : Nat) (v : Value) (t : List Ck) (w : World) (h : DrC w0 w B K v t) (hK : K ≤ 100000) :
    Calls Try.prog 94 #[.pointer (some ⟨B, 0, none⟩)] w (CidDrawn w0 B (K + 4) v t) := by
  have HD0 := Lib.hid (h.al (.cells (rights11List.map (Value.int .i64)).toArray 3 (0, 0)))
  have HN := Lib.hid (new_nums w rights11List 3 _ rfl)
  have hlt := h.cur.lt
  clear h
  go_enter Try.func94, Try.ntmps94
  go_wp2_with fail
  refine (pick_any B K 24 _ HD0.out.cur (by omega) (by omega) (by omega)).mono ?_
  rintro e w1 ⟨r, rfl, hr0, hr1, hc, hg⟩
  obtain ⟨R, rfl⟩ := Int.eq_ofNat_of_zero_le hr0
  have HD1 := Lib.hid (HD0.out.step hc hg)
  have HC : Hid (∀ i (hi : i < rights11List.length), w1.cell? ⟨w.heap.size, 0 + i, none⟩ = some (.int .i64 rights11List[i])) := Lib.hid (fun i hi => hg.cell (HN.out i hi) (by simp; omega))
  have hR : R < 24 := by omega
  obtain ⟨q, hq⟩ : ∃ q, R / 11 = q := ⟨_, rfl⟩
  have hq2 : q ≤ 2 := by omega
  have hd : Int.tdiv (R : Int) 11 = (q : Int) := by rw [← hq]; exact quo_natC R 11
  have hw1 : IntKind.i64.wrap (q : Int) = (q : Int) := Go.IntWalk.i64_in _ (by omega)
  have hw2 : IntKind.i64.wrap (7 + (q : Int)) = 7 + (q : Int) := Go.IntWalk.i64_in _ (by omega)
  have hw3 : (0 : Int) ≤ 7 + (q : Int) := by omega
  have hw4 : 7 + (q : Int) ≤ 9 := by omega
  have hw5 : (7 + (q : Int)).toNat = 7 + q := by omega
  clear hc hg hq hr0 hr1 HD0 HN
  go_wp2_with fail
  refine (amongCutC_any B (K + 2) w.heap.size 9 9 (7 + q) rights11List _ HD1.out.cur (by omega) (by simp [rights11List]; omega) (by omega) (by omega) (by omega) HC.out).mono ?_
  rintro e w2 ⟨n, rfl, hm, hc2, hg2⟩
  have HD2 := Lib.hid (HD1.out.step hc2 hg2)
  have hn := rights11List_in hm
  clear hc2 hg2 hm
  go_wp2_with fail
  go_ret
  exact ⟨n, rfl, hn, HD2.out.le (by omega)⟩
def day11List : List Int := [0, 9, 10, 55, 60, 61, 20000, -1, 20001]
theorem day11List_in {r : Int} (h : r ∈ day11List) : -1 ≤ r ∧ r ≤ 20001 := by
  simp [day11List] at h; omega
set_option maxRecDepth 20000 in
set_option maxHeartbeats 2000000 in
theorem day11_any (w0 : World) (B K : Nat) (v : Value) (t : List Ck) (w : World) (h : DrC w0 w B K v t) (hK : K ≤ 100000) :
    Calls Try.prog 95 #[.pointer (some ⟨B, 0, none⟩)] w (CidDrawn w0 B (K + 4) v t) := by
  have HD0 := Lib.hid (h.al (.cells (day11List.map (Value.int .i64)).toArray 3 (0, 0)))
  have HN := Lib.hid (new_nums w day11List 3 _ rfl)
  have hlt := h.cur.lt
  clear h
  go_enter Try.func95, Try.ntmps95
  go_wp2_with fail
  refine (pick_any B K 24 _ HD0.out.cur (by omega) (by omega) (by omega)).mono ?_
  rintro e w1 ⟨r, rfl, hr0, hr1, hc, hg⟩
  obtain ⟨R, rfl⟩ := Int.eq_ofNat_of_zero_le hr0
  have HD1 := Lib.hid (HD0.out.step hc hg)
  have HC : Hid (∀ i (hi : i < day11List.length), w1.cell? ⟨w.heap.size, 0 + i, none⟩ = some (.int .i64 day11List[i])) := Lib.hid (fun i hi => hg.cell (HN.out i hi) (by simp; omega))
  have hR : R < 24 := by omega
  obtain ⟨q, hq⟩ : ∃ q, R / 11 = q := ⟨_, rfl⟩
  have hq2 : q ≤ 2 := by omega
  have hd : Int.tdiv (R : Int) 11 = (q : Int) := by rw [← hq]; exact quo_natC R 11
  have hw1 : IntKind.i64.wrap (q : Int) = (q : Int) := Go.IntWalk.i64_in _ (by omega)
  have hw2 : IntKind.i64.wrap (7 + (q : Int)) = 7 + (q : Int) := Go.IntWalk.i64_in _ (by omega)
  have hw3 : (0 : Int) ≤ 7 + (q : Int) := by omega
  have hw4 : 7 + (q : Int) ≤ 9 := by omega
  have hw5 : (7 + (q : Int)).toNat = 7 + q := by omega
  clear hc hg hq hr0 hr1 HD0 HN
  go_wp2_with fail
  refine (amongCutC_any B (K + 2) w.heap.size 9 9 (7 + q) day11List _ HD1.out.cur (by omega) (by simp [day11List]; omega) (by omega) (by omega) (by omega) HC.out).mono ?_
  rintro e w2 ⟨n, rfl, hm, hc2, hg2⟩
  have HD2 := Lib.hid (HD1.out.step hc2 hg2)
  have hn := day11List_in hm
  clear hc2 hg2 hm
  go_wp2_with fail
  go_ret
  exact ⟨n, rfl, hn, HD2.out.le (by omega)⟩
/-- Clerks that are drawn. -/
def ClerksIs (w w' : World) (v : Value) (t : List Ck) : Prop := t.length ≤ 12 ∧ (∃ ad c, v = .slice (some ad) t.length c) ∧ CksO w.heap.size w'.heap.size w' v t ∧ Below w.heap.size w w'
theorem DrC.drawn {w w1 : World} {ob : Obj} {K : Nat} {v : Value} {t : List Ck} (h : DrC (w.alloc ob) w1 w.heap.size K v t) (hl : t.length ≤ 12) (hsm : ∃ ad c, v = .slice (some ad) t.length c) : ClerksIs w w1 v t :=
  ⟨hl, hsm, h.out.wide (Nat.le_succ _) (Nat.le_refl _), ((Below.refl w.heap.size w).alloc (Nat.le_refl _) ob).trans (below_of_cur h.gr (by simp))⟩
theorem isRow_afterC {k : IntKind} {w w' : World} {a : Option Addr} {len cap : Nat} {zs : List Int} (h : IsRow k w a len cap zs) (hb : Below w.heap.size w w') : IsRow k w' a len cap zs := by
  refine h.imp id ?_
  rintro ⟨x, rfl, hl, hm, hz, hc, hw⟩
  refine ⟨x, rfl, hl, hm, hz, fun i hi => ?_, hw⟩
  have := hc i hi
  exact (hb.cell (World.block_lt_of_cell? w _ this)).trans this
def ClerksDrawn1 (w : World) (e : Ending) (w' : World) : Prop := ∃ v t n, e = .returned (.tuple #[v, .int .i64 n]) ∧ inI n ∧ ClerksIs w w' v t
def ClerksDrawn2 (w : World) (e : Ending) (w' : World) : Prop := ∃ v t n m, e = .returned (.tuple #[v, .int .i64 n, .int .i64 m]) ∧ inI n ∧ inI m ∧ ClerksIs w w' v t
def ClerksDrawn3 (w : World) (e : Ending) (w' : World) : Prop := ∃ v t n m r, e = .returned (.tuple #[v, .int .i64 n, .int .i64 m, .int .i64 r]) ∧ inI n ∧ inI m ∧ inI r ∧ ClerksIs w w' v t
theorem inI_20001 {n : Int} (h : -1 ≤ n ∧ n ≤ 20001) : inI n := by unfold inI; omega
set_option maxRecDepth 20000 in
set_option maxHeartbeats 2000000 in
theorem drawWhoMay_any (a : Option Addr) (len cap : Nat) (zs : List Int) (w : World) (h : IsRow .u8 w a len cap zs) (hl : len ≤ 1099511627776) :
    Calls Try.prog 37 #[.slice a len cap] w (ClerksDrawn2 w) := by
  have HC := Lib.hid (cur_new h hl 83)
  clear h
  go_enter Try.func37, Try.ntmps37
  go_wp2_with fail
  refine (clerks_any w.heap.size 0 _ HC.out (by omega)).mono ?_
  rintro e w1 ⟨v, t, rfl, hn, hsm, hd⟩
  have HSM := Lib.hid hsm
  clear hsm
  have HD := Lib.hid hd
  clear hd HC
  go_wp2_with fail
  refine (rights11_any _ w.heap.size 1000 v t _ HD.out (by omega)).mono ?_
  rintro e w2 ⟨n, rfl, rn, hd⟩
  have HD2 := Lib.hid hd
  have jn := inI_20001 rn
  clear hd HD
  go_wp2_with fail
  refine (day11_any _ w.heap.size 1004 v t _ HD2.out (by omega)).mono ?_
  rintro e w3 ⟨m, rfl, rm, hd⟩
  have HD3 := Lib.hid hd
  have jm := inI_20001 rm
  clear hd HD2
  go_wp2_with fail
  go_ret3
  exact ⟨v, t, n, m, rfl, jn, jm, HD3.out.drawn hn HSM.out⟩
set_option maxRecDepth 20000 in
set_option maxHeartbeats 2000000 in
theorem drawPairFor_any (a : Option Addr) (len cap : Nat) (zs : List Int) (w : World) (h : IsRow .u8 w a len cap zs) (hl : len ≤ 1099511627776) :
    Calls Try.prog 42 #[.slice a len cap] w (ClerksDrawn1 w) := by
  have HC := Lib.hid (cur_new h hl 83)
  clear h
  go_enter Try.func42, Try.ntmps42
  go_wp2_with fail
  refine (clerks_any w.heap.size 0 _ HC.out (by omega)).mono ?_
  rintro e w1 ⟨v, t, rfl, hn, hsm, hd⟩
  have HSM := Lib.hid hsm
  clear hsm
  have HD := Lib.hid hd
  clear hd HC
  go_wp2_with fail
  refine (day11_any _ w.heap.size 1000 v t _ HD.out (by omega)).mono ?_
  rintro e w2 ⟨n, rfl, rn, hd⟩
  have HD2 := Lib.hid hd
  have jn := inI_20001 rn
  clear hd HD
  go_wp2_with fail
  go_ret2
  exact ⟨v, t, n, rfl, jn, HD2.out.drawn hn HSM.out⟩
set_option maxRecDepth 20000 in
set_option maxHeartbeats 2000000 in
theorem drawMayDo_any (a : Option Addr) (len cap : Nat) (zs : List Int) (w : World) (h : IsRow .u8 w a len cap zs) (hl : len ≤ 1099511627776) :
    Calls Try.prog 45 #[.slice a len cap] w (ClerksDrawn3 w) := by
  have HC := Lib.hid (cur_new h hl 83)
  clear h
  go_enter Try.func45, Try.ntmps45
  go_wp2_with fail
  refine (clerks_any w.heap.size 0 _ HC.out (by omega)).mono ?_
  rintro e w1 ⟨v, t, rfl, hn, hsm, hd⟩
  have HSM := Lib.hid hsm
  clear hsm
  have HD := Lib.hid hd
  clear hd HC
  go_wp2_with fail
  refine (clerkId_any w.heap.size 1000 v t _ _ HD.out.cur HD.out.out (by omega) (by omega)).mono ?_
  rintro e w2 ⟨n, rfl, jn, hc, hg⟩
  have HD2 := Lib.hid (HD.out.step hc hg)
  clear hc hg HD
  go_wp2_with fail
  refine (rights11_any _ w.heap.size 1004 v t _ HD2.out (by omega)).mono ?_
  rintro e w3 ⟨m, rfl, rm, hd⟩
  have HD3 := Lib.hid hd
  have jm := inI_20001 rm
  clear hd HD2
  go_wp2_with fail
  refine (day11_any _ w.heap.size 1008 v t _ HD3.out (by omega)).mono ?_
  rintro e w4 ⟨s, rfl, rs, hd⟩
  have HD4 := Lib.hid hd
  have js := inI_20001 rs
  clear hd HD3
  go_wp2_with fail
  refine bodyPost_ret (v := .tuple #[v, .int .i64 n, .int .i64 m, .int .i64 s]) (by simp [results, Try.results45, go_sem]) rfl ?_
  exact ⟨v, t, n, m, s, rfl, jn, jm, js, HD4.out.drawn hn HSM.out⟩
set_option maxRecDepth 20000 in
set_option maxHeartbeats 2000000 in
theorem drawRightsOn_any (a : Option Addr) (len cap : Nat) (zs : List Int) (w : World) (h : IsRow .u8 w a len cap zs) (hl : len ≤ 1099511627776) :
    Calls Try.prog 47 #[.slice a len cap] w (ClerksDrawn2 w) := by
  have HC := Lib.hid (cur_new h hl 83)
  clear h
  go_enter Try.func47, Try.ntmps47
  go_wp2_with fail
  refine (clerks_any w.heap.size 0 _ HC.out (by omega)).mono ?_
  rintro e w1 ⟨v, t, rfl, hn, hsm, hd⟩
  have HSM := Lib.hid hsm
  clear hsm
  have HD := Lib.hid hd
  clear hd HC
  go_wp2_with fail
  refine (clerkId_any w.heap.size 1000 v t _ _ HD.out.cur HD.out.out (by omega) (by omega)).mono ?_
  rintro e w2 ⟨n, rfl, jn, hc, hg⟩
  have HD2 := Lib.hid (HD.out.step hc hg)
  clear hc hg HD
  go_wp2_with fail
  refine (day11_any _ w.heap.size 1004 v t _ HD2.out (by omega)).mono ?_
  rintro e w3 ⟨m, rfl, rm, hd⟩
  have HD3 := Lib.hid hd
  have jm := inI_20001 rm
  clear hd HD2
  go_wp2_with fail
  go_ret3
  exact ⟨v, t, n, m, rfl, jn, jm, HD3.out.drawn hn HSM.out⟩
set_option maxRecDepth 20000 in
set_option maxHeartbeats 2000000 in
theorem drawGive_any (a : Option Addr) (len cap : Nat) (zs : List Int) (w : World) (h : IsRow .u8 w a len cap zs) (hl : len ≤ 1099511627776) :
    Calls Try.prog 107 #[.slice a len cap] w (ClerksDrawn2 w) := by
  have HC := Lib.hid (cur_new h hl 83)
  clear h
  go_enter Try.func107, Try.ntmps107
  go_wp2_with fail
  refine (clerks_any w.heap.size 0 _ HC.out (by omega)).mono ?_
  rintro e w1 ⟨v, t, rfl, hn, hsm, hd⟩
  have HSM := Lib.hid hsm
  clear hsm
  have HD := Lib.hid hd
  clear hd HC
  go_wp2_with fail
  refine (clerkId_any w.heap.size 1000 v t _ _ HD.out.cur HD.out.out (by omega) (by omega)).mono ?_
  rintro e w2 ⟨n, rfl, jn, hc, hg⟩
  have HD2 := Lib.hid (HD.out.step hc hg)
  clear hc hg HD
  have HN := Lib.hid (new_nums w2 [1, 2, 4, 8, 3, 0] 3 _ rfl)
  have hlc := HD2.out.cur.lt
  go_wp2_with fail
  refine (pick_any w.heap.size 1004 24 _ (HD2.out.al (.cells (([1, 2, 4, 8, 3, 0] : List Int).map (Value.int .i64)).toArray 3)).cur (by omega) (by omega) (by omega)).mono ?_
  rintro e w3 ⟨r, rfl, hr0, hr1, hc, hg⟩
  have HD3 := Lib.hid ((HD2.out.al (.cells (([1, 2, 4, 8, 3, 0] : List Int).map (Value.int .i64)).toArray 3)).step hc hg)
  obtain ⟨R, rfl⟩ := Int.eq_ofNat_of_zero_le hr0
  have HCC : Hid (∀ i (hi : i < ([1, 2, 4, 8, 3, 0] : List Int).length), w3.cell? ⟨w2.heap.size, 0 + i, none⟩ = some (.int .i64 ([1, 2, 4, 8, 3, 0] : List Int)[i])) := Lib.hid (fun i hi => hg.cell (HN.out i hi) (by simp; omega))
  obtain ⟨q, hq⟩ : ∃ q, R / 11 = q := ⟨_, rfl⟩
  have hq2 : q ≤ 2 := by omega
  have hd : Int.tdiv (R : Int) 11 = (q : Int) := by rw [← hq]; exact quo_natC R 11
  have hw1 : IntKind.i64.wrap (q : Int) = (q : Int) := Go.IntWalk.i64_in _ (by omega)
  have hw2 : IntKind.i64.wrap (4 + (q : Int)) = 4 + (q : Int) := Go.IntWalk.i64_in _ (by omega)
  have hw3 : (0 : Int) ≤ 4 + (q : Int) := by omega
  have hw4 : 4 + (q : Int) ≤ 6 := by omega
  have hw5 : (4 + (q : Int)).toNat = 4 + q := by omega
  clear hc hg hq hr0 hr1 HD2 HN
  go_wp2_with fail
  refine (amongCutC_any w.heap.size 1006 w2.heap.size 6 6 (4 + q) [1, 2, 4, 8, 3, 0] _ HD3.out.cur (by omega) (by simp; omega) (by omega) (by omega) (by omega) HCC.out).mono ?_
  rintro e w4 ⟨m, rfl, mm, hc, hg⟩
  have HD4 := Lib.hid (HD3.out.step hc hg)
  have rm : 0 ≤ m ∧ m ≤ 8 := by simp at mm; omega
  have jm : inI m := inI_smallC mm (by decide)
  clear hc hg mm HD3
  go_wp2_with fail
  go_ret3
  exact ⟨v, t, n, m, rfl, jn, jm, HD4.out.drawn hn HSM.out⟩
set_option maxRecDepth 20000 in
set_option maxHeartbeats 2000000 in
theorem drawTake_any (a : Option Addr) (len cap : Nat) (zs : List Int) (w : World) (h : IsRow .u8 w a len cap zs) (hl : len ≤ 1099511627776) :
    Calls Try.prog 51 #[.slice a len cap] w (ClerksDrawn2 w) := by
  have H := Lib.hid h
  clear h
  go_enter Try.func51, Try.ntmps51
  go_wp2_with (first | (go_at_call 107; refine (drawGive_any a len cap zs _ H.out hl).mono ?_; rintro e w1 ⟨v, t, n, m, rfl, jn, jm, ht⟩))
  go_ret3
  exact ⟨v, t, n, m, rfl, jn, jm, ht⟩
set_option maxRecDepth 20000 in
set_option maxHeartbeats 2000000 in
theorem drawDaysWithout_any (a : Option Addr) (len cap : Nat) (zs : List Int) (w : World) (h : IsRow .u8 w a len cap zs) (hl : len ≤ 1099511627776) :
    Calls Try.prog 57 #[.slice a len cap] w (ClerksDrawn3 w) := by
  have HC := Lib.hid (cur_new h hl 83)
  clear h
  go_enter Try.func57, Try.ntmps57
  go_wp2_with fail
  refine (clerks_any w.heap.size 0 _ HC.out (by omega)).mono ?_
  rintro e w1 ⟨v, t, rfl, hn, hsm, hd⟩
  have HSM := Lib.hid hsm
  clear hsm
  have HD := Lib.hid hd
  clear hd HC
  go_wp2_with fail
  refine (day11_any _ w.heap.size 1000 v t _ HD.out (by omega)).mono ?_
  rintro e w2 ⟨m, rfl, rm, hd⟩
  have HD2 := Lib.hid hd
  have jm := inI_20001 rm
  clear hd HD
  go_wp2_with fail
  refine (rights11_any _ w.heap.size 1004 v t _ HD2.out (by omega)).mono ?_
  rintro e w3 ⟨n, rfl, rn, hd⟩
  have HD3 := Lib.hid hd
  have jn := inI_20001 rn
  clear hd HD2
  have HN := Lib.hid (new_nums w3 [0, 5, 60, 200, -1, 201] 3 _ rfl)
  have hlc := HD3.out.cur.lt
  go_wp2_with fail
  refine (pick_any w.heap.size 1008 24 _ (HD3.out.al (.cells (([0, 5, 60, 200, -1, 201] : List Int).map (Value.int .i64)).toArray 3)).cur (by omega) (by omega) (by omega)).mono ?_
  rintro e w4 ⟨r, rfl, hr0, hr1, hc, hg⟩
  have HD4 := Lib.hid ((HD3.out.al (.cells (([0, 5, 60, 200, -1, 201] : List Int).map (Value.int .i64)).toArray 3)).step hc hg)
  obtain ⟨R, rfl⟩ := Int.eq_ofNat_of_zero_le hr0
  have HCC : Hid (∀ i (hi : i < ([0, 5, 60, 200, -1, 201] : List Int).length), w4.cell? ⟨w3.heap.size, 0 + i, none⟩ = some (.int .i64 ([0, 5, 60, 200, -1, 201] : List Int)[i])) := Lib.hid (fun i hi => hg.cell (HN.out i hi) (by simp; omega))
  obtain ⟨q, hq⟩ : ∃ q, R / 11 = q := ⟨_, rfl⟩
  have hq2 : q ≤ 2 := by omega
  have hd : Int.tdiv (R : Int) 11 = (q : Int) := by rw [← hq]; exact quo_natC R 11
  have hw1 : IntKind.i64.wrap (q : Int) = (q : Int) := Go.IntWalk.i64_in _ (by omega)
  have hw2 : IntKind.i64.wrap (4 + (q : Int)) = 4 + (q : Int) := Go.IntWalk.i64_in _ (by omega)
  have hw3 : (0 : Int) ≤ 4 + (q : Int) := by omega
  have hw4 : 4 + (q : Int) ≤ 6 := by omega
  have hw5 : (4 + (q : Int)).toNat = 4 + q := by omega
  clear hc hg hq hr0 hr1 HD3 HN
  go_wp2_with fail
  refine (amongCutC_any w.heap.size 1010 w3.heap.size 6 6 (4 + q) [0, 5, 60, 200, -1, 201] _ HD4.out.cur (by omega) (by simp; omega) (by omega) (by omega) (by omega) HCC.out).mono ?_
  rintro e w5 ⟨x, rfl, mx, hc, hg⟩
  have HD5 := Lib.hid (HD4.out.step hc hg)
  have rx : -1 ≤ x ∧ x ≤ 201 := by simp at mx; omega
  have jx : inI x := inI_smallC mx (by decide)
  clear hc hg mx HD4
  have hwx : IntKind.i64.wrap (m + x) = m + x := Go.IntWalk.i64_in _ (by omega)
  obtain ⟨s, hs⟩ : ∃ s, m + x = s := ⟨_, rfl⟩
  have js : inI s := by unfold inI; omega
  have HSX := Lib.hid hs
  rw [hs] at hwx
  clear hs
  go_wp2_with fail
  refine bodyPost_ret (v := .tuple #[v, .int .i64 n, .int .i64 m, .int .i64 s]) (by rw [← HSX.out]; simp [results, Try.results57, go_sem]) rfl ?_
  exact ⟨v, t, n, m, s, rfl, jn, jm, js, HD5.out.drawn hn HSM.out⟩
set_option maxRecDepth 20000 in
set_option maxHeartbeats 2000000 in
theorem drawStandFor_any (a : Option Addr) (len cap : Nat) (zs : List Int) (w : World) (h : IsRow .u8 w a len cap zs) (hl : len ≤ 1099511627776) :
    Calls Try.prog 60 #[.slice a len cap] w (ClerksDrawn2 w) := by
  have HC := Lib.hid (cur_new h hl 83)
  clear h
  go_enter Try.func60, Try.ntmps60
  go_wp2_with fail
  refine (clerks_any w.heap.size 0 _ HC.out (by omega)).mono ?_
  rintro e w1 ⟨v, t, rfl, hn, hsm, hd⟩
  have HSM := Lib.hid hsm
  clear hsm
  have HD := Lib.hid hd
  clear hd HC
  go_wp2_with fail
  refine (clerkId_any w.heap.size 1000 v t _ _ HD.out.cur HD.out.out (by omega) (by omega)).mono ?_
  rintro e w2 ⟨n, rfl, jn, hc, hg⟩
  have HD2 := Lib.hid (HD.out.step hc hg)
  clear hc hg HD
  go_wp2_with fail
  refine (one_any w.heap.size 1004 4 _ HD2.out.cur (by omega) (by omega) (by omega)).mono ?_
  rintro e w3 ⟨b, rfl, hc, hg⟩
  have HD3 := Lib.hid (HD2.out.step hc hg)
  clear hc hg HD2
  cases b
  · go_wp2_with fail
    refine (clerkId_any w.heap.size 1006 v t _ _ HD3.out.cur HD3.out.out (by omega) (by omega)).mono ?_
    rintro e w4 ⟨m, rfl, jm, hc, hg⟩
    have HD4 := Lib.hid (HD3.out.step hc hg)
    clear hc hg HD3
    go_wp2_with fail
    go_ret3
    exact ⟨v, t, n, m, rfl, jn, jm, HD4.out.drawn hn HSM.out⟩
  · go_wp2_with fail
    go_ret3
    exact ⟨v, t, n, 0, rfl, jn, by simp [inI], HD3.out.drawn hn HSM.out⟩
def ClerkDraw (w : World) (e : Ending) (w' : World) : Prop := ∃ f : Ck, e = .returned (.agg #[.int .i64 f.id, .string f.name, .int .i64 f.rights, .int .i64 f.frm, .int .i64 f.til, .int .i64 f.stands]) ∧ f.ok ∧ Below w.heap.size w w'

set_option maxRecDepth 20000 in
set_option maxHeartbeats 2000000 in
theorem drawIsClerk_any (a : Option Addr) (len cap : Nat) (zs : List Int) (w : World) (h : IsRow .u8 w a len cap zs) (hl : len ≤ 1099511627776) :
    Calls Try.prog 63 #[.slice a len cap] w (ClerkDraw w) := by
  obtain ⟨W0, hW0⟩ : ∃ x, x = w.alloc (.cells #[.int .i64 0, .string ⟨#[]⟩, .int .i64 0, .int .i64 0, .int .i64 0, .int .i64 0] 65 (0, 0)) := ⟨_, rfl⟩
  have hs0 : W0.heap.size = w.heap.size + 1 := by rw [hW0]; simp
  have b0 : Below w.heap.size w W0 := by rw [hW0]; exact below_al (Below.refl _ _) _
  have z0 : ∀ j v, (#[.int .i64 0, .string ⟨#[]⟩, .int .i64 0, .int .i64 0, .int .i64 0, .int .i64 0] : Array Value)[j]? = some v → W0.cell? ⟨w.heap.size, j, none⟩ = some v := fun j v hj => by rw [hW0]; exact cell_new w _ _ j hj
  have z3 : ∀ j, W0.frozen? ⟨w.heap.size, j, none⟩ = false := by intro j; rw [hW0]; simp [World.frozen?_alloc_mark]
  have Z : Hid (∀ W, Below W0.heap.size W0 W → (∀ j v, (#[.int .i64 0, .string ⟨#[]⟩, .int .i64 0, .int .i64 0, .int .i64 0, .int .i64 0] : Array Value)[j]? = some v → W.cell? ⟨w.heap.size, j, none⟩ = some v) ∧ ∀ j, W.frozen? ⟨w.heap.size, j, none⟩ = false) := Lib.hid fun W hW =>
    ⟨fun j v hj => cell_kept (z0 j v hj) hW, fun j => (hW.frozen (p := ⟨w.heap.size, j, none⟩) (by show w.heap.size < W0.heap.size; omega)).trans (z3 j)⟩
  have hc0 := cur_new (isRow_afterC h b0) hl 83
  obtain ⟨W1, hW1⟩ : ∃ x, x = W0.alloc (.cells #[.slice a len cap, .int .i64 0, .int .u64 0] 83 (0, 0)) := ⟨_, rfl⟩
  have b1 : Below W0.heap.size W0 W1 := by rw [hW1]; exact below_al (Below.refl _ _) _
  have hc1 : Cur W1 W0.heap.size 0 := by rw [hW1]; exact hc0
  have HC := Lib.hid hc1
  have HW0 := Lib.hid hW0
  have HW1 := Lib.hid hW1
  have HS0 := Lib.hid hs0
  have HB0 := Lib.hid b0
  have HB1 := Lib.hid b1
  clear h z0 z3 hs0 b0 hW0 hc0 hW1 b1 hc1
  go_enter Try.func63, Try.ntmps63
  go_upto_region 2 with fail
  try rw [← HW0.out]
  try rw [← HS0.out]
  try rw [← HW1.out]
  go_wp2_with fail
  refine (amongZ_any W0.heap.size 0 W1.heap.size 0 3 3 [1, 42, 99] _ (HC.out.later (Below.alloc (Below.refl (W0.heap.size + 1) W1) HC.out.lt (.cells (([1, 42, 99] : List Int).map (Value.int .i64)).toArray 3))) (by omega) rfl (by omega) (by omega) (by have := HC.out.lt; omega) (new_nums W1 [1, 42, 99] 3 _ rfl)).mono ?_
  rintro e w2 ⟨id, rfl, mid, hc2, hg2⟩
  have hid : inI id := inI_smallC mid (by decide)
  have HC2 := Lib.hid hc2
  have HB2 : Hid (Below W0.heap.size W0 w2) := Lib.hid ((HB1.out.alloc (by have := HB1.out.size; omega) _).trans (below_of_cur hg2 (by have := HC.out.lt; simp; omega)))
  clear hc2 hg2 mid HC
  go_wp2_with fail
  refine (clerk_any W0.heap.size 2 id _ HC2.out (by omega) hid).mono ?_
  rintro e w3 ⟨⟨x0, x1, x2, x3, x4, x5⟩, rfl, hok, hc3, hg3⟩
  have HB3 : Hid (Below W0.heap.size W0 w3) := Lib.hid (HB2.out.trans (below_of_cur hg3 (by have := HC2.out.lt; omega)))
  have HOK := Lib.hid hok
  obtain ⟨zz, zf⟩ := Z.out w3 HB3.out
  have r0 := zz 0 _ rfl
  have r1 := zz 1 _ rfl
  have r2 := zz 2 _ rfl
  have r3 := zz 3 _ rfl
  have r4 := zz 4 _ rfl
  have r5 := zz 5 _ rfl
  have t0 := zf 0
  have t1 := zf 1
  have t2 := zf 2
  have t3 := zf 3
  have t4 := zf 4
  have t5 := zf 5
  simp only
  clear hc3 hg3 hok zz zf Z
  go_wp2_with fail
  refine bodyPost_ret (v := .agg #[.int .i64 x0, .string x1, .int .i64 x2, .int .i64 x3, .int .i64 x4, .int .i64 x5]) (by simp [results, Try.results63, go_sem, r0, r1, r2, r3, r4, r5]) rfl ?_
  refine ⟨⟨x0, x1, x2, x3, x4, x5⟩, rfl, HOK.out, ?_⟩
  exact ((((((HB0.out.trans (HB3.out.mono HB0.out.size)).setCell (p := ⟨w.heap.size, 0, none⟩) (Nat.le_refl _) _).setCell (p := ⟨w.heap.size, 1, none⟩) (Nat.le_refl _) _).setCell (p := ⟨w.heap.size, 2, none⟩) (Nat.le_refl _) _).setCell (p := ⟨w.heap.size, 3, none⟩) (Nat.le_refl _) _).setCell (p := ⟨w.heap.size, 4, none⟩) (Nat.le_refl _) _).setCell (p := ⟨w.heap.size, 5, none⟩) (Nat.le_refl _) _
end Go.Proofs.Ytalaegkfkjpmoaa
