/- The draws of files, and of what is asked of them: each function's. -/
import Derived.Test.YtpbjddiopfkgbaaDoorDrawFi
namespace Go.Proofs.YtpbjddiopfkgbaaDoor
set_option linter.unusedVariables false
open Go.RowKit

/-- Files that are drawn. -/
def FilesIs (w w' : World) (v : Value) (t : List Fi) : Prop := t.length ≤ 12 ∧ (∃ ad c, v = .slice (some ad) t.length c) ∧ FisO w.heap.size w'.heap.size w' v t ∧ Below w.heap.size w w'
theorem DrF.drawn {w w1 : World} {ob : Obj} {K : Nat} {v : Value} {t : List Fi} (h : DrF (w.alloc ob) w1 w.heap.size K v t) (hl : t.length ≤ 12) (hsm : ∃ ad c, v = .slice (some ad) t.length c) : FilesIs w w1 v t :=
  ⟨hl, hsm, h.out.wide (Nat.le_succ _) (Nat.le_refl _), ((Below.refl w.heap.size w).alloc (Nat.le_refl _) ob).trans (below_of_cur h.gr (by simp))⟩
theorem isRow_afterF {k : IntKind} {w w' : World} {a : Option Addr} {len cap : Nat} {zs : List Int} (h : IsRow k w a len cap zs) (hb : Below w.heap.size w w') : IsRow k w' a len cap zs := by
  refine h.imp id ?_
  rintro ⟨x, rfl, hl, hm, hz, hc, hw⟩
  refine ⟨x, rfl, hl, hm, hz, fun i hi => ?_, hw⟩
  have := hc i hi
  exact (hb.cell (World.block_lt_of_cell? w _ this)).trans this
def FilesDrawn (w : World) (e : Ending) (w' : World) : Prop := ∃ v t, e = .returned v ∧ FilesIs w w' v t
def FilesIdDrawn (w : World) (e : Ending) (w' : World) : Prop := ∃ v t n, e = .returned (.tuple #[v, .int .i64 n]) ∧ inI n ∧ FilesIs w w' v t
def FilesTwoDrawn (w : World) (e : Ending) (w' : World) : Prop := ∃ v t n m, e = .returned (.tuple #[v, .int .i64 n, .int .i64 m]) ∧ inI n ∧ inI m ∧ FilesIs w w' v t
def FilesBoolDrawn (w : World) (e : Ending) (w' : World) : Prop := ∃ v t n b, e = .returned (.tuple #[v, .int .i64 n, .bool b]) ∧ inI n ∧ FilesIs w w' v t
def FilesSplitDrawn (w : World) (e : Ending) (w' : World) : Prop := ∃ v t n m s, e = .returned (.tuple #[v, .int .i64 n, .int .i64 m, .string s]) ∧ inI n ∧ inI m ∧ s.size ≤ 11 ∧ FilesIs w w' v t
def moList : List ByteArray := [⟨#[109, 111, 114, 101]⟩, ⟨#[114, 101, 115, 116]⟩, ⟨#[98, 117, 100, 103, 101, 116]⟩, ⟨#[]⟩, ⟨#[65]⟩]
theorem mo_short {s : ByteArray} (h : s ∈ moList) : s.size ≤ 11 := by
  have : ∀ x ∈ moList, x.size ≤ 11 := by decide
  exact this s h
theorem inI_small {r : Int} {xs : List Int} (h : r ∈ xs) (hx : ∀ x ∈ xs, -100000 ≤ x ∧ x ≤ 100000) : inI r := by have := hx r h; unfold inI; omega
set_option maxRecDepth 20000 in
set_option maxHeartbeats 2000000 in
theorem drawAreFiles_any (a : Option Addr) (len cap : Nat) (zs : List Int) (w : World) (h : IsRow .u8 w a len cap zs) (hl : len ≤ 1099511627776) :
    Calls Tryd.prog 75 #[.slice a len cap] w (FilesDrawn w) := by
  have HC := Lib.hid (cur_new h hl 67)
  clear h
  go_enter Tryd.func75, Tryd.ntmps75
  go_wp2_with fail
  refine (files5_any w.heap.size 0 _ HC.out (by omega)).mono ?_
  rintro e w1 ⟨v, t, rfl, hn, hsm, hd⟩
  have HSM := Lib.hid hsm
  clear hsm
  have HD := Lib.hid hd
  clear hd HC
  go_wp2_with fail
  go_ret
  exact ⟨v, t, rfl, HD.out.drawn hn HSM.out⟩
set_option maxRecDepth 20000 in
set_option maxHeartbeats 2000000 in
theorem drawSeries_any (a : Option Addr) (len cap : Nat) (zs : List Int) (w : World) (h : IsRow .u8 w a len cap zs) (hl : len ≤ 1099511627776) :
    Calls Tryd.prog 40 #[.slice a len cap] w (FilesDrawn w) := by
  have H := Lib.hid h
  clear h
  go_enter Tryd.func40, Tryd.ntmps40
  go_wp2_with (first | (go_at_call 75; refine (drawAreFiles_any a len cap zs _ H.out hl).mono ?_; rintro e w1 ⟨v, t, rfl, ht⟩))
  go_ret
  exact ⟨v, t, rfl, ht⟩
set_option maxRecDepth 20000 in
set_option maxHeartbeats 2000000 in
theorem drawReopen_any (a : Option Addr) (len cap : Nat) (zs : List Int) (w : World) (h : IsRow .u8 w a len cap zs) (hl : len ≤ 1099511627776) :
    Calls Tryd.prog 21 #[.slice a len cap] w (FilesIdDrawn w) := by
  have HC := Lib.hid (cur_new h hl 67)
  clear h
  go_enter Tryd.func21, Tryd.ntmps21
  go_wp2_with fail
  refine (files5_any w.heap.size 0 _ HC.out (by omega)).mono ?_
  rintro e w1 ⟨v, t, rfl, hn, hsm, hd⟩
  have HSM := Lib.hid hsm
  clear hsm
  have HD := Lib.hid hd
  clear hd HC
  go_wp2_with fail
  refine (fileId_any _ w.heap.size 1000 v t 1 _ HD.out hn (by omega)).mono ?_
  rintro e w2 ⟨n, rfl, jn, hd⟩
  have HD2 := Lib.hid hd
  clear hd HD
  go_wp2_with fail
  go_ret2
  exact ⟨v, t, n, rfl, jn, HD2.out.drawn hn HSM.out⟩
set_option maxRecDepth 20000 in
set_option maxHeartbeats 2000000 in
theorem drawClose_any (a : Option Addr) (len cap : Nat) (zs : List Int) (w : World) (h : IsRow .u8 w a len cap zs) (hl : len ≤ 1099511627776) :
    Calls Tryd.prog 11 #[.slice a len cap] w (FilesTwoDrawn w) := by
  have HC := Lib.hid (cur_new h hl 67)
  clear h
  go_enter Tryd.func11, Tryd.ntmps11
  go_wp2_with fail
  refine (files5_any w.heap.size 0 _ HC.out (by omega)).mono ?_
  rintro e w1 ⟨v, t, rfl, hn, hsm, hd⟩
  have HSM := Lib.hid hsm
  clear hsm
  have HD := Lib.hid hd
  clear hd HC
  go_wp2_with fail
  refine (fileId_any _ w.heap.size 1000 v t 0 _ HD.out hn (by omega)).mono ?_
  rintro e w2 ⟨n, rfl, jn, hd⟩
  have HD2 := Lib.hid hd
  clear hd HD
  go_wp2_with fail
  refine (day5_any _ w.heap.size 1030 v t _ HD2.out (by omega)).mono ?_
  rintro e w3 ⟨m, rfl, im, hd⟩
  have HD3 := Lib.hid hd
  clear hd HD2
  go_wp2_with fail
  go_ret3
  exact ⟨v, t, n, m, rfl, jn, im, HD3.out.drawn hn HSM.out⟩
set_option maxRecDepth 20000 in
set_option maxHeartbeats 2000000 in
theorem drawDays_any (a : Option Addr) (len cap : Nat) (zs : List Int) (w : World) (h : IsRow .u8 w a len cap zs) (hl : len ≤ 1099511627776) :
    Calls Tryd.prog 23 #[.slice a len cap] w (FilesTwoDrawn w) := by
  have HC := Lib.hid (cur_new h hl 67)
  clear h
  go_enter Tryd.func23, Tryd.ntmps23
  go_wp2_with fail
  refine (files5_any w.heap.size 0 _ HC.out (by omega)).mono ?_
  rintro e w1 ⟨v, t, rfl, hn, hsm, hd⟩
  have HSM := Lib.hid hsm
  clear hsm
  have HD := Lib.hid hd
  clear hd HC
  go_wp2_with fail
  refine (pick_any w.heap.size 1000 3 _ HD.out.cur (by omega) (by omega) (by omega)).mono ?_
  rintro e w2 ⟨s, rfl, hs0, hs1, hc, hg⟩
  have HD2 := Lib.hid (HD.out.step hc hg)
  clear hc hg HD
  go_wp2_with fail
  refine (fileId_any _ w.heap.size 1002 v t s _ HD2.out hn (by omega)).mono ?_
  rintro e w3 ⟨n, rfl, jn, hd⟩
  have HD3 := Lib.hid hd
  clear hd HD2
  go_wp2_with fail
  refine (day5_any _ w.heap.size 1032 v t _ HD3.out (by omega)).mono ?_
  rintro e w4 ⟨m, rfl, im, hd⟩
  have HD4 := Lib.hid hd
  clear hd HD3
  go_wp2_with fail
  go_ret3
  exact ⟨v, t, n, m, rfl, jn, im, HD4.out.drawn hn HSM.out⟩
set_option maxRecDepth 20000 in
set_option maxHeartbeats 2000000 in
theorem drawLend_any (a : Option Addr) (len cap : Nat) (zs : List Int) (w : World) (h : IsRow .u8 w a len cap zs) (hl : len ≤ 1099511627776) :
    Calls Tryd.prog 18 #[.slice a len cap] w (FilesBoolDrawn w) := by
  have HC := Lib.hid (cur_new h hl 67)
  clear h
  go_enter Tryd.func18, Tryd.ntmps18
  go_wp2_with fail
  refine (files5_any w.heap.size 0 _ HC.out (by omega)).mono ?_
  rintro e w1 ⟨v, t, rfl, hn, hsm, hd⟩
  have HSM := Lib.hid hsm
  clear hsm
  have HD := Lib.hid hd
  clear hd HC
  go_wp2_with fail
  refine (one_any w.heap.size 1000 2 _ HD.out.cur (by omega) (by omega) (by omega)).mono ?_
  rintro e w2 ⟨b, rfl, hc, hg⟩
  have HD2 := Lib.hid (HD.out.step hc hg)
  clear hc hg HD
  cases b
  · go_wp2_with fail
    refine (fileId_any _ w.heap.size 1002 v t 1 _ HD2.out hn (by omega)).mono ?_
    rintro e w3 ⟨n, rfl, jn, hd⟩
    have HD3 := Lib.hid hd
    clear hd HD2
    go_wp2_with fail
    go_ret3
    exact ⟨v, t, n, false, rfl, jn, HD3.out.drawn hn HSM.out⟩
  · go_wp2_with fail
    refine (fileId_any _ w.heap.size 1002 v t 2 _ HD2.out hn (by omega)).mono ?_
    rintro e w3 ⟨n, rfl, jn, hd⟩
    have HD3 := Lib.hid hd
    clear hd HD2
    go_wp2_with fail
    go_ret3
    exact ⟨v, t, n, true, rfl, jn, HD3.out.drawn hn HSM.out⟩
set_option maxRecDepth 20000 in
set_option maxHeartbeats 2000000 in
theorem drawPages_any (a : Option Addr) (len cap : Nat) (zs : List Int) (w : World) (h : IsRow .u8 w a len cap zs) (hl : len ≤ 1099511627776) :
    Calls Tryd.prog 37 #[.slice a len cap] w (FilesTwoDrawn w) := by
  have HC := Lib.hid (cur_new h hl 67)
  clear h
  go_enter Tryd.func37, Tryd.ntmps37
  go_wp2_with fail
  refine (files5_any w.heap.size 0 _ HC.out (by omega)).mono ?_
  rintro e w1 ⟨v, t, rfl, hn, hsm, hd⟩
  have HSM := Lib.hid hsm
  clear hsm
  have HD := Lib.hid hd
  clear hd HC
  go_wp2_with fail
  refine (fileId_any _ w.heap.size 1000 v t 0 _ HD.out hn (by omega)).mono ?_
  rintro e w2 ⟨n, rfl, jn, hd⟩
  have HD2 := Lib.hid hd
  clear hd HD
  have HN := Lib.hid (new_nums w2 [1, 100, 101, 500, 0, 501] 3 _ rfl)
  have hlc := HD2.out.cur.lt
  go_wp2_with fail
  refine (pick_any w.heap.size 1030 24 _ (HD2.out.al (.cells (([1, 100, 101, 500, 0, 501] : List Int).map (Value.int .i64)).toArray 3)).cur (by omega) (by omega) (by omega)).mono ?_
  rintro e w3 ⟨r, rfl, hr0, hr1, hc, hg⟩
  have HD3 := Lib.hid ((HD2.out.al (.cells (([1, 100, 101, 500, 0, 501] : List Int).map (Value.int .i64)).toArray 3)).step hc hg)
  obtain ⟨R, rfl⟩ := Int.eq_ofNat_of_zero_le hr0
  have HCC : Hid (∀ i (hi : i < ([1, 100, 101, 500, 0, 501] : List Int).length), w3.cell? ⟨w2.heap.size, 0 + i, none⟩ = some (.int .i64 ([1, 100, 101, 500, 0, 501] : List Int)[i])) := Lib.hid (fun i hi => hg.cell (HN.out i hi) (by simp; omega))
  obtain ⟨q, hq⟩ : ∃ q, R / 11 = q := ⟨_, rfl⟩
  have hq2 : q ≤ 2 := by omega
  have hd : Int.tdiv (R : Int) 11 = (q : Int) := by rw [← hq]; exact quo_nat R 11
  have hw1 : IntKind.i64.wrap (q : Int) = (q : Int) := Go.IntWalk.i64_in _ (by omega)
  have hw2 : IntKind.i64.wrap (4 + (q : Int)) = 4 + (q : Int) := Go.IntWalk.i64_in _ (by omega)
  have hw3 : (0 : Int) ≤ 4 + (q : Int) := by omega
  have hw4 : 4 + (q : Int) ≤ 6 := by omega
  have hw5 : (4 + (q : Int)).toNat = 4 + q := by omega
  clear hc hg hq hr0 hr1 HD2 HN
  go_wp2_with fail
  refine (amongCut_any w.heap.size 1032 w2.heap.size 6 6 (4 + q) [1, 100, 101, 500, 0, 501] _ HD3.out.cur (by omega) (by simp; omega) (by omega) (by omega) (by omega) HCC.out).mono ?_
  rintro e w4 ⟨m, rfl, mm, hc, hg⟩
  have HD4 := Lib.hid (HD3.out.step hc hg)
  have im : inI m := inI_small mm (by decide)
  clear hc hg mm HD3
  go_wp2_with fail
  go_ret3
  exact ⟨v, t, n, m, rfl, jn, im, HD4.out.drawn hn HSM.out⟩
set_option maxRecDepth 20000 in
set_option maxHeartbeats 2000000 in
theorem drawSince_any (a : Option Addr) (len cap : Nat) (zs : List Int) (w : World) (h : IsRow .u8 w a len cap zs) (hl : len ≤ 1099511627776) :
    Calls Tryd.prog 34 #[.slice a len cap] w (FilesTwoDrawn w) := by
  have HC := Lib.hid (cur_new h hl 67)
  clear h
  go_enter Tryd.func34, Tryd.ntmps34
  go_wp2_with fail
  refine (files5_any w.heap.size 0 _ HC.out (by omega)).mono ?_
  rintro e w1 ⟨v, t, rfl, hn, hsm, hd⟩
  have HSM := Lib.hid hsm
  clear hsm
  have HD := Lib.hid hd
  clear hd HC
  go_wp2_with fail
  refine (among_any w.heap.size 1000 w1.heap.size 0 6 6 [0, 0, 10, 11, 20000, -1] _ (HD.out.al (.cells (([0, 0, 10, 11, 20000, -1] : List Int).map (Value.int .i64)).toArray 3)).cur (by omega) rfl (by omega) (by omega) (by have := HD.out.cur.lt; omega) (new_nums w1 [0, 0, 10, 11, 20000, -1] 3 _ rfl)).mono ?_
  rintro e w2 ⟨n, rfl, mn, hc, hg⟩
  have HD2 := Lib.hid ((HD.out.al (.cells (([0, 0, 10, 11, 20000, -1] : List Int).map (Value.int .i64)).toArray 3)).step hc hg)
  have jn : inI n := inI_small mn (by decide)
  clear hc hg mn HD
  have HN := Lib.hid (new_nums w2 [15, 20000, 20000, 20000, 410, 20001] 3 _ rfl)
  have hlc := HD2.out.cur.lt
  go_wp2_with fail
  refine (pick_any w.heap.size 1002 24 _ (HD2.out.al (.cells (([15, 20000, 20000, 20000, 410, 20001] : List Int).map (Value.int .i64)).toArray 3)).cur (by omega) (by omega) (by omega)).mono ?_
  rintro e w3 ⟨r, rfl, hr0, hr1, hc, hg⟩
  have HD3 := Lib.hid ((HD2.out.al (.cells (([15, 20000, 20000, 20000, 410, 20001] : List Int).map (Value.int .i64)).toArray 3)).step hc hg)
  obtain ⟨R, rfl⟩ := Int.eq_ofNat_of_zero_le hr0
  have HCC : Hid (∀ i (hi : i < ([15, 20000, 20000, 20000, 410, 20001] : List Int).length), w3.cell? ⟨w2.heap.size, 0 + i, none⟩ = some (.int .i64 ([15, 20000, 20000, 20000, 410, 20001] : List Int)[i])) := Lib.hid (fun i hi => hg.cell (HN.out i hi) (by simp; omega))
  obtain ⟨q, hq⟩ : ∃ q, R / 23 = q := ⟨_, rfl⟩
  have hq2 : q ≤ 1 := by omega
  have hd : Int.tdiv (R : Int) 23 = (q : Int) := by rw [← hq]; exact quo_nat R 23
  have hw1 : IntKind.i64.wrap (q : Int) = (q : Int) := Go.IntWalk.i64_in _ (by omega)
  have hw2 : IntKind.i64.wrap (5 + (q : Int)) = 5 + (q : Int) := Go.IntWalk.i64_in _ (by omega)
  have hw3 : (0 : Int) ≤ 5 + (q : Int) := by omega
  have hw4 : 5 + (q : Int) ≤ 6 := by omega
  have hw5 : (5 + (q : Int)).toNat = 5 + q := by omega
  clear hc hg hq hr0 hr1 HD2 HN
  go_wp2_with fail
  refine (amongCut_any w.heap.size 1004 w2.heap.size 6 6 (5 + q) [15, 20000, 20000, 20000, 410, 20001] _ HD3.out.cur (by omega) (by simp; omega) (by omega) (by omega) (by omega) HCC.out).mono ?_
  rintro e w4 ⟨m, rfl, mm, hc, hg⟩
  have HD4 := Lib.hid (HD3.out.step hc hg)
  have im : inI m := inI_small mm (by decide)
  clear hc hg mm HD3
  go_wp2_with fail
  go_ret3
  exact ⟨v, t, n, m, rfl, jn, im, HD4.out.drawn hn HSM.out⟩
set_option maxRecDepth 20000 in
set_option maxHeartbeats 2000000 in
theorem drawSplit_any (a : Option Addr) (len cap : Nat) (zs : List Int) (w : World) (h : IsRow .u8 w a len cap zs) (hl : len ≤ 1099511627776) :
    Calls Tryd.prog 29 #[.slice a len cap] w (FilesSplitDrawn w) := by
  have HC := Lib.hid (cur_new h hl 67)
  clear h
  go_enter Tryd.func29, Tryd.ntmps29
  go_wp2_with fail
  refine (files5_any w.heap.size 0 _ HC.out (by omega)).mono ?_
  rintro e w1 ⟨v, t, rfl, hn, hsm, hd⟩
  have HSM := Lib.hid hsm
  clear hsm
  have HD := Lib.hid hd
  clear hd HC
  go_wp2_with fail
  refine (fileId_any _ w.heap.size 1000 v t 0 _ HD.out hn (by omega)).mono ?_
  rintro e w2 ⟨n, rfl, jn, hd⟩
  have HD2 := Lib.hid hd
  clear hd HD
  go_wp2_with fail
  refine (among_any w.heap.size 1030 w2.heap.size 0 5 5 [1, 2, 299, 4999, 0] _ (HD2.out.al (.cells (([1, 2, 299, 4999, 0] : List Int).map (Value.int .i64)).toArray 3)).cur (by omega) rfl (by omega) (by omega) (by have := HD2.out.cur.lt; omega) (new_nums w2 [1, 2, 299, 4999, 0] 3 _ rfl)).mono ?_
  rintro e w3 ⟨m, rfl, mm, hc, hg⟩
  have HD3 := Lib.hid ((HD2.out.al (.cells (([1, 2, 299, 4999, 0] : List Int).map (Value.int .i64)).toArray 3)).step hc hg)
  have im : inI m := inI_small mm (by decide)
  clear hc hg mm HD2
  go_wp2_with fail
  refine (of_any w.heap.size 1032 w3.heap.size 0 5 5 moList _ (HD3.out.al (.cells (moList.map Value.string).toArray 9)).cur (by omega) rfl (by omega) (by omega) (by have := HD3.out.cur.lt; omega) (new_cells w3 moList 9 _ rfl)).mono ?_
  rintro e w4 ⟨s, rfl, ms, hc, hg⟩
  have HD4 := Lib.hid ((HD3.out.al (.cells (moList.map Value.string).toArray 9)).step hc hg)
  have is := mo_short ms
  clear hc hg ms HD3
  go_wp2_with fail
  refine bodyPost_ret (v := .tuple #[v, .int .i64 n, .int .i64 m, .string s]) (by simp [results, Tryd.results29, go_sem]) rfl ?_
  exact ⟨v, t, n, m, s, rfl, jn, im, is, HD4.out.drawn hn HSM.out⟩
def FileDraw (w : World) (e : Ending) (w' : World) : Prop := ∃ f : Fi, e = .returned (.agg #[.int .i64 f.id, .int .i64 f.series, .string f.title, .int .i64 f.opened, .int .i64 f.closed, .int .i64 f.state, .int .i64 f.pages]) ∧ f.ok ∧ Below w.heap.size w w'
set_option maxRecDepth 20000 in
set_option maxHeartbeats 2000000 in
theorem drawIsFile_any (a : Option Addr) (len cap : Nat) (zs : List Int) (w : World) (h : IsRow .u8 w a len cap zs) (hl : len ≤ 1099511627776) :
    Calls Tryd.prog 26 #[.slice a len cap] w (FileDraw w) := by
  obtain ⟨W0, hW0⟩ : ∃ x, x = w.alloc (.cells #[.int .i64 0, .int .i64 0, .string ⟨#[]⟩, .int .i64 0, .int .i64 0, .int .i64 0, .int .i64 0] 43 (0, 0)) := ⟨_, rfl⟩
  have hs0 : W0.heap.size = w.heap.size + 1 := by rw [hW0]; simp
  have b0 : Below w.heap.size w W0 := by rw [hW0]; exact below_al (Below.refl _ _) _
  have z0 : ∀ j v, (#[.int .i64 0, .int .i64 0, .string ⟨#[]⟩, .int .i64 0, .int .i64 0, .int .i64 0, .int .i64 0] : Array Value)[j]? = some v → W0.cell? ⟨w.heap.size, j, none⟩ = some v := fun j v hj => by rw [hW0]; exact cell_new w _ _ j hj
  have z3 : ∀ j, W0.frozen? ⟨w.heap.size, j, none⟩ = false := by intro j; rw [hW0]; simp [World.frozen?_alloc_mark]
  have Z : Hid (∀ W, Below W0.heap.size W0 W → (∀ j v, (#[.int .i64 0, .int .i64 0, .string ⟨#[]⟩, .int .i64 0, .int .i64 0, .int .i64 0, .int .i64 0] : Array Value)[j]? = some v → W.cell? ⟨w.heap.size, j, none⟩ = some v) ∧ ∀ j, W.frozen? ⟨w.heap.size, j, none⟩ = false) := Lib.hid fun W hW =>
    ⟨fun j v hj => cell_kept (z0 j v hj) hW, fun j => (hW.frozen (p := ⟨w.heap.size, j, none⟩) (by show w.heap.size < W0.heap.size; omega)).trans (z3 j)⟩
  have hc0 := cur_new (isRow_afterF h b0) hl 67
  obtain ⟨W1, hW1⟩ : ∃ x, x = W0.alloc (.cells #[.slice a len cap, .int .i64 0, .int .u64 0] 67 (0, 0)) := ⟨_, rfl⟩
  have b1 : Below W0.heap.size W0 W1 := by rw [hW1]; exact below_al (Below.refl _ _) _
  have hc1 : Cur W1 W0.heap.size 0 := by rw [hW1]; exact hc0
  have HC := Lib.hid hc1
  have HW0 := Lib.hid hW0
  have HW1 := Lib.hid hW1
  have HS0 := Lib.hid hs0
  have HB0 := Lib.hid b0
  have HB1 := Lib.hid b1
  clear h z0 z3 hs0 b0 hW0 hc0 hW1 b1 hc1
  go_enter Tryd.func26, Tryd.ntmps26
  go_upto_region 2 with fail
  try rw [← HW0.out]
  try rw [← HS0.out]
  try rw [← HW1.out]
  go_wp2_with fail
  refine (among_any W0.heap.size 0 W1.heap.size 0 3 3 [1, 42, 999] _ (HC.out.later (Below.alloc (Below.refl (W0.heap.size + 1) W1) HC.out.lt (.cells (([1, 42, 999] : List Int).map (Value.int .i64)).toArray 3))) (by omega) rfl (by omega) (by omega) (by have := HC.out.lt; omega) (new_nums W1 [1, 42, 999] 3 _ rfl)).mono ?_
  rintro e w2 ⟨id, rfl, mid, hc2, hg2⟩
  have hid : inI id := inI_small mid (by decide)
  have HC2 := Lib.hid hc2
  have HB2 : Hid (Below W0.heap.size W0 w2) := Lib.hid ((HB1.out.alloc (by have := HB1.out.size; omega) _).trans (below_of_cur hg2 (by have := HC.out.lt; simp; omega)))
  clear hc2 hg2 mid HC
  go_wp2_with fail
  refine (file5_any W0.heap.size 2 id _ HC2.out (by omega) hid).mono ?_
  rintro e w3 ⟨⟨x0, x1, x2, x3, x4, x5, x6⟩, rfl, hok, hc3, hg3⟩
  have HB3 : Hid (Below W0.heap.size W0 w3) := Lib.hid (HB2.out.trans (below_of_cur hg3 (by have := HC2.out.lt; omega)))
  have HOK := Lib.hid hok
  obtain ⟨zz, zf⟩ := Z.out w3 HB3.out
  have r0 := zz 0 _ rfl
  have r1 := zz 1 _ rfl
  have r2 := zz 2 _ rfl
  have r3 := zz 3 _ rfl
  have r4 := zz 4 _ rfl
  have r5 := zz 5 _ rfl
  have r6 := zz 6 _ rfl
  have t0 := zf 0
  have t1 := zf 1
  have t2 := zf 2
  have t3 := zf 3
  have t4 := zf 4
  have t5 := zf 5
  have t6 := zf 6
  simp only
  clear hc3 hg3 hok zz zf Z
  go_wp2_with fail
  refine bodyPost_ret (v := .agg #[.int .i64 x0, .int .i64 x1, .string x2, .int .i64 x3, .int .i64 x4, .int .i64 x5, .int .i64 x6]) (by simp [results, Tryd.results26, go_sem, r0, r1, r2, r3, r4, r5, r6]) rfl ?_
  refine ⟨⟨x0, x1, x2, x3, x4, x5, x6⟩, rfl, HOK.out, ?_⟩
  exact (((((((HB0.out.trans (HB3.out.mono HB0.out.size)).setCell (p := ⟨w.heap.size, 0, none⟩) (Nat.le_refl _) _).setCell (p := ⟨w.heap.size, 1, none⟩) (Nat.le_refl _) _).setCell (p := ⟨w.heap.size, 2, none⟩) (Nat.le_refl _) _).setCell (p := ⟨w.heap.size, 3, none⟩) (Nat.le_refl _) _).setCell (p := ⟨w.heap.size, 4, none⟩) (Nat.le_refl _) _).setCell (p := ⟨w.heap.size, 5, none⟩) (Nat.le_refl _) _).setCell (p := ⟨w.heap.size, 6, none⟩) (Nat.le_refl _) _
end Go.Proofs.YtpbjddiopfkgbaaDoor
