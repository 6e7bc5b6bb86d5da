/- The draws of files, and of what is asked of them. -/
import Derived.Test.YtpbjddiopfkgbaaDoorFiles5
import Derived.Test.YtpbjddiopfkgbaaDoorInSer1
namespace Go.Proofs.YtpbjddiopfkgbaaDoor
set_option linter.unusedVariables false
open Go.RowKit

theorem DrF.app {w0 w w' : World} {B K lo : Nat} {v : Value} {t : List Fi} {ob : Obj} {row : Option Nat} (h : DrF w0 w B K v t) (hg : (w.alloc ob).grownBy w' row) (hrow : ∀ k, row = some k → lo ≤ k) (hv : ∀ g, v.ownBlock = some g → g < lo) (hB : B < lo) (hl0 : w0.heap.size ≤ lo) : DrF w0 w' B K v t := by
  have hs : w.heap.size ≤ w'.heap.size := by have := hg.size; simp at this; omega
  have hb : Below (B + 1) w w' := Below.grown (Below.alloc (Below.refl (B + 1) w) h.cur.lt ob) hg (by have := h.cur.lt; simp; omega) (fun k hk => by have := hrow k hk; omega)
  refine ⟨h.cur.later hb, ⟨⟨(World.ownsRow.alloc h.out.1.1 ob).kept hg ?_, h.out.1.2⟩, h.out.2.1, h.out.2.2.up hs⟩, ?_⟩
  · rcases hvv : v.ownBlock with _ | k
    · exact .inl rfl
    · exact .inr fun e => by have := hv k hvv; have := hrow k e.symm; omega
  · have h2 := grownBy_trans h.gr (World.grownBy_alloc w ob (some B))
    have hs2 := h2.size
    refine ⟨hg.os.trans h2.os, hg.tape.trans h2.tape, hg.output.trans h2.output, Nat.le_trans hs2 hg.size, fun k hk hr => ?_⟩
    exact (hg.block k (Nat.lt_of_lt_of_le hk hs2) (fun e => by have := hrow k e.symm; omega)).trans (h2.block k hk hr)
theorem DrF.le {w0 w : World} {B K K' : Nat} {v : Value} {t : List Fi} (h : DrF w0 w B K v t) (hk : K ≤ K') : DrF w0 w B K' v t := ⟨h.cur.le_K hk, h.out, h.gr⟩

def FidDrawn (w0 : World) (B K : Nat) (v : Value) (t : List Fi) (e : Ending) (w' : World) : Prop := ∃ n : Int, e = .returned (.int .i64 n) ∧ inI n ∧ DrF w0 w' B K v t
set_option maxRecDepth 20000 in
set_option maxHeartbeats 2000000 in
theorem fileId_any (w0 : World) (B K : Nat) (v : Value) (t : List Fi) (st : Int) (w : World) (h : DrF w0 w B K v t) (hn : t.length ≤ 12) (hK : K ≤ 100000) :
    Calls Tryd.prog 49 #[.pointer (some ⟨B, 0, none⟩), v, .int .i64 st] w (FidDrawn w0 B (K + 30) v t) := by
  obtain ⟨j0, hj, hy0, hy1, hy2⟩ := info_parts Tryd.info_intI
  have HD0 := Lib.hid (h.al (.cells #[] 3 (0, 0)))
  have hv0 : ∀ g, v.ownBlock = some g → g < w.heap.size := fun g hg => h.out.2.2 g hg
  have hg0 := h.gr.size
  have hlt := h.cur.lt
  have HV := Lib.hid hv0
  have hO0 : (w.alloc (.cells #[] 3 (0, 0))).ownsRow w.heap.size 3 1 (.slice (some ⟨w.heap.size, 0, none⟩) 0 0) 0 [] := World.ownsRow_made w #[] 0 (Nat.le_refl _) (Nat.zero_le _) rfl
  have HO0 := Lib.hid hO0
  obtain ⟨aV, cV, hv, hlV, hmV, _⟩ := h.out.row.fis
  subst hv
  unfold maxLen at hmV
  clear h hv0 hO0
  go_enter Tryd.func49, Tryd.ntmps49
  go_wp2_with fail
  go_loopw [7, 8] (fun o i wr => ∃ (k n : Nat) (xs : List Int), k ≤ t.length ∧ i = .int .i64 k ∧ xs.length = n ∧ n ≤ k ∧ Hid (∀ x ∈ xs, inI x) ∧ w.heap.size ≤ wr.heap.size ∧ Hid (wr.ownsRow w.heap.size 3 1 o n (xs.map vI)) ∧ Hid (DrF w0 wr B (K + 2 * k) (.slice aV t.length cV) t)) (fun _ i _ => t.length - (intOf i).toNat)
  case atStart => exact ⟨0, 0, [], Nat.zero_le _, rfl, rfl, Nat.le_refl _, Lib.hid (by simp), by simp, HO0, HD0⟩
  case round =>
    clear HO0 HD0
    obtain ⟨k, n, xs, hk, rfl, hxn, hnk, HI, hsz, HO, HD⟩ := hrel
    by_cases hkt : k < t.length
    · obtain ⟨a2, c2, e2, _, hm2, r2⟩ := HD.out.out.row.fis
      simp only [Value.slice.injEq] at e2
      obtain ⟨rfl, _, rfl⟩ := e2
      obtain ⟨bb, oo, _, had, e1⟩ := r2.resolve_left (fun e => by rw [e] at hkt; simp at hkt)
      subst had
      obtain ⟨q0, q1, q2, q3, q4, q5, q6, hok⟩ := e1 k hkt
      obtain ⟨⟨x0, x1, x2, x3, x4, x5, x6⟩, hx⟩ : ∃ s, t.getD k fiD = s := ⟨_, rfl⟩
      rw [hx] at q0 q5 hok
      simp only at q0 q5
      have hi0 : inI x0 := hok.1
      have HI0 := Lib.hid hi0
      have g0 : (0 : Int) ≤ (k : Int) := by omega
      have g1 : (k : Int) < (t.length : Int) := by omega
      have hkp : IntKind.i64.wrap ((k : Int) + 1) = (k : Int) + 1 := Go.IntWalk.i64_in _ (by omega)
      have Q0 := Lib.hid q0
      clear q1 q2 q3 q4 q6 hok e1 hx r2 hm2 hi0
      by_cases hs : x5 = st
      · have hq : (x5 == st) = true := by simp [hs]
        clear hs
        go_wp2_with (first | (at_builtin; refine wpList_append_own _ rfl _ _ 31 rfl w.heap.size 3 j0 (.int .i64 0) 1 8 Tryd.underlying31 hj hy0 hy1 hy2 rfl (by decide) u7 n (xs.map vI) rfl (HO.out.alloc _) ⟨wr.heap.size, 0, none⟩ 1 1 [.int .i64 x0] rfl rfl (cell_oneI _ _ _ (by simp)) (by simp [Value.oneCell']) (by unfold maxLen; omega) (by omega) (by simp; omega) ?_; intro v' w4 hown' hgrow _))
        have HON : Hid (w4.ownsRow w.heap.size 3 1 v' (n + 1) ((xs ++ [x0]).map vI)) := Lib.hid (by rw [List.map_append]; exact hown')
        have HDN := Lib.hid (HD.out.app hgrow (fun kk hk => (HO.out.lt kk hk).1) HV.out hlt hg0)
        have HIN : Hid (∀ x ∈ xs ++ [x0], inI x) := Lib.hid (fun x hx => (List.mem_append.1 hx).elim (HI.out x) (fun h => by rw [List.mem_singleton.1 h]; exact HI0.out))
        have hsN : w.heap.size ≤ w4.heap.size := by have := hgrow.size; simp at this; omega
        clear hown' hgrow
        go_wp2_with fail
        go_roundw
        case rel => exact ⟨k + 1, n + 1, xs ++ [x0], by omega, by go_num, by simp [hxn], by omega, HIN, hsN, HON, Lib.hid (HDN.out.le (by omega))⟩
        case measure => simp [intOf]; omega
      · have hq : (x5 == st) = false := by simp [hs]
        clear hs
        go_wp2_with fail
        refine (one_any B (K + 2 * k) 6 _ HD.out.cur (by omega) (by omega) (by omega)).mono ?_
        rintro e w2 ⟨r, rfl, hc2, hg2⟩
        have HE := Lib.hid (HD.out.step hc2 hg2)
        have HO2 : Hid (w2.ownsRow w.heap.size 3 1 u7 n (xs.map vI)) := Lib.hid (HO.out.kept hg2 (by
          rcases hv : Value.ownBlock _ with _ | kk
          · exact .inl rfl
          · exact .inr fun e => by have := (HO.out.lt kk hv).1; cases e; omega))
        have hsz2 : w.heap.size ≤ w2.heap.size := Nat.le_trans hsz hg2.size
        have q0w := hg2.cell q0 (by have := HD.out.out.1.ge bb rfl; simp; omega)
        clear hc2 hg2
        cases r
        · go_wp2_with fail
          go_roundw
          case rel => exact ⟨k + 1, n, xs, by omega, by go_num, hxn, by omega, HI, hsz2, HO2, Lib.hid (HE.out.le (by omega))⟩
          case measure => simp [intOf]; omega
        · go_wp2_with (first | (at_builtin; refine wpList_append_own _ rfl _ _ 31 rfl w.heap.size 3 j0 (.int .i64 0) 1 8 Tryd.underlying31 hj hy0 hy1 hy2 rfl (by decide) u7 n (xs.map vI) rfl (HO2.out.alloc _) ⟨w2.heap.size, 0, none⟩ 1 1 [.int .i64 x0] rfl rfl (cell_oneI _ _ _ (by simp)) (by simp [Value.oneCell']) (by unfold maxLen; omega) (by omega) (by simp; omega) ?_; intro v' w4 hown' hgrow _))
          have HON : Hid (w4.ownsRow w.heap.size 3 1 v' (n + 1) ((xs ++ [x0]).map vI)) := Lib.hid (by rw [List.map_append]; exact hown')
          have HDN := Lib.hid (HE.out.app hgrow (fun kk hk => (HO2.out.lt kk hk).1) HV.out hlt hg0)
          have HIN : Hid (∀ x ∈ xs ++ [x0], inI x) := Lib.hid (fun x hx => (List.mem_append.1 hx).elim (HI.out x) (fun h => by rw [List.mem_singleton.1 h]; exact HI0.out))
          have hsN : w.heap.size ≤ w4.heap.size := by have := hgrow.size; simp at this; omega
          clear hown' hgrow
          go_wp2_with fail
          go_roundw
          case rel => exact ⟨k + 1, n + 1, xs ++ [x0], by omega, by go_num, by simp [hxn], by omega, HIN, hsN, HON, Lib.hid (HDN.out.le (by omega))⟩
          case measure => simp [intOf]; omega
    · obtain rfl : k = t.length := by omega
      obtain ⟨aI, cI, eI, hlI, hmI, rI⟩ := RowOf.of_owns HO.out
      subst eI
      rw [hxn]
      unfold maxLen at hmI
      have RI := Lib.hid rI
      clear rI
      by_cases hz : n = 0
      · have hz1 : ((n : Int) == 0) = true := by simp [hz]
        have hz2 : decide ((n : Int) = 0) = true := decide_eq_true (by omega)
        have hz3 : decide (n = 0) = true := decide_eq_true hz
        have HZ := Lib.hid hz
        clear hz
        go_wp2_with fail
        refine (among_any B (K + 2 * t.length) wr.heap.size 0 4 4 [0, 1, 2, 500] _ (HD.out.al (.cells (([0, 1, 2, 500] : List Int).map (Value.int .i64)).toArray 3)).cur (by omega) rfl (by omega) (by omega) (by have := HD.out.cur.lt; omega) (new_nums wr [0, 1, 2, 500] 3 _ rfl)).mono ?_
        rintro e w3 ⟨r, rfl, mr, hc, hg⟩
        have HE := Lib.hid ((HD.out.al (.cells (([0, 1, 2, 500] : List Int).map (Value.int .i64)).toArray 3)).step hc hg)
        have ir : inI r := by simp at mr; unfold inI; omega
        clear hc hg mr
        go_wp2_with fail
        go_ret
        exact ⟨r, rfl, ir, HE.out.le (by omega)⟩
      · have hz1 : ((n : Int) == 0) = false := by simp [hz]
        have hz2 : decide ((n : Int) = 0) = false := decide_eq_false (by omega)
        have hz3 : decide (n = 0) = false := decide_eq_false hz
        have HZ := Lib.hid hz
        have hz4 : 1 ≤ n := by omega
        clear hz
        go_wp2_with fail
        refine (pick_any B (K + 2 * t.length) n _ HD.out.cur (by omega) (by omega) (by omega)).mono ?_
        rintro e w3 ⟨r, rfl, hr0, hr1, hc, hg⟩
        obtain ⟨j, rfl⟩ := Int.eq_ofNat_of_zero_le hr0
        have hj2 : j < xs.length := by omega
        obtain ⟨bI, oI, hbI, rfl, eI⟩ := RI.out.resolve_left (fun e => by rw [e] at hj2; simp at hj2)
        have q := eI j hj2
        have q3 := hg.cell q (by have := (HO.out.lt bI (by simp [Value.ownBlock])).1; simp; omega)
        simp only [vI] at q3
        have HE := Lib.hid (HD.out.step hc hg)
        have ir : inI xs[j] := HI.out _ (List.getElem_mem hj2)
        obtain ⟨y, hy⟩ : ∃ y, xs[j] = y := ⟨_, rfl⟩
        rw [hy] at q3 ir
        have g0 : (0 : Int) ≤ (j : Int) := by omega
        have g1 : (j : Int) < (n : Int) := by omega
        have HIR := Lib.hid ir
        clear hc hg eI q ir hr0 hr1
        go_wp2_with fail
        go_ret
        exact ⟨y, rfl, HIR.out, HE.out.le (by omega)⟩
/-- One of the first of some numbers: how far is drawn, too. -/
theorem amongCut_any (B K g cap m n : Nat) (xs : List Int) (w : World) (h : Cur w B K) (hK : K ≤ 549755813888) (hm : n ≤ xs.length) (h0 : 0 < n) (hn1 : n ≤ 1099511627776) (hgB : g ≠ B)
    (hc : ∀ i (hi : i < xs.length), w.cell? ⟨g, 0 + i, none⟩ = some (.int .i64 xs[i])) :
    Calls Tryd.prog 64 #[.pointer (some ⟨B, 0, none⟩), .slice (some ⟨g, 0, none⟩) n cap] w (CurNum w B (K + 2) xs) := by
  refine (among_any B K g 0 cap n (xs.take n) w h hK (by rw [List.length_take]; omega) h0 hn1 hgB (fun i hi => ?_)).mono ?_
  · rw [List.length_take] at hi
    rw [List.getElem_take]
    exact hc i (by omega)
  · rintro e w' ⟨r, h1, h2, h3, h4⟩
    exact ⟨r, h1, List.mem_of_mem_take h2, h3, h4⟩
def dayList : List Int := [0, 1, 10, 14, 501, 20000, -1, 20001]
theorem day_in {r : Int} (h : r ∈ dayList) : inI r := by
  simp [dayList] at h; unfold inI; omega
theorem quo_nat (R d : Nat) : Int.tdiv (R : Int) (d : Int) = ((R / d : Nat) : Int) := by simp [Int.tdiv]
set_option maxRecDepth 20000 in
set_option maxHeartbeats 2000000 in
theorem day5_any (w0 : World) (B K : Nat) (v : Value) (t : List Fi) (w : World) (h : DrF w0 w B K v t) (hK : K ≤ 100000) :
    Calls Tryd.prog 50 #[.pointer (some ⟨B, 0, none⟩)] w (FidDrawn w0 B (K + 4) v t) := by
  have HD0 := Lib.hid (h.al (.cells (dayList.map (Value.int .i64)).toArray 3 (0, 0)))
  have HN := Lib.hid (new_nums w dayList 3 _ rfl)
  have hlt := h.cur.lt
  clear h
  go_enter Tryd.func50, Tryd.ntmps50
  go_wp2_with fail
  refine (pick_any B K 24 _ HD0.out.cur (by omega) (by omega) (by omega)).mono ?_
  rintro e w1 ⟨r, rfl, hr0, hr1, hc, hg⟩
  obtain ⟨R, rfl⟩ := Int.eq_ofNat_of_zero_le hr0
  have HD1 := Lib.hid (HD0.out.step hc hg)
  have HC : Hid (∀ i (hi : i < dayList.length), w1.cell? ⟨w.heap.size, 0 + i, none⟩ = some (.int .i64 dayList[i])) := Lib.hid (fun i hi => hg.cell (HN.out i hi) (by simp; omega))
  have hR : R < 24 := by omega
  obtain ⟨q, hq⟩ : ∃ q, R / 11 = q := ⟨_, rfl⟩
  have hq2 : q ≤ 2 := by omega
  have hd : Int.tdiv (R : Int) 11 = (q : Int) := by rw [← hq]; exact quo_nat R 11
  have hw1 : IntKind.i64.wrap (q : Int) = (q : Int) := Go.IntWalk.i64_in _ (by omega)
  have hw2 : IntKind.i64.wrap (6 + (q : Int)) = 6 + (q : Int) := Go.IntWalk.i64_in _ (by omega)
  have hw3 : (0 : Int) ≤ 6 + (q : Int) := by omega
  have hw4 : 6 + (q : Int) ≤ 8 := by omega
  have hw5 : (6 + (q : Int)).toNat = 6 + q := by omega
  clear hc hg hq hr0 hr1 HD0 HN
  go_wp2_with fail
  refine (amongCut_any B (K + 2) w.heap.size 8 8 (6 + q) dayList _ HD1.out.cur (by omega) (by simp [dayList]; omega) (by omega) (by omega) (by omega) HC.out).mono ?_
  rintro e w2 ⟨n, rfl, hm, hc2, hg2⟩
  have HD2 := Lib.hid (HD1.out.step hc2 hg2)
  have hn := day_in hm
  clear hc2 hg2 hm
  go_wp2_with fail
  go_ret
  exact ⟨n, rfl, hn, HD2.out.le (by omega)⟩

end Go.Proofs.YtpbjddiopfkgbaaDoor
