/- Paths between formats, the program's: LongestLived. -/
import Derived.Test.YtcfghigmijibeaaShoI
import Derived.Test.YtcfghigmijibeaaBx
namespace Go.Proofs.Ytcfghigmijibeaa
set_option linter.unusedVariables false
open Go.RowKit Go.Sort Go.Maps Go.Shelf

theorem nil_neq (W : World) : (binOp BinOp.neq 39 (.slice none 0 0) (.slice none 0 0)).run Try.prog W = .ok (.bool false) W := by kernel_rfl
theorem row_neq (g n c : Nat) (W : World) : (binOp BinOp.neq 39 (.slice (some ⟨g, 0, none⟩) n c) (.slice none 0 0)).run Try.prog W = .ok (.bool true) W := by kernel_rfl
set_option maxRecDepth 20000 in
set_option maxHeartbeats 8000000 in
theorem implLongestLived_any (v : Value) (t : List Fo) (x d : Int) (w : World) (h : RowR 4 rFo w v t) (n : Int) (b : Bool) (hres : llRes t x d = (n, b)) :
    Calls Try.prog 37 #[v, .int .i64 x, .int .i64 d] w fun e w' => e = .returned (.tuple #[.int .i64 n, .bool b]) ∧ Below w.heap.size w w' := by
  have H := Lib.hid h
  have hcap := h.cap
  obtain ⟨a1, c1, rfl, hl1, hm1, r1⟩ := h.fos
  have R1 := Lib.hid r1
  unfold maxLen at hm1
  by_cases hn : areFo t = true ∧ hasId t x = true ∧ dayB d = true
  · obtain ⟨rfl, rfl⟩ := llRes_yes hres hn
    have HN := Lib.hid hn
    clear h hres hn r1
    go_enter Try.func37, Try.ntmps37
    go_wp2_with (first | (go_at_call 65; refine (pathsFrom_any _ t x d _ H.out HN.out).mono ?_; rintro e w1 ⟨M, nn, D, rfl, hMs, hM, ⟨no, hP⟩, b1⟩; have HM := Lib.hid hM; have HP := Lib.hid hP; have s1 := b1.size; clear hM hP))
    have HB0 : Hid (BxV (w1.alloc (.cells #[.int .i64 0, .string ⟨#[]⟩, .int .i64 (-1), .slice none 0 0] 60 (0, 0))) w1.heap.size [.int .i64 0, .string ⟨#[]⟩, .int .i64 (-1), .slice none 0 0]) := Lib.hid (BxV.new w1 _ _)
    have BB := below_al (Below.refl w1.heap.size w1) (.cells #[.int .i64 0, .string ⟨#[]⟩, .int .i64 (-1), .slice none 0 0] 60 (0, 0))
    obtain ⟨G, hG⟩ : ∃ G, w1.heap.size = G := ⟨_, rfl⟩
    have HGE := Lib.hid hG
    rw [hG] at HB0
    clear hG
    go_loopw [23] (fun i wr => ∃ (k : Nat) (b0 b2 : Int) (b1 b3 : Value), k ≤ t.length ∧ i = .int .i64 k ∧ Hid ((bestC (pathsF t x d) t k).id = b0 ∧ (bestC (pathsF t x d) t k).til = b2) ∧ Hid (BxV wr G [.int .i64 b0, b1, .int .i64 b2, b3]) ∧ Below w1.heap.size w1 wr) (fun i _ => t.length - (Go.RowKit.intOf i).toNat)
    case atStart => exact ⟨0, 0, -1, _, _, Nat.zero_le _, rfl, Lib.hid ⟨rfl, rfl⟩, HB0, BB⟩
    case round =>
      clear HB0 BB
      obtain ⟨k, b0, b2, bs1, bs3, hk, rfl, HBE, HX, hb⟩ := hrel
      have hbs := hb.size
      try rw [HGE.out]
      by_cases hlt : k < t.length
      · obtain ⟨bR, oR, hbR, rfl, e1⟩ := R1.out.resolve_left (fun e => by rw [e] at hlt; simp at hlt)
        obtain ⟨⟨y0, y1, y2, y3⟩, hy⟩ : ∃ s, t.getD k foD = s := ⟨_, rfl⟩
        obtain ⟨s, r0, r1, r2, r3, hr, hok⟩ := e1 k hlt
        rw [hy] at r0 r1 r2 hr hok
        simp only at r0 r1 r2 hr
        have hyI : inI y0 := hok.1
        have hbw := b1.trans (hb.mono s1)
        have f0 := cell_kept r0 hbw
        have f1 := cell_kept r1 hbw
        have f2 := cell_kept r2 hbw
        have f3 := cell_kept r3 hbw
        obtain ⟨sa, sc, rfl, _⟩ := hr
        have k0 : (0 : Int) ≤ (k : Int) := by omega
        have k1 : (k : Int) < (t.length : Int) := by omega
        have bE := hb.trans ((below_al (Below.refl wr.heap.size wr) (.cells #[.int .i64 y0, .string y1, .int .i64 y2, .slice sa y3.length sc] 60 (0, 0))).mono hbs)
        have bEG := bE
        rw [HGE.out] at bEG
        have HX2 := Lib.hid (HX.out.al (.cells #[.int .i64 y0, .string y1, .int .i64 y2, .slice sa y3.length sc] 60 (0, 0)))
        have t0 := (HX.out.al (.cells #[.int .i64 y0, .string y1, .int .i64 y2, .slice sa y3.length sc] 60 (0, 0))).cell 0
        have t1 := (HX.out.al (.cells #[.int .i64 y0, .string y1, .int .i64 y2, .slice sa y3.length sc] 60 (0, 0))).cell 1
        have t2 := (HX.out.al (.cells #[.int .i64 y0, .string y1, .int .i64 y2, .slice sa y3.length sc] 60 (0, 0))).cell 2
        have t3 := (HX.out.al (.cells #[.int .i64 y0, .string y1, .int .i64 y2, .slice sa y3.length sc] 60 (0, 0))).cell 3
        have u0 := (HX.out.al (.cells #[.int .i64 y0, .string y1, .int .i64 y2, .slice sa y3.length sc] 60 (0, 0))).frozen 0
        have u1 := (HX.out.al (.cells #[.int .i64 y0, .string y1, .int .i64 y2, .slice sa y3.length sc] 60 (0, 0))).frozen 1
        have u2 := (HX.out.al (.cells #[.int .i64 y0, .string y1, .int .i64 y2, .slice sa y3.length sc] 60 (0, 0))).frozen 2
        have u3 := (HX.out.al (.cells #[.int .i64 y0, .string y1, .int .i64 y2, .slice sa y3.length sc] 60 (0, 0))).frozen 3
        simp at t0 t1 t2 t3
        have hsu := bestC_succ (S := pathsF t x d) hlt
        rw [hy] at hsu
        have HSU := Lib.hid hsu
        have HM2 := Lib.hid (HM.out.kept (grownBy_of_below bE none) (by simp))
        rcases hks : lookP (pathsF t x d) y0 with _ | pk
        · have hlk := look_mapP HM2.out y0 hyI (HP.out.nolook hks)
          have hne := nil_neq
          have HT : Hid ((bestC (pathsF t x d) t (k + 1)).id = b0 ∧ (bestC (pathsF t x d) t (k + 1)).til = b2) := Lib.hid (by rw [hsu]; unfold llStepC; rw [if_neg (by simp [lookP_none.1 hks])]; exact HBE.out)
          clear r0 r1 r2 r3 hy e1 hsu hks hok
          go_wp2_with fail
          go_roundw
          case rel => exact ⟨k + 1, b0, b2, bs1, bs3, by omega, by go_num, HT, HX2, bEG⟩
          case measure => simp [Go.RowKit.intOf]; omega
        · obtain ⟨vk, hvk, hokk, hpk, _⟩ := HP.out.look y0 pk hks
          have hkt : hasK (pathsF t x d) y0 = true := by
            rcases hh : hasK (pathsF t x d) y0 with _ | _
            · rw [lookP_none.2 hh] at hks; cases hks
            · rfl
          have hlk := look_mapP HM2.out y0 hyI hvk
          have hne := row_neq
          obtain ⟨gk2, ck, rfl, _⟩ := own_formP hokk hpk
          by_cases hd : b2 < y2
          · have hd1 : decide (b2 < y2) = true := decide_eq_true hd
            have HT : Hid ((bestC (pathsF t x d) t (k + 1)).id = y0 ∧ (bestC (pathsF t x d) t (k + 1)).til = y2) := Lib.hid (by rw [hsu]; unfold llStepC; rw [if_pos ⟨hkt, by rw [HBE.out.2]; exact hd⟩]; exact ⟨rfl, rfl⟩)
            clear r0 r1 r2 r3 hy e1 hsu hks hvk hokk hkt hok
            go_wp2_with fail
            go_roundw
            case rel =>
              have h1 := (((HX2.out.set (cs' := [.int .i64 y0, bs1, .int .i64 b2, bs3]) 0 (.int .i64 y0) rfl).set (cs' := [.int .i64 y0, .string y1, .int .i64 b2, bs3]) 1 (.string y1) rfl).set (cs' := [.int .i64 y0, .string y1, .int .i64 y2, bs3]) 2 (.int .i64 y2) rfl).set (cs' := [.int .i64 y0, .string y1, .int .i64 y2, .slice sa y3.length sc]) 3 (.slice sa y3.length sc) rfl
              have hGw : G ≤ G := Nat.le_refl _
              exact ⟨k + 1, y0, y2, _, _, by omega, by go_num, HT, Lib.hid h1, (((bEG.setCell (p := ⟨G, 0, none⟩) hGw _).setCell (p := ⟨G, 1, none⟩) hGw _).setCell (p := ⟨G, 2, none⟩) hGw _).setCell (p := ⟨G, 3, none⟩) hGw _⟩
            case measure => simp [Go.RowKit.intOf]; omega
          · have hd1 : decide (b2 < y2) = false := decide_eq_false hd
            have HT : Hid ((bestC (pathsF t x d) t (k + 1)).id = b0 ∧ (bestC (pathsF t x d) t (k + 1)).til = b2) := Lib.hid (by rw [hsu]; unfold llStepC; rw [if_neg (by rw [HBE.out.2]; exact fun q => hd q.2)]; exact HBE.out)
            clear r0 r1 r2 r3 hy e1 hsu hks hvk hokk hkt hok
            go_wp2_with fail
            go_roundw
            case rel => exact ⟨k + 1, b0, b2, bs1, bs3, by omega, by go_num, HT, HX2, bEG⟩
            case measure => simp [Go.RowKit.intOf]; omega
      · have hE : (t.foldl (llStepC (pathsF t x d)) foM).id = b0 := by
          have := HBE.out.1
          rw [show k = t.length by omega] at this
          unfold bestC at this
          rwa [List.take_length] at this
        have HE := Lib.hid hE
        have t0 := HX.out.cell 0
        simp at t0
        clear hE
        go_wp2_with fail
        go_ret2
        exact ⟨by rw [HE.out]; rfl, b1.trans (hb.mono s1)⟩
  · obtain ⟨rfl, rfl⟩ := llRes_no hres hn
    have HN := Lib.hid hn
    clear h hres hn r1
    go_enter Try.func37, Try.ntmps37
    go_wp2_with (first | (go_at_call 65; refine (pathsFrom_no _ t x d _ H.out HN.out).mono ?_; rintro e w1 ⟨rfl, b1⟩; have s1 := b1.size))
    have HB0 : Hid (BxV (w1.alloc (.cells #[.int .i64 0, .string ⟨#[]⟩, .int .i64 (-1), .slice none 0 0] 60 (0, 0))) w1.heap.size [.int .i64 0, .string ⟨#[]⟩, .int .i64 (-1), .slice none 0 0]) := Lib.hid (BxV.new w1 _ _)
    have BB := below_al (Below.refl w1.heap.size w1) (.cells #[.int .i64 0, .string ⟨#[]⟩, .int .i64 (-1), .slice none 0 0] 60 (0, 0))
    obtain ⟨G, hG⟩ : ∃ G, w1.heap.size = G := ⟨_, rfl⟩
    have HGE := Lib.hid hG
    rw [hG] at HB0
    clear hG
    go_loopw [23] (fun i wr => ∃ (k : Nat), k ≤ t.length ∧ i = .int .i64 k ∧ Hid (BxV wr G [.int .i64 0, .string ⟨#[]⟩, .int .i64 (-1), .slice none 0 0]) ∧ Below w1.heap.size w1 wr) (fun i _ => t.length - (Go.RowKit.intOf i).toNat)
    case atStart => exact ⟨0, Nat.zero_le _, rfl, HB0, BB⟩
    case round =>
      clear HB0 BB
      obtain ⟨k, hk, rfl, HX, hb⟩ := hrel
      have hbs := hb.size
      try rw [HGE.out]
      by_cases hlt : k < t.length
      · obtain ⟨bR, oR, hbR, rfl, e1⟩ := R1.out.resolve_left (fun e => by rw [e] at hlt; simp at hlt)
        obtain ⟨⟨y0, y1, y2, y3⟩, hy⟩ : ∃ s, t.getD k foD = s := ⟨_, rfl⟩
        obtain ⟨s, r0, r1, r2, r3, hr, hok⟩ := e1 k hlt
        rw [hy] at r0 r1 r2 hr hok
        simp only at r0 r1 r2 hr
        have hyI : inI y0 := hok.1
        have hbw := b1.trans (hb.mono s1)
        have f0 := cell_kept r0 hbw
        have f1 := cell_kept r1 hbw
        have f2 := cell_kept r2 hbw
        have f3 := cell_kept r3 hbw
        obtain ⟨sa, sc, rfl, _⟩ := hr
        have k0 : (0 : Int) ≤ (k : Int) := by omega
        have k1 : (k : Int) < (t.length : Int) := by omega
        have bE := hb.trans ((below_al (Below.refl wr.heap.size wr) (.cells #[.int .i64 y0, .string y1, .int .i64 y2, .slice sa y3.length sc] 60 (0, 0))).mono hbs)
        have bEG := bE
        rw [HGE.out] at bEG
        have HX2 := Lib.hid (HX.out.al (.cells #[.int .i64 y0, .string y1, .int .i64 y2, .slice sa y3.length sc] 60 (0, 0)))
        have t0 := (HX.out.al (.cells #[.int .i64 y0, .string y1, .int .i64 y2, .slice sa y3.length sc] 60 (0, 0))).cell 0
        have t1 := (HX.out.al (.cells #[.int .i64 y0, .string y1, .int .i64 y2, .slice sa y3.length sc] 60 (0, 0))).cell 1
        have t2 := (HX.out.al (.cells #[.int .i64 y0, .string y1, .int .i64 y2, .slice sa y3.length sc] 60 (0, 0))).cell 2
        have t3 := (HX.out.al (.cells #[.int .i64 y0, .string y1, .int .i64 y2, .slice sa y3.length sc] 60 (0, 0))).cell 3
        have u0 := (HX.out.al (.cells #[.int .i64 y0, .string y1, .int .i64 y2, .slice sa y3.length sc] 60 (0, 0))).frozen 0
        have u1 := (HX.out.al (.cells #[.int .i64 y0, .string y1, .int .i64 y2, .slice sa y3.length sc] 60 (0, 0))).frozen 1
        have u2 := (HX.out.al (.cells #[.int .i64 y0, .string y1, .int .i64 y2, .slice sa y3.length sc] 60 (0, 0))).frozen 2
        have u3 := (HX.out.al (.cells #[.int .i64 y0, .string y1, .int .i64 y2, .slice sa y3.length sc] 60 (0, 0))).frozen 3
        simp at t0 t1 t2 t3
        have hlk := look_nilmap (wr.alloc (.cells #[.int .i64 y0, .string y1, .int .i64 y2, .slice sa y3.length sc] 60 (0, 0))) y0 hyI false
        simp only [Bool.false_eq_true, if_false] at hlk
        have hne := nil_neq
        clear r0 r1 r2 r3 hy e1 hok
        go_wp2_with fail
        go_roundw
        case rel => exact ⟨k + 1, by omega, by go_num, HX2, bEG⟩
        case measure => simp [Go.RowKit.intOf]; omega
      · have t0 := HX.out.cell 0
        simp at t0
        go_wp2_with fail
        go_ret2
        exact ⟨rfl, b1.trans (hb.mono s1)⟩
end Go.Proofs.Ytcfghigmijibeaa
