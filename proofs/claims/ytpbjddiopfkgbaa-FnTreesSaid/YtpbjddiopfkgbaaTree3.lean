/- The draw of a tree. -/
import Derived.Test.YtpbjddiopfkgbaaCurFn
import Derived.Test.YtpbjddiopfkgbaaAddF
import Derived.Deep.DeepCutAuto
import Derived.Deep.CutBlock
import Derived.Deep.RegionLaw
import Derived.Deep.RegionHeld3
namespace Go.Proofs.Ytpbjddiopfkgbaa
set_option linter.unusedVariables false
open Go.RowKit

def lawList : List ByteArray := [⟨#[108, 97, 119]⟩, ⟨#[116, 97, 120]⟩, ⟨#[115, 116, 97, 102, 102]⟩, ⟨#[114, 111, 97, 100, 115]⟩, ⟨#[104, 101, 97, 108, 116, 104]⟩]
theorem law_short {s : ByteArray} (h : s ∈ lawList) : s.size ≤ 11 := by
  have : ∀ x ∈ lawList, x.size ≤ 11 := by decide
  exact this s h
def badList : List ByteArray := [⟨#[]⟩, ⟨#[65]⟩, ⟨#[97, 98, 99, 100, 101, 102, 103, 104, 105, 106, 107]⟩]
theorem bad_short {s : ByteArray} (h : s ∈ badList) : s.size ≤ 11 := by
  have : ∀ x ∈ badList, x.size ≤ 11 := by decide
  exact this s h

theorem own_box3 {base : Nat} (w : World) (a b c : Value) (e : TypeId) (hb : base ≤ w.heap.size) : (w.alloc (.cells #[a, b, c] e (0, 0))).ownsRow base e 3 (.slice (some ⟨w.heap.size, 0, none⟩) 1 1) 1 [a, b, c] :=
  ⟨by simp, .inr ⟨w.heap.size, 1, #[a, b, c], rfl, hb, heap_alloc_new w _, Nat.le_refl _, by unfold maxLen; omega, rfl, by simp⟩⟩
theorem box_grown {base e n cap g B : Nat} {w w' : World} {xs : List Value} (h : w.ownsRow base e 3 (.slice (some ⟨g, 0, none⟩) n cap) n xs) (hg : w.grownBy w' (some B)) (hB : B < base) : w'.ownsRow base e 3 (.slice (some ⟨g, 0, none⟩) n cap) n xs :=
  h.kept hg (.inr fun e => by have := (h.lt g rfl).1; simp [Value.ownBlock] at e; omega)

/-- The cursor, the tree drawn so far. -/
structure Dr (w0 w : World) (B K : Nat) (o : Value) (t : List Fn) : Prop where
  cur : Cur w B K
  out : FnsO (B + 1) w.heap.size w o t
  gr : w0.grownBy w (some B)
theorem Dr.step {w0 w w' : World} {B K K' : Nat} {o : Value} {t : List Fn} (h : Dr w0 w B K o t) (hc : Cur w' B K') (hg : w.grownBy w' (some B)) : Dr w0 w' B K' o t :=
  ⟨hc, (h.out.grown hg (by omega)).wide (Nat.le_refl _) hg.size, grownBy_trans h.gr hg⟩
theorem Dr.al {w0 w : World} {B K : Nat} {o : Value} {t : List Fn} (h : Dr w0 w B K o t) (ob : Obj) : Dr w0 (w.alloc ob) B K o t :=
  h.step (h.cur.later (Below.alloc (Below.refl (B + 1) w) h.cur.lt ob)) (World.grownBy_alloc w ob _)
theorem Dr.below {w0 w w' : World} {B K : Nat} {o : Value} {t : List Fn} (h : Dr w0 w B K o t) (hb : Below w.heap.size w w') : Dr w0 w' B K o t :=
  h.step (h.cur.later (hb.mono h.cur.lt)) ⟨hb.os, hb.tape, hb.output, hb.size, fun k hk _ => hb.block k hk⟩
theorem own_form3 {lo e size n : Nat} {w : World} {v : Value} {xs : List Value} (h : w.ownsRow lo e size v n xs) (hn : 0 < n) : ∃ g cap, v = .slice (some ⟨g, 0, none⟩) n cap := by
  rcases h.2 with ⟨_, h0⟩ | ⟨g, cap, cur, rfl, hg, _⟩
  · omega
  · exact ⟨g, cap, rfl⟩
theorem cells_grown3 {W W' : World} {row : Option Nat} {ad : Addr} {cs : List Value} (hg : W.grownBy W' row) (hc : ∀ j u, cs[j]? = some u → W.cell? (ad.add j) = some u) (hne : some ad.block ≠ row) : ∀ j u, cs[j]? = some u → W'.cell? (ad.add j) = some u := fun j u hj =>
  (World.cell?_of_block (w := W) (hg.block _ (World.block_lt_of_cell? _ _ (hc j u hj)) (by show some (ad.add j).block ≠ row; rw [show (ad.add j).block = ad.block by unfold Addr.add; split <;> rfl]; exact hne))).trans (hc j u hj)
/-- A function's box beside it. -/
def FB (w : World) (B F : Nat) (i p : Int) (s : ByteArray) : Prop := w.ownsRow (B + 1) 36 3 (.slice (some ⟨F, 0, none⟩) 1 1) 1 [.int .i64 i, .int .i64 p, .string s]
theorem FB.grown {w w' : World} {B F : Nat} {i p : Int} {s : ByteArray} (h : FB w B F i p s) (hg : w.grownBy w' (some B)) : FB w' B F i p s := box_grown h hg (Nat.lt_succ_self _)
theorem FB.al {w : World} {B F : Nat} {i p : Int} {s : ByteArray} (h : FB w B F i p s) (o : Obj) : FB (w.alloc o) B F i p s := World.ownsRow.alloc h o
theorem FB.cells {w : World} {B F : Nat} {i p : Int} {s : ByteArray} (h : FB w B F i p s) : w.cell? ⟨F, 0, none⟩ = some (.int .i64 i) ∧ w.cell? ⟨F, 1, none⟩ = some (.int .i64 p) ∧ w.cell? ⟨F, 2, none⟩ = some (.string s) := by
  have c0 := World.ownsRow.cellAt h 0 (by omega)
  have c1 := World.ownsRow.cellAt h 1 (by omega)
  have c2 := World.ownsRow.cellAt h 2 (by omega)
  exact ⟨by simpa using c0, by simpa using c1, by simpa using c2⟩

theorem Dr.set {w0 w : World} {B K F j : Nat} {o u : Value} {t : List Fn} (h : Dr w0 w B K o t) (hF : w0.heap.size ≤ F) (ho : o.ownBlock ≠ some F) (hB : B < F) : Dr w0 (w.setCell ⟨F, j, none⟩ u) B K o t := by
  have hg : w.grownBy (w.setCell ⟨F, j, none⟩ u) (some F) := ⟨rfl, rfl, rfl, by simp, fun k _ hk => Below.heap_setCell w ⟨F, j, none⟩ u k (fun e => hk (by rw [e]))⟩
  refine ⟨h.cur.later ((Below.refl (B + 1) w).setCell (p := ⟨F, j, none⟩) hB u), ⟨⟨h.out.1.1.kept hg (.inr ho), h.out.1.2⟩, h.out.2.1, by simpa using h.out.2.2⟩, ?_⟩
  refine ⟨h.gr.os, h.gr.tape, h.gr.output, by simpa using h.gr.size, fun k hk hr => ?_⟩
  exact (Below.heap_setCell w ⟨F, j, none⟩ u k (by simp; omega)).trans (h.gr.block k hk hr)
theorem FB.set {w : World} {B F : Nat} {i p i' p' : Int} {s s' : ByteArray} (j : Nat) (u : Value) (h : FB w B F i p s) (he : [Value.int .i64 i, .int .i64 p, .string s].set j u = [.int .i64 i', .int .i64 p', .string s']) : FB (w.setCell ⟨F, j, none⟩ u) B F i' p' s' := by
  have := (World.ownsRow.stored h j u).1
  rw [he] at this
  exact this
theorem FB.frozen {w : World} {B F : Nat} {i p : Int} {s : ByteArray} (h : FB w B F i p s) (j : Nat) : w.frozen? ⟨F, j, none⟩ = false := World.ownsRow.frozenAt h j

theorem lit_ok (k : Nat) (h : k ≤ 16) : (⟨(k : Int) + 1, (k : Int), ⟨#[97]⟩⟩ : Fn).ok :=
  ⟨by simp only [inI]; omega, by simp only [inI]; omega, (by decide : (1 : Nat) ≤ maxLen)⟩
theorem gr_app {w w3 w4 : World} {B : Nat} {ob : Obj} {v : Value} (h : w.grownBy w3 (some B)) (hg : (w3.alloc ob).grownBy w4 v.ownBlock) (hv : ∀ k, v.ownBlock = some k → w.heap.size ≤ k) : w.grownBy w4 (some B) := by
  have h2 := grownBy_trans h (World.grownBy_alloc w3 ob (some B))
  have hs := h2.size
  refine ⟨hg.os.trans h2.os, hg.tape.trans h2.tape, hg.output.trans h2.output, Nat.le_trans hs hg.size, fun k hk hr => ?_⟩
  exact (hg.block k (Nat.lt_of_lt_of_le hk hs) (fun e => by have := hv k e.symm; omega)).trans (h2.block k hk hr)

set_option maxRecDepth 20000 in
set_option maxHeartbeats 2000000 in
theorem tree3_any (B K : Nat) (w : World) (h : Cur w B K) (hK : K ≤ 1000) :
    Calls Try.prog 57 #[.pointer (some ⟨B, 0, none⟩)] w fun e w' => ∃ v t, e = .returned v ∧ t.length ≤ 16 ∧ (∃ ad c, v = .slice (some ad) t.length c) ∧ Dr w w' B (K + 1000) v t := by
  obtain ⟨i0, hi, hz0, hz1, hz2⟩ := info_parts Try.info_fn
  have hlt := h.lt
  have H0 : Hid (Dr w (w.alloc (.cells #[] 36 (0, 0))) B K (.slice (some ⟨w.heap.size, 0, none⟩) 0 0) []) := Lib.hid ⟨h.later (Below.alloc (Below.refl (B + 1) w) hlt _), FnsO.empty (lo := B + 1) w hlt, World.grownBy_alloc w _ _⟩
  clear h
  go_enter Try.func57, Try.ntmps57
  go_wp2_with fail
  refine (pick_any B K 10 _ H0.out.cur (by omega) (by omega) (by omega)).mono ?_
  rintro e w1 ⟨n0, rfl, hn0, hn1, hc1, hg1⟩
  obtain ⟨N, rfl⟩ := Int.eq_ofNat_of_zero_le hn0
  have hN : N ≤ 9 := by omega
  have H1 := Lib.hid (H0.out.step hc1 hg1)
  clear hc1 hg1 hn0 hn1 H0
  go_wp2_with fail
  go_loopw [3, 4, 5] (fun o d n wr => ∃ (ob : Nat) (oa : Option Addr) (oc : Nat) (t : List Fn) (id : Int) (k : Nat), Hid (some (⟨ob, 0, none⟩ : Addr) = oa) ∧ k ≤ N ∧ n = .int .i64 k ∧ d = .int .i64 id ∧ 0 ≤ id ∧ id ≤ 2 * ((N : Int) - k) ∧ o = .slice oa t.length oc ∧ t.length + k ≤ N ∧ Hid (Dr w wr B (K + 2 + 40 * (N - k)) (.slice oa t.length oc) t)) (fun _ _ n _ => (intOf n).toNat)
  case atStart => exact ⟨_, _, _, [], 0, N, Lib.hid rfl, Nat.le_refl _, rfl, rfl, by omega, by omega, rfl, by simp, Lib.hid ⟨H1.out.cur.le_K (by omega), H1.out.out, H1.out.gr⟩⟩
  case round =>
    clear H1
    obtain ⟨ob, oa, oc, t, id, k, HOA, hk, rfl, rfl, hi0, hi1, rfl, htl, HD⟩ := hrel
    obtain ⟨M, hM⟩ : ∃ M, K + 2 + 40 * (N - k) = M := ⟨_, rfl⟩
    rw [hM] at HD
    by_cases hpos : 0 < k
    · have gk : (0 : Int) < (k : Int) := by omega
      have gk2 : decide ((0 : Int) < (k : Int)) = true := decide_eq_true gk
      go_wp2_with fail
      refine (pick_any B M 2 _ HD.out.cur (by omega) (by omega) (by omega)).mono ?_
      rintro e w2 ⟨d, rfl, hd0, hd1, hc2, hg2⟩
      have HD2 := Lib.hid ((HD.out.step hc2 hg2).al (.cells (lawList.map Value.string).toArray 9))
      have hl2 : B < w2.heap.size := hc2.lt
      clear hc2 hg2
      have hid1 : IntKind.i64.wrap (id + 1) = id + 1 := Go.IntWalk.i64_in _ (by omega)
      have hid2 : IntKind.i64.wrap (id + 1 + d) = id + 1 + d := Go.IntWalk.i64_in _ (by omega)
      go_wp2_with fail
      refine (of_any B (M + 2) w2.heap.size 0 5 5 lawList _ HD2.out.cur (by omega) rfl (by omega) (by omega) (by omega) (new_cells w2 lawList 9 _ rfl)).mono ?_
      rintro e w3 ⟨s, rfl, hm, hc3, hg3⟩
      have HD3 := Lib.hid (HD2.out.step hc3 hg3)
      have hss := law_short hm
      have hl3 : B < w3.heap.size := hc3.lt
      clear hc3 hg3 hm HD2
      have HD4 := Lib.hid (HD3.out.al (.cells #[.int .i64 (id + 1 + d), .int .i64 0, .string s] 36 (0, 0)))
      have HF4 : Hid (FB _ B w3.heap.size (id + 1 + d) 0 s) := Lib.hid (own_box3 (base := B + 1) w3 (.int .i64 (id + 1 + d)) (.int .i64 0) (.string s) 36 (by omega))
      obtain ⟨F, hF⟩ : ∃ F, w3.heap.size = F := ⟨_, rfl⟩
      have hFw : w.heap.size ≤ F := by rw [← hF]; exact HD3.out.gr.size
      have hFB : B < F := by rw [← hF]; exact hl3
      have hFo : (Value.slice oa t.length oc).ownBlock ≠ some F := fun e => by have := HD3.out.out.2.2 F e; omega
      rw [hF] at HF4
      have hi9 : 0 ≤ id + 1 + d ∧ id + 1 + d ≤ 2 * ((N : Int) - k) + 2 := by omega
      obtain ⟨I, hI⟩ : ∃ I, id + 1 + d = I := ⟨_, rfl⟩
      rw [hI] at HD4 HF4 hi9
      have HI := Lib.hid hI
      clear HD3 HD
      go_upto_region 8 with fail
      try rw [hF]
      try rw [hI]
      clear hI hF hid2 hid1 hd0 hd1
      generalize w3.alloc (.cells #[.int .i64 I, .int .i64 0, .string s] 36) = W4 at *
      go_cut [33] from 12 to 77 (fun c wx => ∃ bb : Bool, c = .bool bb ∧ (bb = true → 0 < t.length) ∧ Hid (Dr w wx B (M + 6) (.slice oa t.length oc) t) ∧ Hid (FB wx B F I 0 s))
      case first =>
        by_cases h0 : t.length = 0
        · have hz : decide ((0 : Int) < (t.length : Int)) = false := decide_eq_false (by omega)
          have hz2 : decide (0 < t.length) = false := decide_eq_false (by omega)
          have HZ := Lib.hid h0
          clear h0
          go_wp2_with fail
          go_meet
          exact ⟨false, rfl, fun e => (by cases e), Lib.hid ⟨HD4.out.cur.le_K (by omega), HD4.out.out, HD4.out.gr⟩, HF4⟩
        · have hz : decide ((0 : Int) < (t.length : Int)) = true := decide_eq_true (by omega)
          have hz2 : 0 < t.length := by omega
          clear h0
          go_wp2_with fail
          refine (one_any B (M + 4) 4 _ HD4.out.cur (by omega) (by omega) (by omega)).mono ?_
          rintro e w5 ⟨r, rfl, hc5, hg5⟩
          have HD5 := Lib.hid (HD4.out.step hc5 hg5)
          have HF5 := Lib.hid (HF4.out.grown hg5)
          clear hc5 hg5
          go_wp2_with fail
          go_meet
          exact ⟨_, rfl, fun _ => hz2, HD5, HF5⟩
      case rest =>
        obtain ⟨bb, rfl, hbl, HD5, HF5⟩ := hcut
        clear HD4 HF4
        obtain ⟨W5, hW5⟩ : ∃ x, x = wc := ⟨_, rfl⟩
        subst hW5
        go_upto_if 33 with fail
        go_cut [6] from 12 to 77 (fun q wx => ∃ P : Int, q = .pointer (some ⟨F, 0, none⟩) ∧ inI P ∧ Hid (Dr w wx B (M + 8) (.slice oa t.length oc) t) ∧ Hid (FB wx B F I P s))
        case first =>
          cases bb
          · go_wp2_with fail
            go_meet
            exact ⟨0, rfl, by simp [inI], Lib.hid ⟨HD5.out.cur.le_K (by omega), HD5.out.out, HD5.out.gr⟩, HF5⟩
          · have hl := hbl rfl
            clear hbl
            go_wp2_with fail
            refine (pick_any B (M + 6) t.length _ HD5.out.cur (by omega) (by omega) (by omega)).mono ?_
            rintro e w6 ⟨r, rfl, hr0, hr1, hc6, hg6⟩
            obtain ⟨j, rfl⟩ := Int.eq_ofNat_of_zero_le hr0
            have HD6 := Lib.hid (HD5.out.step hc6 hg6)
            have HF6 := Lib.hid (HF5.out.grown hg6)
            clear hc6 hg6 HD5 HF5
            have hj : j < t.length := by omega
            obtain ⟨a', c', e', _, hm', r'⟩ := HD6.out.out.row.fns
            simp only [Value.slice.injEq] at e'
            obtain ⟨rfl, _, rfl⟩ := e'
            obtain ⟨bb', oo, _, rfl, ee⟩ := r'.resolve_left (fun e => by rw [e] at hj; simp at hj)
            obtain ⟨p0, _, _, hok⟩ := ee j hj
            obtain ⟨q, hq⟩ : ∃ q, (t.getD j fnD).id = q := ⟨_, rfl⟩
            have hok1 := hok.1
            rw [hq] at p0 hok1
            have P0 := p0
            have fc := HF6.out.cells.2.1
            have ff := HF6.out.frozen 1
            have g0 : (0 : Int) ≤ (j : Int) := by omega
            have g1 : (j : Int) < (t.length : Int) := by omega
            have HOK := Lib.hid hok1
            clear hok hok1 ee hm' p0 hq
            go_wp2_with fail
            go_meet
            exact ⟨q, rfl, HOK.out, Lib.hid (HD6.out.set hFw hFo hFB), Lib.hid (HF6.out.set 1 _ rfl)⟩
        case rest =>
          obtain ⟨P, rfl, hP, HD7, HF7⟩ := hcut
          clear HD5 HF5 hbl
          obtain ⟨W7, hW7⟩ : ∃ x, x = wc := ⟨_, rfl⟩
          subst hW7
          go_upto_block 2 with (first | (go_at_call 87; refine (pick_any B (M + 8) 90 _ HD7.out.cur (by omega) (by omega) (by omega)).mono ?_; rintro e w8 ⟨m, rfl, hm0, hm1, hc8, hg8⟩; have HD8 := Lib.hid (HD7.out.step hc8 hg8); have HF8 := Lib.hid (HF7.out.grown hg8); clear hc8 hg8))
          clear HD7 HF7
          go_cut [6] from 12 to 77 (fun q wx => ∃ (I2 P2 : Int) (s2 : ByteArray), q = .pointer (some ⟨F, 0, none⟩) ∧ (inI I2 ∧ inI P2 ∧ s2.size ≤ 11) ∧ Hid (Dr w wx B (M + 14) (.slice oa t.length oc) t) ∧ Hid (FB wx B F I2 P2 s2))
          case first =>
            have hI : inI I := by unfold inI; omega
            have f8 := HF8.out.cells
            have l8 := HD8.out.cur.lt
            by_cases e0 : m = 0
            · subst e0
              go_wp2_with fail
              refine (among_any B (M + 10) w8.heap.size 0 3 3 [0, 99, 100] _ (HD8.out.al (.cells (([0, 99, 100] : List Int).map (Value.int .i64)).toArray 3)).cur (by omega) rfl (by omega) (by omega) (by have := HD8.out.cur.lt; omega) (new_nums w8 [0, 99, 100] 3 _ rfl)).mono ?_
              rintro e w9 ⟨r, rfl, hr, hc9, hg9⟩
              have HD9 := Lib.hid ((HD8.out.al (.cells (([0, 99, 100] : List Int).map (Value.int .i64)).toArray 3)).step hc9 hg9)
              have HF9 := Lib.hid ((HF8.out.al (.cells (([0, 99, 100] : List Int).map (Value.int .i64)).toArray 3)).grown hg9)
              have hr2 : inI r := by simp at hr; unfold inI; omega
              have fc := HF9.out.cells.1
              have ff := HF9.out.frozen 0
              clear hc9 hg9 hr f8
              go_wp2_with fail
              go_meet
              exact ⟨r, P, s, rfl, ⟨hr2, hP, hss⟩, Lib.hid ⟨(HD9.out.set hFw hFo hFB).cur.le_K (by omega), (HD9.out.set hFw hFo hFB).out, (HD9.out.set hFw hFo hFB).gr⟩, Lib.hid (HF9.out.set 0 _ rfl)⟩
            · have b0 : (m == 0) = false := beq_eq_false_iff_ne.2 e0
              by_cases e1 : m = 1
              · subst e1
                have c0 := f8.1
                go_wp2_with fail
                refine (among_any B (M + 10) w8.heap.size 0 3 3 [-1, I, 90] _ (HD8.out.al (.cells (([-1, I, 90] : List Int).map (Value.int .i64)).toArray 3)).cur (by omega) rfl (by omega) (by omega) (by have := HD8.out.cur.lt; omega) (new_nums w8 [-1, I, 90] 3 _ rfl)).mono ?_
                rintro e w9 ⟨r, rfl, hr, hc9, hg9⟩
                have HD9 := Lib.hid ((HD8.out.al (.cells (([-1, I, 90] : List Int).map (Value.int .i64)).toArray 3)).step hc9 hg9)
                have HF9 := Lib.hid ((HF8.out.al (.cells (([-1, I, 90] : List Int).map (Value.int .i64)).toArray 3)).grown hg9)
                have hr2 : inI r := by simp at hr; unfold inI; omega
                have fc := HF9.out.cells.2.1
                have ff := HF9.out.frozen 1
                clear hc9 hg9 hr f8 c0
                go_wp2_with fail
                go_meet
                exact ⟨I, r, s, rfl, ⟨hI, hr2, hss⟩, Lib.hid ⟨(HD9.out.set hFw hFo hFB).cur.le_K (by omega), (HD9.out.set hFw hFo hFB).out, (HD9.out.set hFw hFo hFB).gr⟩, Lib.hid (HF9.out.set 1 _ rfl)⟩
              · have b1 : (m == 1) = false := beq_eq_false_iff_ne.2 e1
                by_cases e2 : m = 2
                · subst e2
                  go_wp2_with fail
                  refine (of_any B (M + 10) w8.heap.size 0 3 3 badList _ (HD8.out.al (.cells (badList.map Value.string).toArray 9)).cur (by omega) rfl (by omega) (by omega) (by omega) (new_cells w8 badList 9 _ rfl)).mono ?_
                  rintro e w9 ⟨r, rfl, hr, hc9, hg9⟩
                  have HD9 := Lib.hid ((HD8.out.al (.cells (badList.map Value.string).toArray 9)).step hc9 hg9)
                  have HF9 := Lib.hid ((HF8.out.al (.cells (badList.map Value.string).toArray 9)).grown hg9)
                  have hr2 := bad_short hr
                  have fc := HF9.out.cells.2.2
                  have ff := HF9.out.frozen 2
                  clear hc9 hg9 hr f8
                  go_wp2_with fail
                  go_meet
                  exact ⟨I, P, r, rfl, ⟨hI, hP, hr2⟩, Lib.hid ⟨(HD9.out.set hFw hFo hFB).cur.le_K (by omega), (HD9.out.set hFw hFo hFB).out, (HD9.out.set hFw hFo hFB).gr⟩, Lib.hid (HF9.out.set 2 _ rfl)⟩
                · have b2 : (m == 2) = false := beq_eq_false_iff_ne.2 e2
                  clear f8
                  go_wp2_with fail
                  go_meet
                  exact ⟨I, P, s, rfl, ⟨hI, hP, hss⟩, Lib.hid ⟨HD8.out.cur.le_K (by omega), HD8.out.out, HD8.out.gr⟩, HF8⟩
          case rest =>
            obtain ⟨I2, P2, s2, rfl, hok2, HD10, HF10⟩ := hcut
            clear HD8 HF8
            obtain ⟨W10, hW10⟩ : ∃ x, x = wc := ⟨_, rfl⟩
            subst hW10
            go_upto_region 17 with fail
            go_cut [7] from 12 to 77 (fun q wx => ∃ (na nc : Nat), q = .slice (some ⟨na, 0, none⟩) (t.length + 1) nc ∧ Hid (Dr w wx B (M + 14) (.slice oa t.length oc) t) ∧ Hid (FnsO (B + 1) wx.heap.size wx (.slice (some ⟨na, 0, none⟩) (t.length + 1) nc) (t ++ [⟨I2, P2, s2⟩])))
            case first =>
              have hoa := HOA.out
              clear HOA
              subst hoa
              have hcells := fns_cells HD10.out.out.row
              obtain ⟨NEWS, hN⟩ : ∃ N, (t.map fnC).flatten = N := ⟨_, rfl⟩
              have HL : Hid (NEWS.length = t.length * 3) := Lib.hid (by rw [← hN]; exact flat_map_len fnC_len t)
              have HO : Hid (∀ u ∈ NEWS, u.oneCell' = true) := Lib.hid (by rw [← hN]; exact flat_one fnC_one _)
              have HC : Hid (∀ W, Below W10.heap.size W10 W → ∀ j u, NEWS[j]? = some u → W.cell? ((⟨ob, 0, none⟩ : Addr).add j) = some u) := Lib.hid (by rw [← hN]; exact hcells)
              have HNE := Lib.hid hN
              obtain ⟨y0, y1, y2⟩ := HF10.out.cells
              have Y0 := Lib.hid y0
              have Y1 := Lib.hid y1
              have Y2 := Lib.hid y2
              have b0 : Below W10.heap.size W10 W10.drew := (Below.refl _ _).drew
              have HD11 := Lib.hid HD10.out
              have l10 := HD10.out.cur.lt
              clear hN hcells HD10 HF10
              go_region_held3 (fun w' => w'.cell? ⟨F, 0, none⟩ = some (.int .i64 I2) ∧ w'.cell? ⟨F, 1, none⟩ = some (.int .i64 P2) ∧ w'.cell? ⟨F, 2, none⟩ = some (.string s2)) (first | exact ⟨y0, y1, y2⟩ | go_keep) (first | (rw [if_pos (by rfl)]; refine wp_append_own _ _ _ _ rfl W10.heap.size 36 i0 (.agg #[.int .i64 0, .int .i64 0, .string ⟨#[]⟩]) 3 32 Try.underlying24 hi hz0 hz1 hz2 rfl (by decide) (.slice (some ⟨W10.heap.size, 0, none⟩) 0 0) 0 [] (by rfl) (by first | exact World.ownsRow_made W10.drew #[] 0 (Nat.le_refl _) (Nat.zero_le _) rfl | exact World.ownsRow.alloc (World.ownsRow_made W10.drew #[] 0 (Nat.le_refl _) (Nat.zero_le _) rfl) _) ⟨ob, 0, none⟩ t.length oc NEWS (by rfl) HL.out (by exact HC.out _ (by first | exact below_al b0 _ | exact below_al (below_al b0 _) _)) HO.out (by unfold maxLen; omega) (by omega) (by (first | omega | (simp; done) | (simp; omega))) ?_; intro v5 w5 hown5 hg5 _; have b5 : Below W10.heap.size W10 w5 := Below.grown (by first | exact below_al b0 _ | exact below_al (below_al b0 _) _) hg5 (by (first | omega | (simp; done) | (simp; omega))) (by intro kk hk; cases hk; exact Nat.le_refl _); have s5 := b5.size; replace y0 := cell_kept Y0.out b5; replace y1 := cell_kept Y1.out b5; replace y2 := cell_kept Y2.out b5) | (rw [if_pos (by rfl)]; refine wp_append_own _ _ _ _ rfl W10.heap.size 36 i0 (.agg #[.int .i64 0, .int .i64 0, .string ⟨#[]⟩]) 3 32 Try.underlying24 hi hz0 hz1 hz2 rfl (by decide) (.slice (some ⟨W10.heap.size + 1, 0, none⟩) 0 0) 0 [] (by rfl) (by have hh := World.ownsRow_made (base := W10.heap.size) (e := 36) (size := 3) (W10.drew.alloc (.cells #[.int .i64 I2, .int .i64 P2, .string s2] 36 (0, 0))) #[] 0 (by simp) (Nat.zero_le _) rfl; rw [show (W10.drew.alloc (.cells #[.int .i64 I2, .int .i64 P2, .string s2] 36 (0, 0))).heap.size = W10.heap.size + 1 by simp] at hh; exact hh) ⟨ob, 0, none⟩ t.length oc NEWS (by rfl) HL.out (by exact HC.out _ (by first | exact below_al b0 _ | exact below_al (below_al b0 _) _)) HO.out (by unfold maxLen; omega) (by omega) (by (first | omega | (simp; done) | (simp; omega))) ?_; intro v5 w5 hown5 hg5 _; have b5 : Below W10.heap.size W10 w5 := Below.grown (by first | exact below_al b0 _ | exact below_al (below_al b0 _) _) hg5 (by (first | omega | (simp; done) | (simp; omega))) (by intro kk hk; cases hk; exact Nat.le_succ _); have s5 := b5.size; replace y0 := cell_kept Y0.out b5; replace y1 := cell_kept Y1.out b5; replace y2 := cell_kept Y2.out b5) | (rw [if_pos (by rfl)]; refine wp_append_own _ _ _ _ rfl W10.heap.size 36 i0 (.agg #[.int .i64 0, .int .i64 0, .string ⟨#[]⟩]) 3 32 Try.underlying24 hi hz0 hz1 hz2 rfl (by decide) v5 (0 + t.length) ([] ++ NEWS) (by rfl) (by exact hown5.alloc _) ⟨w5.heap.size, 0, none⟩ 1 1 [.int .i64 I2, .int .i64 P2, .string s2] (by rfl) rfl (by exact cells3_new' _ _ _ _ _ rfl) (by simp [Value.oneCell']) (by unfold maxLen; omega) (by omega) (by (first | omega | (simp; done) | (simp; omega))) ?_; intro v6 w6 hown6 hg6 _; have b6 : Below W10.heap.size W10 w6 := Below.grown (by first | exact b5 | exact below_al b5 _) hg6 (by (first | omega | (simp; done) | (simp; omega))) (by exact fun kk hk => (hown5.lt kk hk).1); have s6 := b6.size; replace y0 := cell_kept Y0.out b6; replace y1 := cell_kept Y1.out b6; replace y2 := cell_kept Y2.out b6) | (rw [if_pos (by rfl)]; refine wp_append_own _ _ _ _ rfl W10.heap.size 36 i0 (.agg #[.int .i64 0, .int .i64 0, .string ⟨#[]⟩]) 3 32 Try.underlying24 hi hz0 hz1 hz2 rfl (by decide) v5 (0 + t.length) ([] ++ NEWS) (by rfl) (by exact hown5) ⟨W10.heap.size + 1, 0, none⟩ 1 1 [.int .i64 I2, .int .i64 P2, .string s2] (by rfl) rfl (by exact cells_grown3 hg5 (cells3_new' _ _ _ _ _ (by simp)) (by simp [Value.ownBlock])) (by simp [Value.oneCell']) (by unfold maxLen; omega) (by omega) (by (first | omega | (simp; done) | (simp; omega))) ?_; intro v6 w6 hown6 hg6 _; have b6 : Below W10.heap.size W10 w6 := Below.grown (by first | exact b5 | exact below_al b5 _) hg6 (by (first | omega | (simp; done) | (simp; omega))) (by exact fun kk hk => (hown5.lt kk hk).1); have s6 := b6.size; replace y0 := cell_kept Y0.out b6; replace y1 := cell_kept Y1.out b6; replace y2 := cell_kept Y2.out b6) | (rw [if_pos (by rfl)]; refine wp_append_own _ _ _ _ rfl W10.heap.size 36 i0 (.agg #[.int .i64 0, .int .i64 0, .string ⟨#[]⟩]) 3 32 Try.underlying24 hi hz0 hz1 hz2 rfl (by decide) v5 (0 + t.length) ([] ++ NEWS) (by rfl) (by exact hown5) ⟨W10.heap.size, 0, none⟩ 1 1 [.int .i64 I2, .int .i64 P2, .string s2] (by rfl) rfl (by exact cells_grown3 hg5 (fun j u hj => below_al_cell (cells3_new' _ _ _ _ _ rfl j u hj) _) (by simp [Value.ownBlock])) (by simp [Value.oneCell']) (by unfold maxLen; omega) (by omega) (by (first | omega | (simp; done) | (simp; omega))) ?_; intro v6 w6 hown6 hg6 _; have b6 : Below W10.heap.size W10 w6 := Below.grown (by first | exact b5 | exact below_al b5 _) hg6 (by (first | omega | (simp; done) | (simp; omega))) (by exact fun kk hk => (hown5.lt kk hk).1); have s6 := b6.size; replace y0 := cell_kept Y0.out b6; replace y1 := cell_kept Y1.out b6; replace y2 := cell_kept Y2.out b6))
              all_goals
                have hown8 := ownsRow_base_a' hown6 (base' := B + 1) (by omega)
                have hF : FnsO (B + 1) w6.heap.size w6 v6 (t ++ [⟨I2, P2, s2⟩]) := FnsO.of_row (n := 0 + t.length + 1) (by
                  have e : ((t ++ [(⟨I2, P2, s2⟩ : Fn)]).map fnC).flatten = ([] ++ NEWS ++ [.int .i64 I2, .int .i64 P2, .string s2] : List Value) := by
                    rw [List.map_append, List.flatten_append, HNE.out]
                    simp [fnC]
                  rw [e]; exact hown8) (by simp) (fun f hf => by
                  rcases List.mem_append.1 hf with h | h
                  · exact HD11.out.out.2.1 f h
                  · rw [List.mem_singleton.1 h]; exact ⟨hok2.1, hok2.2.1, Nat.le_trans hok2.2.2 (by decide)⟩)
                have HF := Lib.hid hF
                rw [Nat.zero_add] at hown8
                obtain ⟨na, nc, rfl⟩ := own_form3 hown8 (Nat.succ_pos _)
                have HDD := Lib.hid (HD11.out.below b6)
                clear hown8 hown6 hown5 hg5 hg6 b5 s5 y0 y1 y2 Y0 Y1 Y2 hF b0
                go_wp2_with fail
                go_meet
                exact ⟨na, nc, rfl, HDD, HF⟩
            case rest =>
              obtain ⟨na, nc, rfl, HD12, HX12⟩ := hcut
              clear HD10 HF10
              obtain ⟨W12, hW12⟩ : ∃ x, x = wc := ⟨_, rfl⟩
              subst hW12
              have hkw : IntKind.i64.wrap ((k : Int) - 1) = ((k - 1 : Nat) : Int) := by
                rw [Go.IntWalk.i64_in _ (by omega)]
                omega
              obtain ⟨bA, hbA⟩ : ∃ b, isTree (t ++ [⟨I2, P2, s2⟩]) = b := ⟨_, rfl⟩
              have HBA := Lib.hid hbA
              clear hbA
              go_wp2_with fail
              refine (l3Good_any _ (t ++ [⟨I2, P2, s2⟩]) _ HX12.out.row).mono ?_
              rw [HBA.out]
              rintro e w13 ⟨rfl, b13⟩
              have HD13 := Lib.hid (HD12.out.below b13)
              have HX13 := Lib.hid ((HX12.out.below b13).wide (Nat.le_refl _) b13.size)
              clear b13 HD12 HX12
              cases bA
              · go_wp2_with fail
                refine (one_any B (M + 14) 40 _ HD13.out.cur (by omega) (by omega) (by omega)).mono ?_
                rintro e w14 ⟨r, rfl, hc14, hg14⟩
                have HD14 := Lib.hid (HD13.out.step hc14 hg14)
                have HX14 := Lib.hid ((HX13.out.grown hg14 (by omega)).wide (Nat.le_refl _) hg14.size)
                clear hc14 hg14 HD13 HX13
                have HE14 : Hid (Dr w w14 B (M + 16) (.slice (some ⟨na, 0, none⟩) (t.length + 1) nc) (t ++ [⟨I2, P2, s2⟩])) := Lib.hid ⟨HD14.out.cur, HX14.out, HD14.out.gr⟩
                cases r
                · go_wp2_with fail
                  go_roundw
                  case rel => exact ⟨ob, oa, oc, t, I, k - 1, HOA, by omega, rfl, rfl, hi9.1, by omega, rfl, by omega, Lib.hid ⟨HD14.out.cur.le_K (by omega), HD14.out.out, HD14.out.gr⟩⟩
                  case measure => simp [intOf]; omega
                · go_wp2_with fail
                  go_roundw
                  case rel => exact ⟨na, _, nc, t ++ [⟨I2, P2, s2⟩], I, k - 1, Lib.hid rfl, by omega, rfl, rfl, hi9.1, by omega, by simp, (by simp only [List.length_append, List.length_singleton]; omega), Lib.hid (by simp only [List.length_append, List.length_singleton]; exact ⟨HE14.out.cur.le_K (by omega), HE14.out.out, HE14.out.gr⟩)⟩
                  case measure => simp [intOf]; omega
              · have HE13 : Hid (Dr w w13 B (M + 14) (.slice (some ⟨na, 0, none⟩) (t.length + 1) nc) (t ++ [⟨I2, P2, s2⟩])) := Lib.hid ⟨HD13.out.cur, HX13.out, HD13.out.gr⟩
                go_wp2_with fail
                go_roundw
                case rel => exact ⟨na, _, nc, t ++ [⟨I2, P2, s2⟩], I, k - 1, Lib.hid rfl, by omega, rfl, rfl, hi9.1, by omega, by simp, (by simp only [List.length_append, List.length_singleton]; omega), Lib.hid (by simp only [List.length_append, List.length_singleton]; exact ⟨HE13.out.cur.le_K (by omega), HE13.out.out, HE13.out.gr⟩)⟩
                case measure => simp [intOf]; omega
    · obtain rfl : k = 0 := by omega
      clear hpos
      have HL := Lib.hid htl
      clear hk
      go_wp2_with fail
      refine (one_any B M 24 _ HD.out.cur (by omega) (by omega) (by omega)).mono ?_
      rintro e w2 ⟨r, rfl, hc2, hg2⟩
      have HD2 := Lib.hid (HD.out.step hc2 hg2)
      clear hc2 hg2 HD
      have hM2 : M ≤ K + 362 := by omega
      clear hM
      cases r
      · go_wp2_with fail
        go_ret
        exact ⟨_, t, rfl, by omega, ⟨⟨ob, 0, none⟩, oc, congrArg (fun z => Value.slice z t.length oc) HOA.out.symm⟩, HD2.out.cur.le_K (by omega), HD2.out.out, HD2.out.gr⟩
      · have HD3 : Hid (Dr w (w2.alloc (.cells #[] 36 (0, 0))) B (M + 2) (.slice (some ⟨w2.heap.size, 0, none⟩) 0 0) []) := Lib.hid ⟨(HD2.out.al _).cur, FnsO.empty (lo := B + 1) w2 HD2.out.cur.lt, (HD2.out.al _).gr⟩
        have HF3 : Hid (FnsO w.heap.size (w2.alloc (.cells #[] 36 (0, 0))).heap.size (w2.alloc (.cells #[] 36 (0, 0))) (.slice (some ⟨w2.heap.size, 0, none⟩) 0 0) []) := Lib.hid (FnsO.empty (lo := w.heap.size) w2 HD2.out.gr.size)
        clear HD2 htl HL
        go_wp2_with fail
        obtain ⟨wo, hwo⟩ : ∃ x, x = wr := ⟨_, rfl⟩
        subst hwo
        go_loopw [3, 8] (fun o n wr => ∃ (v : Value) (k : Nat) (t : List Fn), k ≤ 16 ∧ n = .int .i64 k ∧ v = o ∧ t.length = k ∧ Hid (FnsO w.heap.size wr.heap.size wr v t) ∧ Hid (Dr w wr B (M + 2 + 2 * k) v t)) (fun _ n _ => 17 - (intOf n).toNat)
        case atStart => exact ⟨_, 0, [], by omega, rfl, rfl, rfl, HF3, HD3⟩
        case round =>
          clear HD3 HF3
          obtain ⟨v, k, t, hk, rfl, rfl, htk, HF, HD⟩ := hrel
          have hkp : IntKind.i64.wrap ((k : Int) + 1) = (k : Int) + 1 := Go.IntWalk.i64_in _ (by omega)
          go_wp2_with fail
          refine (pick_any B (M + 2 + 2 * k) 2 _ HD.out.cur (by omega) (by omega) (by omega)).mono ?_
          rintro e w3 ⟨d, rfl, hd0, hd1, hc3, hg3⟩
          have HD3 := Lib.hid (HD.out.step hc3 hg3)
          have HF3 := Lib.hid ((HF.out.grown hg3 hlt).wide (Nat.le_refl _) hg3.size)
          clear hc3 hg3 HD HF
          have hw : IntKind.i64.wrap (15 + d) = 15 + d := Go.IntWalk.i64_in _ (by omega)
          by_cases hq : (k : Int) < 15 + d
          · have hO : w3.ownsRow w.heap.size 36 3 v k ((t.map fnC).flatten) := by
              have := HF3.out.1.1
              rw [List.length_map, htk] at this
              exact this
            have hlt2 : decide ((k : Int) < 15 + d) = true := decide_eq_true hq
            have HOK := Lib.hid HD3.out.out.2.1
            have hl3 := HD3.out.cur.lt
            go_wp2_with (first | (at_builtin; refine wpList_append_own _ rfl _ _ 24 rfl w.heap.size 36 i0 (.agg #[.int .i64 0, .int .i64 0, .string ⟨#[]⟩]) 3 32 Try.underlying24 hi hz0 hz1 hz2 rfl (by decide) v k ((t.map fnC).flatten) rfl (hO.alloc _) ⟨w3.heap.size, 0, none⟩ 1 1 [.int .i64 ((k : Int) + 1), .int .i64 (k : Int), .string ⟨#[97]⟩] rfl rfl (cells3_new' _ _ _ _ _ rfl) (by simp [Value.oneCell']) (by unfold maxLen; omega) (by omega) (by simp; have := HD3.out.gr.size; omega) ?_; intro v' w4 hown' hgrow _))
            have HX : Hid (FnsO w.heap.size w4.heap.size w4 v' (t ++ [⟨(k : Int) + 1, (k : Int), ⟨#[97]⟩⟩])) := Lib.hid (FnsO.of_row (n := k + 1) (by
              have e : ((t ++ [(⟨(k : Int) + 1, (k : Int), ⟨#[97]⟩⟩ : Fn)]).map fnC).flatten = ((t.map fnC).flatten ++ [.int .i64 ((k : Int) + 1), .int .i64 (k : Int), .string ⟨#[97]⟩] : List Value) := by
                rw [List.map_append, List.flatten_append]
                simp [fnC]
              rw [e]; exact hown') (by simp [htk]) (fun f hf => by
              rcases List.mem_append.1 hf with h | h
              · exact HOK.out f h
              · rw [List.mem_singleton.1 h]; exact lit_ok k (by omega)))
            have hb4 : Below (B + 1) w3 w4 := Below.grown (Below.alloc (Below.refl (B + 1) w3) hl3 _) hgrow (by simp; omega) (fun kk hk => by have := (hO.lt kk hk).1; omega)
            have hb5 : w.grownBy w4 (some B) := gr_app HD3.out.gr hgrow (fun kk hk => (hO.lt kk hk).1)
            have HE : Hid (Dr w w4 B (M + 2 + 2 * k + 2) v' (t ++ [⟨(k : Int) + 1, (k : Int), ⟨#[97]⟩⟩])) := Lib.hid ⟨HD3.out.cur.later hb4, HX.out.wide hlt (Nat.le_refl _), hb5⟩
            clear hown' hgrow hO hb4 hb5 HD3 HF3 HOK
            go_wp2_with fail
            go_roundw
            case rel => exact ⟨v', k + 1, t ++ [⟨(k : Int) + 1, (k : Int), ⟨#[97]⟩⟩], by omega, by go_num, rfl, by simp [htk], HX, Lib.hid ⟨HE.out.cur.le_K (by omega), HE.out.out, HE.out.gr⟩⟩
            case measure => simp [intOf]; omega
          · have hlt2 : decide ((k : Int) < 15 + d) = false := decide_eq_false hq
            go_wp2_with fail
            go_ret
            exact ⟨_, t, rfl, by omega, (by obtain ⟨g, c, hg⟩ := own_form3 HD3.out.out.1.1 (by rw [List.length_map]; omega); exact ⟨_, c, by rw [List.length_map] at hg; exact hg⟩), HD3.out.cur.le_K (by omega), HD3.out.out, HD3.out.gr⟩
end Go.Proofs.Ytpbjddiopfkgbaa
