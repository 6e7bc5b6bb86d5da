/- BytesNe, ArgBytes, ReadV, DrawPe, PerS2, DrawHe, DrawDu, FnDueL, in one text. -/
import Derived.Test.YtnfcfinecjgakaaRowOf
import Derived.Test.YtnfcfinecjgakaaArg
import Derived.Test.YtnfcfinecjgakaaInts
import Derived.Test.YtnfcfinecjgakaaPick
import Derived.BigQuiet
import Derived.Lib.QuietBelow
import Derived.Test.YtnfcfinecjgakaaDrawRe
import Derived.Test.YtnfcfinecjgakaaDrawSu
import Derived.Test.YtnfcfinecjgakaaPerS
import Derived.Test.YtnfcfinecjgakaaAreRec
import Derived.Test.YtnfcfinecjgakaaRecs
import Derived.Test.YtnfcfinecjgakaaDayI
import Derived.Test.YtnfcfinecjgakaaInSer1
import Derived.Test.YtnfcfinecjgakaaAddS
import Derived.Deep.RegionHeld3
import Derived.Test.YtnfcfinecjgakaaRuCells
import Derived.Maps.AppendAt
import Derived.Test.YtnfcfinecjgakaaPerDPI
import Derived.Test.YtnfcfinecjgakaaFrame
import Derived.Deep.DeepCutAuto
namespace Go.Proofs.Ytnfcfinecjgakaa
set_option linter.unusedVariables false
open Go.RowKit

theorem beq_bytes_ne {a b : ByteArray} (h : ¬ a = b) : (a.toList == b.toList) = false := by
  rw [beq_eq_false_iff_ne]
  intro e
  rw [ByteArray.toList_eq, ByteArray.toList_eq] at e
  exact h (ByteArray.ext (Array.ext' e))

end Go.Proofs.Ytnfcfinecjgakaa

namespace Go.Proofs.Ytnfcfinecjgakaa
set_option linter.unusedVariables false
set_option maxRecDepth 20000
open Go.RowKit Go.ChangeShapes Go.WideShapes Go.Deep

structure By8 where
  a : Option Addr
  len : Nat
  cap : Nat
  zs : List Int
def ByV (w : World) (v : Value) (x : By8) : Prop := v = .slice x.a x.len x.cap ∧ IsRow .u8 w x.a x.len x.cap x.zs
section
variable {H : Type} {enc : TypeId × Value → H} {w : World} {base b0 : Nat} {held : Bool} {r : Reach} {v : Value} {d : DataW H} {p : List MemPlace}
theorem arg_code (hv : Value.okWide Try.prog w r b0 22 v) (h : DataW.Trod enc Try.prog w base (fun _ => true) held 22 v d p) : ∃ x, ByV w v x := by
  obtain ⟨a0, len0, cap0, rfl⟩ := okWide_slice Try.underlying22 hv
  obtain ⟨fuel, hf⟩ := h
  rcases open_ints Try.underlying22 Try.underlying5 (by kernel_rfl) hf with ⟨hcs, _⟩ | ⟨x, l, c, zs, hcs, _, hl, hm, hz, _, hcell, hwz⟩
  · simp [Value.cells] at hcs
    obtain ⟨rfl, rfl, rfl⟩ := hcs
    exact ⟨⟨none, 0, 0, []⟩, rfl, .inl ⟨rfl, rfl, rfl, rfl⟩⟩
  · simp [Value.cells] at hcs
    obtain ⟨rfl, rfl, rfl⟩ := hcs
    exact ⟨⟨some x, len0, cap0, zs⟩, rfl, .inr ⟨_, rfl, hl, hm, by simpa using hz, hcell, hwz⟩⟩
end
end Go.Proofs.Ytnfcfinecjgakaa

namespace Go.Proofs.Ytnfcfinecjgakaa
set_option linter.unusedVariables false
open Go.RowKit Go.Sort

theorem vHas_any (v : Value) (xs : List Int) (x : Int) (w : World) (h : RowOf vI w v xs) :
    Calls Try.prog 19 #[v, .int .i64 x] w fun e w' => e = .returned (.bool (decide (x ∈ xs))) ∧ Below w.heap.size w w' := by
  have hcap := h.cap
  obtain ⟨a1, c1, rfl, hl1, hm1, r1⟩ := h
  have R1 := Lib.hid r1
  clear r1
  unfold maxLen at hm1
  go_enter Try.func19, Try.ntmps19
  go_wp2
  go_loopw [5] (fun i wr => ∃ k : Nat, k ≤ xs.length ∧ i = .int .i64 k ∧ Hid (¬ x ∈ xs.take k) ∧ Below w.heap.size w wr) (fun i _ => xs.length - (intOf i).toNat)
  case atStart => exact ⟨0, Nat.zero_le _, rfl, Lib.hid (by simp), Below.refl _ _⟩
  case round =>
    obtain ⟨k, hk, rfl, HN, hb⟩ := hrel
    by_cases hlt : k < xs.length
    · obtain ⟨b1, o1, hb1, rfl, e1⟩ := R1.out.resolve_left (fun e => by rw [e] at hlt; simp at hlt)
      obtain ⟨y, hy⟩ : ∃ s, xs[k] = s := ⟨_, rfl⟩
      have f1 := (hb.cell (p := ⟨b1, o1 + k, none⟩) hb1).trans (e1 k hlt)
      rw [hy] at f1
      simp only [vI] at f1
      have HY := Lib.hid hy
      have g0 : (0 : Int) ≤ (k : Int) := by omega
      have g1 : (k : Int) < (xs.length : Int) := by omega
      clear e1 hy
      by_cases he : y = x
      · have hq : (y == x) = true := by simp [he]
        have HE : Hid (x ∈ xs) := by rw [← he, ← HY.out]; exact List.getElem_mem hlt
        clear he
        go_wp2
        go_ret
        exact ⟨ret_bool (Eq.symm (decide_eq_true HE.out)), hb⟩
      · have hq : (y == x) = false := by simp [he]
        have HE : Hid (¬ x ∈ xs.take (k + 1)) := fun h => by
          rw [List.take_succ_eq_append_getElem hlt, List.mem_append, List.mem_singleton, HY.out] at h
          exact h.elim HN.out (fun h => he h.symm)
        clear he
        go_wp2
        go_roundw
        case rel => exact ⟨k + 1, by omega, by go_num, HE, hb⟩
        case measure => simp [intOf]; omega
    · have hkl : k = xs.length := by omega
      have HE : Hid (¬ x ∈ xs) := by have := HN.out; rwa [hkl, List.take_length] at this
      clear hkl
      go_wp2
      go_ret
      exact ⟨ret_bool (Eq.symm (decide_eq_false HE.out)), hb⟩

set_option maxHeartbeats 1000000 in
theorem vInts_any (v1 v2 : Value) (xs ys : List Int) (w : World) (h1 : RowOf vI w v1 xs) (h2 : RowOf vI w v2 ys) :
    Calls Try.prog 11 #[v1, v2] w fun e w' => e = .returned (.bool (decide (xs = ys))) ∧ Below w.heap.size w w' := by
  have hx := h1.cap
  have hy := h2.cap
  obtain ⟨a1, c1, rfl, hl1, hm1, r1⟩ := h1
  obtain ⟨a2, c2, rfl, hl2, hm2, r2⟩ := h2
  by_cases hlen : xs.length = ys.length
  · have hLen := Lib.hid hlen
    have hne : (((xs.length : Nat) : Int) != (xs.length : Int)) = false := by simp
    rw [← hlen]
    clear hlen
    have R1 := Lib.hid r1
    have R2 := Lib.hid r2
    clear r1 r2
    go_enter Try.func11, Try.ntmps11
    go_wp2
    go_loopw [5] (fun i wr => ∃ k : Nat, k ≤ xs.length ∧ i = .int .i64 k ∧ Hid (∀ j (h : j < k) (h1 : j < xs.length) (h2 : j < ys.length), xs[j] = ys[j]) ∧ Below w.heap.size w wr) (fun i _ => xs.length - (intOf i).toNat)
    case atStart => exact ⟨0, Nat.zero_le _, rfl, Lib.hid (fun j h => by omega), Below.refl _ _⟩
    case round =>
      obtain ⟨k, hk, rfl, HJ, hb⟩ := hrel
      by_cases hlt : k < xs.length
      · obtain ⟨b1, o1, hb1, rfl, e1⟩ := R1.out.resolve_left (fun e => by rw [e] at hlt; simp at hlt)
        obtain ⟨b2, o2, hb2, rfl, e2⟩ := R2.out.resolve_left (fun e => by have := hLen.out; rw [e] at this; simp at this; rw [this] at hlt; simp at hlt)
        obtain ⟨x, hx⟩ : ∃ s, xs[k] = s := ⟨_, rfl⟩
        obtain ⟨y, hy⟩ : ∃ s, ys[k]'(by have := hLen.out; omega) = s := ⟨_, rfl⟩
        have f1 := (hb.cell (p := ⟨b1, o1 + k, none⟩) hb1).trans (e1 k hlt)
        have f2 := (hb.cell (p := ⟨b2, o2 + k, none⟩) hb2).trans (e2 k (by have := hLen.out; omega))
        rw [hx] at f1
        rw [hy] at f2
        simp only [vI] at f1 f2
        have HX := Lib.hid hx
        have HY := Lib.hid hy
        have g0 : (0 : Int) ≤ (k : Int) := by omega
        have g1 : (k : Int) < (xs.length : Int) := by omega
        clear e1 e2 hx hy
        by_cases he : x = y
        · have hq : (x != y) = false := by simp [he]
          have HE := Lib.hid he
          clear he
          go_wp2
          go_quiet (fail)
          go_wp2
          go_roundw
          case rel =>
            refine ⟨k + 1, by omega, by go_num, Lib.hid (fun j h a b => ?_), below_drewN hb _⟩
            rcases Nat.lt_or_ge j k with h' | h'
            · exact HJ.out j h' a b
            · obtain rfl : j = k := by omega
              rw [HX.out, HY.out]
              exact HE.out
          case measure => simp [intOf]; omega
        · have hq : (x != y) = true := by simp [he]
          have HE := Lib.hid he
          clear he
          go_wp2
          go_quiet (fail)
          go_wp2
          go_ret
          exact ⟨ret_bool (Eq.symm (decide_eq_false (fun e => HE.out (by subst e; exact HX.out.symm.trans HY.out)))), below_drewN hb _⟩
      · go_wp2
        go_ret
        refine ⟨ret_bool (Eq.symm (decide_eq_true ?_)), hb⟩
        exact List.ext_getElem hLen.out fun i a b => HJ.out i (by omega) a b
  · have hne : (((xs.length : Nat) : Int) != (ys.length : Int)) = true := by simp; omega
    rw [decide_eq_false (fun e => hlen (by rw [e]))]
    go_enter Try.func11, Try.ntmps11
    go_wp2
    go_ret
    exact ⟨rfl, Below.refl _ _⟩

set_option maxRecDepth 20000 in
set_option maxHeartbeats 1000000 in
theorem vBig_any (a : Option Addr) (len cap : Nat) (w : World) (b : Bool) (hb : decide ((65536 : Int) < (len : Int)) = b) (hl : len ≤ 9223372036854775807) :
    Calls Try.prog 7 #[.slice a len cap] w fun e w' => e = .returned (.bool b) ∧ w = w' := by
  have HB := Lib.hid hb
  clear hb
  go_enter Try.func7, Try.ntmps7
  go_wp2
  go_ret
  exact ⟨ret_bool HB.out, rfl⟩
theorem isRow_len {k : IntKind} {w : World} {a : Option Addr} {len cap : Nat} {zs : List Int} (h : IsRow k w a len cap zs) : len ≤ 9223372036854775807 := by
  rcases h with ⟨rfl, rfl, rfl, rfl⟩ | ⟨x, rfl, hl, hm, _⟩
  · omega
  · unfold maxLen at hm; omega
theorem vInts_same (v1 v2 : Value) (xs : List Int) (w : World) (h1 : RowOf vI w v1 xs) (h2 : RowOf vI w v2 xs) :
    Calls Try.prog 11 #[v1, v2] w fun e w' => e = .returned (.bool true) ∧ Below w.heap.size w w' :=
  (vInts_any v1 v2 xs xs w h1 h2).mono fun e w' ⟨h, b⟩ => ⟨by rw [h, decide_eq_true rfl], b⟩
end Go.Proofs.Ytnfcfinecjgakaa

namespace Go.Proofs.Ytnfcfinecjgakaa
set_option linter.unusedVariables false
open Go.RowKit Go.Sort

theorem isRow_after6 {k : IntKind} {w w' : World} {a : Option Addr} {len cap : Nat} {zs : List Int} (h : IsRow k w a len cap zs) (hb : Below w.heap.size w w') : IsRow k w' a len cap zs := by
  refine h.imp id ?_
  rintro ⟨x, rfl, hl, hm, hz, hc, hw⟩
  refine ⟨x, rfl, hl, hm, hz, fun i hi => ?_, hw⟩
  have := hc i hi
  exact (hb.cell (World.block_lt_of_cell? w _ this)).trans this
def EndsDrawn (w : World) (e : Ending) (w' : World) : Prop := ∃ (r : Rec) (g c : Nat) (v : Value) (t : List Ru), e = .returned (.tuple #[.agg #[.int .i64 r.id, .int .i64 r.series, .int .i64 r.made, .slice (some ⟨g, 0, none⟩) r.evs.length c], v]) ∧ r.ok ∧ r.evs.length ≤ 8 ∧
  EvsO w.heap.size w'.heap.size w' (.slice (some ⟨g, 0, none⟩) r.evs.length c) r.evs ∧ t.length ≤ 16 ∧ RusO w.heap.size w'.heap.size w' v t ∧ Below w.heap.size w w'
set_option maxRecDepth 20000 in
set_option maxHeartbeats 4000000 in
theorem drawEndsOf_any (a : Option Addr) (len cap : Nat) (zs : List Int) (w : World) (h : IsRow .u8 w a len cap zs) (hl : len ≤ 1099511627776) :
    Calls Try.prog 8 #[.slice a len cap] w (EndsDrawn w) := by
  obtain ⟨R, hR⟩ : ∃ R, w.heap.size = R := ⟨_, rfl⟩
  obtain ⟨B, hB⟩ : ∃ B, R + 1 = B := ⟨_, rfl⟩
  have hRB : R < B := by omega
  have hwR : w.heap.size ≤ R := by omega
  have hs0 : (w.alloc (.cells #[.int .i64 0, .int .i64 0, .int .i64 0, .slice none 0 0] 26 (0, 0))).heap.size = B := by simp; omega
  have hs1 : ((w.alloc (.cells #[.int .i64 0, .int .i64 0, .int .i64 0, .slice none 0 0] 26 (0, 0))).alloc (.cells #[.slice a len cap, .int .i64 0, .int .u64 0] 94 (0, 0))).heap.size = B + 1 := by simp; omega
  have hcur := cur_new (isRow_after6 h (below_al (Below.refl _ _) (.cells #[.int .i64 0, .int .i64 0, .int .i64 0, .slice none 0 0] 26 (0, 0)))) hl 94
  rw [hs0] at hcur
  have HD0 : Hid (Dk w ((w.alloc (.cells #[.int .i64 0, .int .i64 0, .int .i64 0, .slice none 0 0] 26 (0, 0))).alloc (.cells #[.slice a len cap, .int .i64 0, .int .u64 0] 94 (0, 0))) B 0) := Lib.hid ⟨hcur, grownBy_of_below (below_al (below_al (Below.refl _ _) _) _) _⟩
  have HR0 : Hid (BxV ((w.alloc (.cells #[.int .i64 0, .int .i64 0, .int .i64 0, .slice none 0 0] 26 (0, 0))).alloc (.cells #[.slice a len cap, .int .i64 0, .int .u64 0] 94 (0, 0))) R [.int .i64 0, .int .i64 0, .int .i64 0, .slice none 0 0]) := Lib.hid ((BxV.new' hR _ _).al _)
  have HS1 := Lib.hid hs1
  have HS0 := Lib.hid hs0
  clear h hcur hs0 hs1
  have HRE := Lib.hid hR
  have HBE := Lib.hid hB
  clear hR hB
  go_enter Try.func8, Try.ntmps8
  go_upto_region 2 with fail
  try rw [HRE.out]
  try rw [HBE.out]
  generalize hW1 : (w.alloc (.cells #[.int .i64 0, .int .i64 0, .int .i64 0, .slice none 0 0] 26 (0, 0))).alloc (.cells #[.slice a len cap, .int .i64 0, .int .u64 0] 94 (0, 0)) = W1 at *
  have HW1 := Lib.hid hW1
  clear hW1
  go_wp2_with fail
  refine (record_any B 0 12 _ HD0.out.cur (by omega) (by unfold inI; omega)).mono ?_
  rintro e w2 ⟨⟨id, se, ma, xs⟩, g, c, rfl, hok, hma, hxl, he, hc, hg⟩
  rw [HS1.out] at he
  (try dsimp only at hok hma hxl he)
  (try dsimp only)
  obtain ⟨iid, ise, ima⟩ := hok
  have HD2 := Lib.hid (HD0.out.step hc hg)
  have HR2 := Lib.hid (HR0.out.grown hg (by simp; omega))
  have HE2 := Lib.hid he
  have hB2 : B < w2.heap.size := hc.lt
  clear hc hg he HD0 HR0
  obtain ⟨F, hF⟩ : ∃ F, w2.heap.size = F := ⟨_, rfl⟩
  have hBF : B < F := by omega
  have HB3 : Hid (BxV (w2.alloc (.cells #[.int .i64 id, .int .i64 se, .int .i64 ma, .slice (some ⟨g, 0, none⟩) xs.length c] 26 (0, 0))) F [.int .i64 id, .int .i64 se, .int .i64 ma, .slice (some ⟨g, 0, none⟩) xs.length c]) := Lib.hid (BxV.new' hF _ _)
  have HD3 := Lib.hid (HD2.out.al (.cells #[.int .i64 id, .int .i64 se, .int .i64 ma, .slice (some ⟨g, 0, none⟩) xs.length c] 26 (0, 0)))
  have HR3 := Lib.hid (HR2.out.al (.cells #[.int .i64 id, .int .i64 se, .int .i64 ma, .slice (some ⟨g, 0, none⟩) xs.length c] 26 (0, 0)))
  have HE3 : Hid (EvsO (B + 1) F (w2.alloc (.cells #[.int .i64 id, .int .i64 se, .int .i64 ma, .slice (some ⟨g, 0, none⟩) xs.length c] 26 (0, 0))) (.slice (some ⟨g, 0, none⟩) xs.length c) xs) := Lib.hid (by have := HE2.out.alloc (.cells #[.int .i64 id, .int .i64 se, .int .i64 ma, .slice (some ⟨g, 0, none⟩) xs.length c] 26 (0, 0)); rwa [hF] at this)
  go_upto_region 3 with fail
  try rw [hF]
  have HFE := Lib.hid hF
  clear hF HD2 HR2 HE2 hB2
  generalize hW3 : w2.alloc (.cells #[.int .i64 id, .int .i64 se, .int .i64 ma, .slice (some ⟨g, 0, none⟩) xs.length c] 26 (0, 0)) = W3 at *
  have HW3 := Lib.hid hW3
  clear hW3
  have c0 := HB3.out.cell 0
  have c1 := HB3.out.cell 1
  have c2 := HB3.out.cell 2
  have c3 := HB3.out.cell 3
  simp at c0 c1 c2 c3
  go_region_held3 (fun w' => w'.cell? ⟨F, 0, none⟩ = some (.int .i64 id) ∧ w'.cell? ⟨F, 1, none⟩ = some (.int .i64 se) ∧ w'.cell? ⟨F, 2, none⟩ = some (.int .i64 ma) ∧ w'.cell? ⟨F, 3, none⟩ = some (.slice (some ⟨g, 0, none⟩) xs.length c)) (first | with_reducible exact ⟨c0, c1, c2, c3⟩ | with_reducible exact ⟨cell_drew c0, cell_drew c1, cell_drew c2, cell_drew c3⟩ | (refine ⟨?_, ?_, ?_, ?_⟩ <;> (repeat rw [World.cell?_setCell_far _ _ _ _ (by simp; omega)]) <;> first | assumption | go_keep)) (first | (go_at_call 66; refine (suited_any B 60 (B + 1) F id se ma g c xs _ HD3.out.drew.cur (by omega) (HE3.out.below (Below.refl _ _).drew) (by omega) (by have := HB3.out.lt; show F ≤ W3.heap.size; omega) ise (by omega)).mono ?_; rintro e w4 ⟨v, t, rfl, htl, hr, hc, hg⟩; have HD4 := Lib.hid (HD3.out.drew.step hc hg); have HR4 := Lib.hid (HR3.out.drew.grown hg (by simp; omega)); have HB4 := Lib.hid (HB3.out.drew.grown hg (by simp; omega)); have HE4 := Lib.hid ((HE3.out.below (Below.refl _ _).drew).grown hg (by omega)); have HU4 := Lib.hid hr; replace c0 := HB4.out.cell 0; replace c1 := HB4.out.cell 1; replace c2 := HB4.out.cell 2; replace c3 := HB4.out.cell 3; simp at c0 c1 c2 c3; have r0 := HR4.out.cell 0; have r1 := HR4.out.cell 1; have r2 := HR4.out.cell 2; have r3 := HR4.out.cell 3; simp at r0 r1 r2 r3; have q0 := HR4.out.frozen 0; have q1 := HR4.out.frozen 1; have q2 := HR4.out.frozen 2; have q3 := HR4.out.frozen 3; have hs4 := hg.size; clear hc hg hr))
  all_goals
    go_wp2_with fail
    refine bodyPost_ret (v := .tuple #[.agg #[.int .i64 id, .int .i64 se, .int .i64 ma, .slice (some ⟨g, 0, none⟩) xs.length c], v]) (by simp [results, Try.results8, go_sem, r0, r1, r2, r3]) rfl ?_
    have hne : ∀ k, Value.ownBlock (.slice (some ⟨g, 0, none⟩) xs.length c) = some k → k ≠ R := fun k hk => by have := HE4.out.1.ge g rfl; simp [Value.ownBlock] at hk; omega
    have hE := (((HE4.out.setOther (G := R) (j := 0) (x := .int .i64 id) hne).setOther (G := R) (j := 1) (x := .int .i64 se) hne).setOther (G := R) (j := 2) (x := .int .i64 ma) hne).setOther (G := R) (j := 3) (x := .slice (some ⟨g, 0, none⟩) xs.length c) hne
    have hnu : ∀ k, Value.ownBlock v = some k → k ≠ R := fun k hk => by have := HU4.out.1.ge k hk; have := HB3.out.lt; have : F < W3.drew.heap.size := HB3.out.lt; omega
    have hU := (((HU4.out.setOther (G := R) (j := 0) (x := .int .i64 id) hnu).setOther (G := R) (j := 1) (x := .int .i64 se) hnu).setOther (G := R) (j := 2) (x := .int .i64 ma) hnu).setOther (G := R) (j := 3) (x := .slice (some ⟨g, 0, none⟩) xs.length c) hnu
    have hb4 : Below w.heap.size w w4 := below_of_grownBy HD4.out.gr (Nat.le_refl _) (fun k e => by cases e; omega)
    have hb := (((hb4.setCell (p := ⟨R, 0, none⟩) hwR (.int .i64 id)).setCell (p := ⟨R, 1, none⟩) hwR (.int .i64 se)).setCell (p := ⟨R, 2, none⟩) hwR (.int .i64 ma)).setCell (p := ⟨R, 3, none⟩) hwR (.slice (some ⟨g, 0, none⟩) xs.length c)
    exact ⟨⟨id, se, ma, xs⟩, g, c, v, t, rfl, ⟨iid, ise, ima⟩, hxl, hE.wide (by omega) (by have : F < W3.drew.heap.size := HB3.out.lt; simp; omega), htl, hU.wide (by have := HD3.out.sz; show w.heap.size ≤ W3.heap.size; omega) (by simp), hb⟩
def AftDrawn (w : World) (e : Ending) (w' : World) : Prop := ∃ (r : Rec) (g c : Nat) (v : Value) (t : List Ru) (u : Ev), e = .returned (.tuple #[.agg #[.int .i64 r.id, .int .i64 r.series, .int .i64 r.made, .slice (some ⟨g, 0, none⟩) r.evs.length c], v, .agg #[.int .i64 u.kind, .int .i64 u.day]]) ∧ r.ok ∧ r.evs.length ≤ 8 ∧
  EvsO w.heap.size w'.heap.size w' (.slice (some ⟨g, 0, none⟩) r.evs.length c) r.evs ∧ t.length ≤ 16 ∧ RusO w.heap.size w'.heap.size w' v t ∧ u.ok ∧ Below w.heap.size w w'
set_option maxRecDepth 20000 in
set_option maxHeartbeats 4000000 in
theorem drawDueAfter_any (a : Option Addr) (len cap : Nat) (zs : List Int) (w : World) (h : IsRow .u8 w a len cap zs) (hl : len ≤ 1099511627776) :
    Calls Try.prog 20 #[.slice a len cap] w (AftDrawn w) := by
  obtain ⟨R, hR⟩ : ∃ R, w.heap.size = R := ⟨_, rfl⟩
  obtain ⟨Q, hQ⟩ : ∃ Q, R + 1 = Q := ⟨_, rfl⟩
  obtain ⟨B, hB⟩ : ∃ B, Q + 1 = B := ⟨_, rfl⟩
  have hRQ : R < Q := by omega
  have hQB : Q < B := by omega
  have hwR : w.heap.size ≤ R := by omega
  have hwQ : w.heap.size ≤ Q := by omega
  have hsq : (w.alloc (.cells #[.int .i64 0, .int .i64 0, .int .i64 0, .slice none 0 0] 26 (0, 0))).heap.size = Q := by simp; omega
  have hs0 : ((w.alloc (.cells #[.int .i64 0, .int .i64 0, .int .i64 0, .slice none 0 0] 26 (0, 0))).alloc (.cells #[.int .i64 0, .int .i64 0] 43 (0, 0))).heap.size = B := by simp; omega
  have hs1 : (((w.alloc (.cells #[.int .i64 0, .int .i64 0, .int .i64 0, .slice none 0 0] 26 (0, 0))).alloc (.cells #[.int .i64 0, .int .i64 0] 43 (0, 0))).alloc (.cells #[.slice a len cap, .int .i64 0, .int .u64 0] 94 (0, 0))).heap.size = B + 1 := by simp; omega
  have hcur := cur_new (isRow_after6 h (below_al (below_al (Below.refl _ _) (.cells #[.int .i64 0, .int .i64 0, .int .i64 0, .slice none 0 0] 26 (0, 0))) (.cells #[.int .i64 0, .int .i64 0] 43 (0, 0)))) hl 94
  rw [hs0] at hcur
  have HD0 : Hid (Dk w (((w.alloc (.cells #[.int .i64 0, .int .i64 0, .int .i64 0, .slice none 0 0] 26 (0, 0))).alloc (.cells #[.int .i64 0, .int .i64 0] 43 (0, 0))).alloc (.cells #[.slice a len cap, .int .i64 0, .int .u64 0] 94 (0, 0))) B 0) := Lib.hid ⟨hcur, grownBy_of_below (below_al (below_al (below_al (Below.refl _ _) _) _) _) _⟩
  have HR0 : Hid (BxV (((w.alloc (.cells #[.int .i64 0, .int .i64 0, .int .i64 0, .slice none 0 0] 26 (0, 0))).alloc (.cells #[.int .i64 0, .int .i64 0] 43 (0, 0))).alloc (.cells #[.slice a len cap, .int .i64 0, .int .u64 0] 94 (0, 0))) R [.int .i64 0, .int .i64 0, .int .i64 0, .slice none 0 0]) := Lib.hid (((BxV.new' hR _ _).al _).al _)
  have HQ0 : Hid (BxV (((w.alloc (.cells #[.int .i64 0, .int .i64 0, .int .i64 0, .slice none 0 0] 26 (0, 0))).alloc (.cells #[.int .i64 0, .int .i64 0] 43 (0, 0))).alloc (.cells #[.slice a len cap, .int .i64 0, .int .u64 0] 94 (0, 0))) Q [.int .i64 0, .int .i64 0]) := Lib.hid ((BxV.new' hsq _ _).al _)
  have HS1 := Lib.hid hs1
  have HS0 := Lib.hid hs0
  clear h hcur hs0 hs1 hsq
  have HRE := Lib.hid hR
  have HQE := Lib.hid hQ
  have HBE := Lib.hid hB
  clear hR hB hQ
  go_enter Try.func20, Try.ntmps20
  go_upto_region 2 with fail
  try rw [HRE.out]
  try rw [HQE.out]
  try rw [HBE.out]
  generalize hW1 : ((w.alloc (.cells #[.int .i64 0, .int .i64 0, .int .i64 0, .slice none 0 0] 26 (0, 0))).alloc (.cells #[.int .i64 0, .int .i64 0] 43 (0, 0))).alloc (.cells #[.slice a len cap, .int .i64 0, .int .u64 0] 94 (0, 0)) = W1 at *
  have HW1 := Lib.hid hW1
  clear hW1
  go_wp2_with fail
  refine (record_any B 0 12 _ HD0.out.cur (by omega) (by unfold inI; omega)).mono ?_
  rintro e w2 ⟨⟨id, se, ma, xs⟩, g, c, rfl, hok, hma, hxl, he, hc, hg⟩
  rw [HS1.out] at he
  (try dsimp only at hok hma hxl he)
  (try dsimp only)
  obtain ⟨iid, ise, ima⟩ := hok
  have HD2 := Lib.hid (HD0.out.step hc hg)
  have HR2 := Lib.hid (HR0.out.grown hg (by simp; omega))
  have HE2 := Lib.hid he
  have hB2 : B < w2.heap.size := hc.lt
  have HQ2 := Lib.hid (HQ0.out.grown hg (by simp; omega))
  clear hc hg he HD0 HR0 HQ0
  obtain ⟨F, hF⟩ : ∃ F, w2.heap.size = F := ⟨_, rfl⟩
  have hBF : B < F := by omega
  have HB3 : Hid (BxV (w2.alloc (.cells #[.int .i64 id, .int .i64 se, .int .i64 ma, .slice (some ⟨g, 0, none⟩) xs.length c] 26 (0, 0))) F [.int .i64 id, .int .i64 se, .int .i64 ma, .slice (some ⟨g, 0, none⟩) xs.length c]) := Lib.hid (BxV.new' hF _ _)
  have HD3 := Lib.hid (HD2.out.al (.cells #[.int .i64 id, .int .i64 se, .int .i64 ma, .slice (some ⟨g, 0, none⟩) xs.length c] 26 (0, 0)))
  have HR3 := Lib.hid (HR2.out.al (.cells #[.int .i64 id, .int .i64 se, .int .i64 ma, .slice (some ⟨g, 0, none⟩) xs.length c] 26 (0, 0)))
  have HQ3 := Lib.hid (HQ2.out.al (.cells #[.int .i64 id, .int .i64 se, .int .i64 ma, .slice (some ⟨g, 0, none⟩) xs.length c] 26 (0, 0)))
  have HE3 : Hid (EvsO (B + 1) F (w2.alloc (.cells #[.int .i64 id, .int .i64 se, .int .i64 ma, .slice (some ⟨g, 0, none⟩) xs.length c] 26 (0, 0))) (.slice (some ⟨g, 0, none⟩) xs.length c) xs) := Lib.hid (by have := HE2.out.alloc (.cells #[.int .i64 id, .int .i64 se, .int .i64 ma, .slice (some ⟨g, 0, none⟩) xs.length c] 26 (0, 0)); rwa [hF] at this)
  go_upto_region 3 with fail
  try rw [hF]
  have HFE := Lib.hid hF
  clear hF HD2 HR2 HE2 hB2 HQ2
  generalize hW3 : w2.alloc (.cells #[.int .i64 id, .int .i64 se, .int .i64 ma, .slice (some ⟨g, 0, none⟩) xs.length c] 26 (0, 0)) = W3 at *
  have HW3 := Lib.hid hW3
  clear hW3
  have c0 := HB3.out.cell 0
  have c1 := HB3.out.cell 1
  have c2 := HB3.out.cell 2
  have c3 := HB3.out.cell 3
  simp at c0 c1 c2 c3
  go_wp2_with fail
  refine (suited_any B 60 (B + 1) F id se ma g c xs _ HD3.out.cur (by omega) HE3.out (by omega) (by have := HB3.out.lt; omega) ise (by omega)).mono ?_
  rintro e w4 ⟨v, t, rfl, htl, hr, hc, hg⟩
  have HD4 := Lib.hid (HD3.out.step hc hg)
  have HR4 := Lib.hid (HR3.out.grown hg (by simp; omega))
  have HQ4 := Lib.hid (HQ3.out.grown hg (by simp; omega))
  have HB4 := Lib.hid (HB3.out.grown hg (by simp; omega))
  have HE4 := Lib.hid (HE3.out.grown hg (by omega))
  have HU4 : Hid (RusO F w4.heap.size w4 v t) := Lib.hid (hr.wide (by have := HB3.out.lt; omega) (Nat.le_refl _))
  have hs4 := hg.size
  have hs3 := HB3.out.lt
  replace c0 := HB4.out.cell 0
  replace c1 := HB4.out.cell 1
  replace c2 := HB4.out.cell 2
  replace c3 := HB4.out.cell 3
  simp at c0 c1 c2 c3
  clear hc hg hr HD3 HR3 HQ3 HB3 HE3
  go_upto_region 4 with fail
  go_region_held3 (fun w' => w'.cell? ⟨F, 0, none⟩ = some (.int .i64 id) ∧ w'.cell? ⟨F, 1, none⟩ = some (.int .i64 se) ∧ w'.cell? ⟨F, 2, none⟩ = some (.int .i64 ma) ∧ w'.cell? ⟨F, 3, none⟩ = some (.slice (some ⟨g, 0, none⟩) xs.length c)) (first | with_reducible exact ⟨c0, c1, c2, c3⟩ | with_reducible exact ⟨cell_drew c0, cell_drew c1, cell_drew c2, cell_drew c3⟩ | (refine ⟨?_, ?_, ?_, ?_⟩ <;> (repeat rw [World.cell?_setCell_far _ _ _ _ (by simp; omega)]) <;> first | assumption | go_keep)) (first | (go_at_call 75; refine (event_any B 560 ma _ HD4.out.drew.cur (by omega) (by omega)).mono ?_; rintro e w5 ⟨⟨uk, ud⟩, rfl, huo, hc, hg⟩; have HD5 := Lib.hid (HD4.out.drew.step hc hg); have HR5 := Lib.hid (HR4.out.drew.grown hg (by simp; omega)); have HQ5 := Lib.hid (HQ4.out.drew.grown hg (by simp; omega)); have HB5 := Lib.hid (HB4.out.drew.grown hg (by simp; omega)); have HE5 := Lib.hid ((HE4.out.below (Below.refl _ _).drew).grown hg (by omega)); have HU5 := Lib.hid ((HU4.out.below (Below.refl _ _).drew).grown hg (by omega)); have HO5 := Lib.hid huo; replace c0 := HB5.out.cell 0; replace c1 := HB5.out.cell 1; replace c2 := HB5.out.cell 2; replace c3 := HB5.out.cell 3; simp at c0 c1 c2 c3; have r0 := HR5.out.cell 0; have r1 := HR5.out.cell 1; have r2 := HR5.out.cell 2; have r3 := HR5.out.cell 3; simp at r0 r1 r2 r3; have q0 := HR5.out.frozen 0; have q1 := HR5.out.frozen 1; have q2 := HR5.out.frozen 2; have q3 := HR5.out.frozen 3; have s0 := HQ5.out.cell 0; have s1 := HQ5.out.cell 1; simp at s0 s1; have p0 := HQ5.out.frozen 0; have p1 := HQ5.out.frozen 1; have hs5 := hg.size; clear hc hg huo))
  all_goals
    go_wp2_with fail
    refine bodyPost_ret (v := .tuple #[.agg #[.int .i64 id, .int .i64 se, .int .i64 ma, .slice (some ⟨g, 0, none⟩) xs.length c], v, .agg #[.int .i64 uk, .int .i64 ud]]) (by simp [results, Try.results20, go_sem, r0, r1, r2, r3, s0, s1]) rfl ?_
    have hne : ∀ k, Value.ownBlock (.slice (some ⟨g, 0, none⟩) xs.length c) = some k → k ≠ R := fun k hk => by have := HE5.out.1.ge g rfl; simp [Value.ownBlock] at hk; omega
    have hne2 : ∀ k, Value.ownBlock (.slice (some ⟨g, 0, none⟩) xs.length c) = some k → k ≠ Q := fun k hk => by have := HE5.out.1.ge g rfl; simp [Value.ownBlock] at hk; omega
    have hnu : ∀ k, Value.ownBlock v = some k → k ≠ R := fun k hk => by have := HU5.out.1.ge k hk; omega
    have hnu2 : ∀ k, Value.ownBlock v = some k → k ≠ Q := fun k hk => by have := HU5.out.1.ge k hk; omega
    have hE := ((((((HE5.out.setOther (G := R) (j := 0) (x := .int .i64 id) hne).setOther (G := R) (j := 1) (x := .int .i64 se) hne).setOther (G := R) (j := 2) (x := .int .i64 ma) hne).setOther (G := R) (j := 3) (x := .slice (some ⟨g, 0, none⟩) xs.length c) hne).setOther (G := Q) (j := 0) (x := .int .i64 uk) hne2).setOther (G := Q) (j := 1) (x := .int .i64 ud) hne2)
    have hU := ((((((HU5.out.setOther (G := R) (j := 0) (x := .int .i64 id) hnu).setOther (G := R) (j := 1) (x := .int .i64 se) hnu).setOther (G := R) (j := 2) (x := .int .i64 ma) hnu).setOther (G := R) (j := 3) (x := .slice (some ⟨g, 0, none⟩) xs.length c) hnu).setOther (G := Q) (j := 0) (x := .int .i64 uk) hnu2).setOther (G := Q) (j := 1) (x := .int .i64 ud) hnu2)
    have hb5 : Below w.heap.size w w5 := below_of_grownBy HD5.out.gr (Nat.le_refl _) (fun k e => by cases e; omega)
    have hb := (((((hb5.setCell (p := ⟨R, 0, none⟩) hwR (.int .i64 id)).setCell (p := ⟨R, 1, none⟩) hwR (.int .i64 se)).setCell (p := ⟨R, 2, none⟩) hwR (.int .i64 ma)).setCell (p := ⟨R, 3, none⟩) hwR (.slice (some ⟨g, 0, none⟩) xs.length c)).setCell (p := ⟨Q, 0, none⟩) hwQ (.int .i64 uk)).setCell (p := ⟨Q, 1, none⟩) hwQ (.int .i64 ud)
    have hs5' : w4.heap.size ≤ w5.heap.size := hs5
    exact ⟨⟨id, se, ma, xs⟩, g, c, v, t, ⟨uk, ud⟩, rfl, ⟨iid, ise, ima⟩, hxl, hE.wide (by omega) (by simp; omega), htl, hU.wide (by omega) (by simp; omega), HO5.out, hb⟩
end Go.Proofs.Ytnfcfinecjgakaa

namespace Go.Proofs.Ytnfcfinecjgakaa
set_option linter.unusedVariables false
open Go.RowKit Go.Sort

theorem ints_rowS {lo n : Nat} {w : World} {v : Value} {xs : List Int} (h : w.ownsRow lo 3 1 v n (xs.map vI)) (hn : n = xs.length) : IntsO lo w.heap.size w v xs := ⟨by rw [← hn]; exact h, fun g hg => (h.lt g hg).2⟩
theorem ints_new (w : World) : IntsO w.heap.size (w.alloc (.cells #[] 3 (0, 0))).heap.size (w.alloc (.cells #[] 3 (0, 0))) (.slice (some ⟨w.heap.size, 0, none⟩) 0 0) [] := ints_rowS (World.ownsRow_made w #[] 0 (Nat.le_refl _) (Nat.zero_le _) rfl) rfl

structure OutS (g : Nat) (w2 wr : World) (o : Value) (xs : List Int) : Prop where
  own : wr.ownsRow g 3 1 o xs.length (xs.map vI)
  at_ : ∀ k, o.ownBlock = some k → k = g ∨ w2.heap.size ≤ k
  only : Only g (g + 1) w2 wr
  lt : g < w2.heap.size
theorem OutS.start {g : Nat} {w2 : World} (h : w2.ownsRow g 3 1 (.slice (some ⟨g, 0, none⟩) 0 0) 0 []) (hl : g < w2.heap.size) : OutS g w2 w2 (.slice (some ⟨g, 0, none⟩) 0 0) [] :=
  ⟨h, fun k hk => .inl (by simpa [Value.ownBlock] using hk.symm), Only.refl _ _ _, hl⟩
theorem OutS.below {g : Nat} {w2 wr w' : World} {o : Value} {xs : List Int} (h : OutS g w2 wr o xs) (hb : Below wr.heap.size wr w') : OutS g w2 w' o xs :=
  ⟨ownsRow_below h.own hb, h.at_, h.only.trans (Only.of_below hb), h.lt⟩
theorem OutS.app {g : Nat} {w2 w5 w7 : World} {o v' : Value} {xs : List Int} {x : Int} (h : OutS g w2 w5 o xs) (hown : w7.ownsRow g 3 1 v' (xs.length + 1) (xs.map vI ++ [.int .i64 x])) (hg : w5.grownBy w7 o.ownBlock) (hat : v'.ownBlock = o.ownBlock ∨ v'.ownBlock = some w5.heap.size) : OutS g w2 w7 v' (xs ++ [x]) := by
  have hs := h.only.size
  refine ⟨by simpa [vI] using hown, fun k hk => ?_, ⟨hg.os.trans h.only.os, hg.tape.trans h.only.tape, hg.output.trans h.only.output, Nat.le_trans hs hg.size, fun k hk hn => ?_⟩, h.lt⟩
  · rcases hat with e | e
    · exact h.at_ k (by rw [← e]; exact hk)
    · rw [e] at hk; cases hk; exact .inr hs
  · refine (hg.block k (by omega) (fun e => ?_)).trans (h.only.block k hk hn)
    rcases h.at_ k e.symm with h1 | h1 <;> omega
theorem OutS.cell {g b j : Nat} {w2 wr : World} {o v : Value} {xs : List Int} (h : OutS g w2 wr o xs) (hc : w2.cell? ⟨b, j, none⟩ = some v) (hb : b ≠ g) : wr.cell? ⟨b, j, none⟩ = some v :=
  (World.cell?_of_block (h.only.block b (World.block_lt_of_cell? _ _ hc) (by omega))).trans hc
theorem OutS.bel {g n : Nat} {w2 wr : World} {o : Value} {xs : List Int} (h : OutS g w2 wr o xs) (hn : n ≤ g) : Below n w2 wr := (h.only.below (Nat.le_of_lt h.lt)).mono hn

theorem specDueDay_any (v v1 : Value) (r : Rec) (t : List Ru) (w : World) (h : RecV w v r) (h1 : RowR 4 rRu w v1 t) (d : Int) (b : Bool) (hres : dueRes r t = (d, b)) :
    Calls Try.prog 13 #[v, v1] w fun e w' => e = .returned (.tuple #[.int .i64 d, .bool b]) ∧ Below w.heap.size w w' := by
  obtain ⟨s, rfl, h0, hok⟩ := h
  have HV := Lib.hid (show ∀ W, Below w.heap.size w W → RecV W (.agg #[.int .i64 r.id, .int .i64 r.series, .int .i64 r.made, s]) r from fun W hb => ⟨s, rfl, h0.below rEv_stable hb, hok⟩)
  have H1 := Lib.hid h1
  obtain ⟨ba, ha⟩ : ∃ b, askB r t = b := ⟨_, rfl⟩
  have HA := Lib.hid ha
  have b0 := below_al (Below.refl w.heap.size w) (RBOX r s 26)
  have HC0 := Lib.hid (Box4.new w r s 26)
  obtain ⟨Q, D, hdec⟩ : ∃ q d, decR r (forRu t r.series) = (q, d) := ⟨_, _, rfl⟩
  have hrf : ruleF r t = Q := by unfold ruleF; rw [hdec]
  have hdf : dueF r t = D := by unfold dueF; rw [hdec]
  have HDEC := Lib.hid hdec
  have HRF := Lib.hid hrf
  have HDF := Lib.hid hdf
  unfold dueRes at hres
  cases ba
  · rw [setF_no (.inl ha)] at hres
    obtain ⟨rfl, rfl⟩ := Prod.mk.inj hres
    clear h0 hok h1 ha hdec hrf hdf
    go_enter Try.func13, Try.ntmps13
    go_wp2_with (first | (go_at_call 68; refine (l6Asked_any _ _ r t _ (HV.out _ b0) (H1.out.below rRu_stable b0)).mono ?_; rw [HA.out]; rintro e w1 ⟨rfl, b1⟩; replace b1 := below_chain b0 b1))
    go_ret2
    exact ⟨rfl, b1⟩
  · by_cases hD : D < 0
    · rw [setF_no (.inr (by rw [hdf]; exact hD))] at hres
      obtain ⟨rfl, rfl⟩ := Prod.mk.inj hres
      clear h0 hok h1 ha hdec hrf hdf
      go_enter Try.func13, Try.ntmps13
      go_wp2_with (first | (go_at_call 68; refine (l6Asked_any _ _ r t _ (HV.out _ b0) (H1.out.below rRu_stable b0)).mono ?_; rw [HA.out]; rintro e w1 ⟨rfl, b1⟩; obtain ⟨c0, c1, c2, c3⟩ := HC0.out.kept b1; replace b1 := below_chain b0 b1) | (go_at_call 72; refine (l6Deciding_any _ _ r t _ (HV.out _ b1) (H1.out.below rRu_stable b1) (ask_iff.1 HA.out).1 (ask_iff.1 HA.out).2 _ _ HDEC.out).mono ?_; rintro e w2 ⟨rfl, b2⟩; replace b2 := below_chain b1 b2; simp only))
      go_ret2
      exact ⟨rfl, below_al b2 _⟩
    · rw [setF_yes ha (by rw [hdf]; omega), hrf, hdf] at hres
      obtain ⟨rfl, rfl⟩ := Prod.mk.inj hres
      clear h0 hok h1 ha hdec hrf hdf
      go_enter Try.func13, Try.ntmps13
      go_wp2_with (first | (go_at_call 68; refine (l6Asked_any _ _ r t _ (HV.out _ b0) (H1.out.below rRu_stable b0)).mono ?_; rw [HA.out]; rintro e w1 ⟨rfl, b1⟩; obtain ⟨c0, c1, c2, c3⟩ := HC0.out.kept b1; replace b1 := below_chain b0 b1) | (go_at_call 72; refine (l6Deciding_any _ _ r t _ (HV.out _ b1) (H1.out.below rRu_stable b1) (ask_iff.1 HA.out).1 (ask_iff.1 HA.out).2 _ _ HDEC.out).mono ?_; rintro e w2 ⟨rfl, b2⟩; replace b2 := below_chain b1 b2; simp only))
      go_ret2
      exact ⟨rfl, below_al b2 _⟩

theorem specDecidingRule_any (v v1 : Value) (r : Rec) (t : List Ru) (w : World) (h : RecV w v r) (h1 : RowR 4 rRu w v1 t) (q : Ru) (b : Bool) (hres : decRes r t = (q, b)) :
    Calls Try.prog 17 #[v, v1] w fun e w' => e = .returned (.tuple #[.agg #[.int .i64 q.series, .int .i64 q.event, .int .i64 q.days, .int .i64 q.act], .bool b]) ∧ Below w.heap.size w w' := by
  obtain ⟨s, rfl, h0, hok⟩ := h
  have HV := Lib.hid (show ∀ W, Below w.heap.size w W → RecV W (.agg #[.int .i64 r.id, .int .i64 r.series, .int .i64 r.made, s]) r from fun W hb => ⟨s, rfl, h0.below rEv_stable hb, hok⟩)
  have H1 := Lib.hid h1
  obtain ⟨ba, ha⟩ : ∃ b, askB r t = b := ⟨_, rfl⟩
  have HA := Lib.hid ha
  have b0 := below_al (below_al (Below.refl w.heap.size w) (RBOX r s 26)) (.cells #[.int .i64 0, .int .i64 0, .int .i64 0, .int .i64 0] 37 (0, 0))
  have HC0 : Hid (Box4 ((w.alloc (RBOX r s 26)).alloc (.cells #[.int .i64 0, .int .i64 0, .int .i64 0, .int .i64 0] 37 (0, 0))) w.heap.size r s) := Lib.hid ((Box4.new w r s 26).kept (below_al (Below.refl _ _) _))
  have HX0 : Hid (UBox ((w.alloc (RBOX r s 26)).alloc (.cells #[.int .i64 0, .int .i64 0, .int .i64 0, .int .i64 0] 37 (0, 0))) (w.heap.size + 1) ruD) := Lib.hid (by rw [← (show (w.alloc (RBOX r s 26)).heap.size = w.heap.size + 1 by simp)]; exact UBox.new (w.alloc (RBOX r s 26)) ruD 37)
  obtain ⟨Q, D, hdec⟩ : ∃ q d, decR r (forRu t r.series) = (q, d) := ⟨_, _, rfl⟩
  have hrf : ruleF r t = Q := by unfold ruleF; rw [hdec]
  have hdf : dueF r t = D := by unfold dueF; rw [hdec]
  have HDEC := Lib.hid hdec
  have HRF := Lib.hid hrf
  have HDF := Lib.hid hdf
  unfold decRes at hres
  cases ba
  · rw [setF_no (.inl ha)] at hres
    obtain ⟨rfl, rfl⟩ := Prod.mk.inj hres
    clear h0 hok h1 ha hdec hrf hdf
    go_enter Try.func17, Try.ntmps17
    go_wp2_with (first | (go_at_call 68; refine (l6Asked_any _ _ r t _ (HV.out _ b0) (H1.out.below rRu_stable b0)).mono ?_; rw [HA.out]; rintro e w1 ⟨rfl, b1⟩; have HX1 := Lib.hid (HX0.out.kept b1); obtain ⟨z0, z1, z2, z3, y0, y1, y2, y3⟩ := HX1.out; simp only [ruD] at z0 z1 z2 z3; replace b1 := below_chain b0 b1))
    refine bodyPost_ret (v := .tuple #[.agg #[.int .i64 0, .int .i64 0, .int .i64 0, .int .i64 0], .bool false]) (by simp [results, Try.results17 , go_sem, z0, z1, z2, z3]) rfl ⟨rfl, ?_⟩
    exact below_putU b1 (by omega) ruD
  · have hres2 : q = Q ∧ b = decide (0 ≤ D) := by
      by_cases hD : D < 0
      · rw [setF_no (.inr (by rw [hdf]; exact hD))] at hres
        obtain ⟨rfl, rfl⟩ := Prod.mk.inj hres
        have := decF_last (r := r) (forRu t r.series) ruD (-1)
        refine ⟨?_, (decide_eq_false (by omega)).symm⟩
        have h2 : ¬ 0 ≤ (decR r (forRu t r.series)).2 := by rw [hdec]; simp only; omega
        rw [dec_told] at h2
        rcases hus : forRu t r.series with _ | ⟨u, us⟩
        · rw [hus] at hdec
          exact (Prod.mk.inj hdec).1
        · have h3 : ∃ u ∈ forRu t r.series, endR r u < 0 := by
            rcases Classical.em (∃ u ∈ forRu t r.series, endR r u < 0) with h | h
            · exact h
            · exact absurd ⟨by rw [hus]; simp, fun u hu hl => h ⟨u, hu, hl⟩⟩ h2
          unfold decR at hdec
          rw [decF_open _ _ _ h3] at hdec
          exact (Prod.mk.inj hdec).1
      · rw [setF_yes ha (by rw [hdf]; omega), hrf, hdf] at hres
        obtain ⟨rfl, rfl⟩ := Prod.mk.inj hres
        exact ⟨rfl, (decide_eq_true (by omega)).symm⟩
    obtain ⟨rfl, rfl⟩ := hres2
    clear h0 hok h1 ha hdec hrf hdf hres
    obtain ⟨x0, x1, x2, x3⟩ := q
    go_enter Try.func17, Try.ntmps17
    go_wp2_with (first | (go_at_call 68; refine (l6Asked_any _ _ r t _ (HV.out _ b0) (H1.out.below rRu_stable b0)).mono ?_; rw [HA.out]; rintro e w1 ⟨rfl, b1⟩; obtain ⟨c0, c1, c2, c3⟩ := HC0.out.kept b1; have HX1 := Lib.hid (HX0.out.kept b1); replace b1 := below_chain b0 b1) | (go_at_call 72; refine (l6Deciding_any _ _ r t _ (HV.out _ b1) (H1.out.below rRu_stable b1) (ask_iff.1 HA.out).1 (ask_iff.1 HA.out).2 _ _ HDEC.out).mono ?_; rintro e w2 ⟨rfl, b2⟩; have HX3 := Lib.hid ((HX1.out.kept b2).al (.cells #[.int .i64 x0, .int .i64 x1, .int .i64 x2, .int .i64 x3] 37 (0, 0))); obtain ⟨z0, z1, z2, z3, y0, y1, y2, y3⟩ := HX3.out; simp only [ruD] at z0 z1 z2 z3; replace b2 := below_chain b1 b2; simp only))
    refine bodyPost_ret (v := .tuple #[.agg #[.int .i64 x0, .int .i64 x1, .int .i64 x2, .int .i64 x3], .bool (decide (0 ≤ D))]) (by simp [results, Try.results17 , go_sem, z0, z1, z2, z3]) rfl ⟨rfl, ?_⟩
    exact below_putU (below_al b2 _) (by omega) ⟨x0, x1, x2, x3⟩

theorem l6Due_any (v v1 : Value) (r : Rec) (t : List Ru) (dy : Int) (w : World) (h : RecV w v r) (h1 : RowR 4 rRu w v1 t) (ha' : askB r t = true) :
    Calls Try.prog 85 #[v, v1, .int .i64 dy] w fun e w' => e = .returned (.bool (decide (0 ≤ dueF r t ∧ dueF r t ≤ dy))) ∧ Below w.heap.size w w' := by
  obtain ⟨s, rfl, h0, hok⟩ := h
  have HV := Lib.hid (show ∀ W, Below w.heap.size w W → RecV W (.agg #[.int .i64 r.id, .int .i64 r.series, .int .i64 r.made, s]) r from fun W hb => ⟨s, rfl, h0.below rEv_stable hb, hok⟩)
  have H1 := Lib.hid h1
  obtain ⟨ba, ha⟩ : ∃ b, askB r t = b := ⟨_, rfl⟩
  have HA := Lib.hid ha
  have b1 := below_al (Below.refl w.heap.size w) (RBOX r s 26)
  obtain ⟨Q, D, hdec⟩ : ∃ q d, decR r (forRu t r.series) = (q, d) := ⟨_, _, rfl⟩
  have hrf : ruleF r t = Q := by unfold ruleF; rw [hdec]
  have hdf : dueF r t = D := by unfold dueF; rw [hdec]
  have HDEC := Lib.hid hdec
  have HRF := Lib.hid hrf
  have HDF := Lib.hid hdf
  rw [hdf]
  obtain rfl : ba = true := ha.symm.trans ha'
  clear h0 hok h1 ha hdec hrf hdf
  go_enter Try.func85, Try.ntmps85
  go_wp2_with (first | (go_at_call 72; refine (l6Deciding_any _ _ r t _ (HV.out _ b1) (H1.out.below rRu_stable b1) (ask_iff.1 HA.out).1 (ask_iff.1 HA.out).2 _ _ HDEC.out).mono ?_; rintro e w2 ⟨rfl, b2⟩; replace b2 := below_chain b1 b2; simp only) | (go_at_call 92; refine (l1In_any _ _ _ _).mono ?_; rintro e w3 ⟨rfl, h3⟩; subst w3))
  go_ret
  exact ⟨ret_bool (by first | rfl | simp), below_al b2 _⟩

theorem specIsDue_any (v v1 : Value) (r : Rec) (t : List Ru) (dy : Int) (w : World) (h : RecV w v r) (h1 : RowR 4 rRu w v1 t) (a b : Bool) (hres : isdRes r t dy = (a, b)) :
    Calls Try.prog 25 #[v, v1, .int .i64 dy] w fun e w' => e = .returned (.tuple #[.bool a, .bool b]) ∧ Below w.heap.size w w' := by
  obtain ⟨s, rfl, h0, hok⟩ := h
  have HV := Lib.hid (show ∀ W, Below w.heap.size w W → RecV W (.agg #[.int .i64 r.id, .int .i64 r.series, .int .i64 r.made, s]) r from fun W hb => ⟨s, rfl, h0.below rEv_stable hb, hok⟩)
  have H1 := Lib.hid h1
  obtain ⟨ba, ha⟩ : ∃ b, askB r t = b := ⟨_, rfl⟩
  have HA := Lib.hid ha
  have b0 := below_al (Below.refl w.heap.size w) (RBOX r s 26)
  have HC0 := Lib.hid (Box4.new w r s 26)
  obtain ⟨bd, hd⟩ : ∃ b, decide (0 ≤ dy ∧ dy ≤ 20000) = b := ⟨_, rfl⟩
  have HD := Lib.hid hd
  unfold isdRes at hres
  cases ba
  · rw [if_neg (by rw [ha]; simp)] at hres
    obtain ⟨rfl, rfl⟩ := Prod.mk.inj hres
    clear h0 hok h1 ha hd
    go_enter Try.func25, Try.ntmps25
    go_wp2_with (first | (go_at_call 68; refine (l6Asked_any _ _ r t _ (HV.out _ b0) (H1.out.below rRu_stable b0)).mono ?_; rw [HA.out]; rintro e w1 ⟨rfl, b1⟩; replace b1 := below_chain b0 b1))
    go_ret2
    exact ⟨rfl, b1⟩
  · cases bd
    · rw [if_neg (fun h => of_decide_eq_false hd h.2)] at hres
      obtain ⟨rfl, rfl⟩ := Prod.mk.inj hres
      clear h0 hok h1 ha hd
      go_enter Try.func25, Try.ntmps25
      go_wp2_with (first | (go_at_call 68; refine (l6Asked_any _ _ r t _ (HV.out _ b0) (H1.out.below rRu_stable b0)).mono ?_; rw [HA.out]; rintro e w1 ⟨rfl, b1⟩; obtain ⟨c0, c1, c2, c3⟩ := HC0.out.kept b1; replace b1 := below_chain b0 b1) | (go_at_call 79; refine (l2Day_any _ _).mono ?_; rw [HD.out]; rintro e w3 ⟨rfl, h3⟩; subst w3))
      go_ret2
      exact ⟨rfl, b1⟩
    · rw [if_pos ⟨ha, of_decide_eq_true hd⟩] at hres
      obtain ⟨hA, rfl⟩ := Prod.mk.inj hres
      have HAA := Lib.hid hA
      clear h0 hok h1 ha hd hres hA
      go_enter Try.func25, Try.ntmps25
      go_wp2_with (first | (go_at_call 68; refine (l6Asked_any _ _ r t _ (HV.out _ b0) (H1.out.below rRu_stable b0)).mono ?_; rw [HA.out]; rintro e w1 ⟨rfl, b1⟩; obtain ⟨c0, c1, c2, c3⟩ := HC0.out.kept b1; replace b1 := below_chain b0 b1) | (go_at_call 79; refine (l2Day_any _ _).mono ?_; rw [HD.out]; rintro e w3 ⟨rfl, h3⟩; subst w3) | (go_at_call 85; refine (l6Due_any _ _ r t dy _ (HV.out _ b1) (H1.out.below rRu_stable b1) HA.out).mono ?_; rw [HAA.out]; rintro e w4 ⟨rfl, b4⟩; replace b4 := below_chain b1 b4))
      go_ret2
      exact ⟨rfl, b4⟩

set_option maxRecDepth 20000 in
set_option maxHeartbeats 4000000 in
theorem specEndsOf_any (v v1 : Value) (r : Rec) (t : List Ru) (w : World) (h : RecV w v r) (h1 : RowR 4 rRu w v1 t) (xs : List Int) (b : Bool) (hres : endsRes r t = (xs, b)) :
    Calls Try.prog 10 #[v, v1] w fun e w' => ∃ v', e = .returned (.tuple #[v', .bool b]) ∧ IntsO w.heap.size w'.heap.size w' v' xs ∧ Below w.heap.size w w' := by
  obtain ⟨i0, hi, hz0, hz1, hz2⟩ := info_parts Try.info_intI
  obtain ⟨s, rfl, h0, hok⟩ := h
  have HV := Lib.hid (show ∀ W, Below w.heap.size w W → RecV W (.agg #[.int .i64 r.id, .int .i64 r.series, .int .i64 r.made, s]) r from fun W hb => ⟨s, rfl, h0.below rEv_stable hb, hok⟩)
  have H1 := Lib.hid h1
  obtain ⟨ba, ha⟩ : ∃ b, askB r t = b := ⟨_, rfl⟩
  have HA := Lib.hid ha
  have HC0 : Hid (Box4 ((w.alloc (RBOX r s 26)).alloc (.cells #[] 3 (0, 0))) w.heap.size r s) := Lib.hid ((Box4.new w r s 26).kept (below_al (Below.refl _ _) _))
  have he0 : (w.alloc (RBOX r s 26)).heap.size = w.heap.size + 1 := by simp
  have HI0 : Hid (IntsO (w.heap.size + 1) ((w.alloc (RBOX r s 26)).alloc (.cells #[] 3 (0, 0))).heap.size ((w.alloc (RBOX r s 26)).alloc (.cells #[] 3 (0, 0))) (.slice (some ⟨w.heap.size + 1, 0, none⟩) 0 0) []) := Lib.hid (by have := ints_new (w.alloc (RBOX r s 26)); rwa [he0] at this)
  clear he0
  have b0 := below_al (below_al (Below.refl w.heap.size w) (RBOX r s 26)) (.cells #[] 3 (0, 0))
  cases ba
  · obtain ⟨rfl, rfl⟩ := endsRes_no hres ha
    clear h0 hok h1 ha hres
    go_enter Try.func10, Try.ntmps10
    go_wp2_with (first | (go_at_call 68; refine (l6Asked_any _ _ r t _ (HV.out _ b0) (H1.out.below rRu_stable b0)).mono ?_; rw [HA.out]; rintro e w1 ⟨rfl, b1⟩; have HC1 := Lib.hid (HC0.out.kept b1); obtain ⟨c0, c1, c2, c3⟩ := HC1.out; have HI1 := Lib.hid ((HI0.out.below b1).wide (Nat.le_refl _) b1.size); replace b1 := below_chain b0 b1))
    go_ret2
    exact ⟨_, rfl, HI1.out.wide (Nat.le_succ _) (Nat.le_refl _), b1⟩
  · obtain ⟨rfl, rfl⟩ := endsRes_yes hres ha
    have hask := ask_iff.1 ha
    have HIR := Lib.hid hask.1
    obtain ⟨R, hR⟩ : ∃ R, forRu t r.series = R := ⟨_, rfl⟩
    have hn8 := sch_len hask.2
    have hRl : R.length ≤ 8 := by rw [← hR]; exact Nat.le_trans (forRu_len t r.series) hn8
    have HRU := Lib.hid (show ∀ u ∈ R, isRu u = true by rw [← hR]; exact forRu_ok hask.2 r.series)
    have HXS := Lib.hid (show endsF r t = R.map (endR r) by rw [show endsF r t = (forRu t r.series).map (endR r) from rfl, hR])
    have HRR := Lib.hid hR
    clear h0 hok h1 ha hres hask hR
    go_enter Try.func10, Try.ntmps10
    go_wp2_with (first | (go_at_call 68; refine (l6Asked_any _ _ r t _ (HV.out _ b0) (H1.out.below rRu_stable b0)).mono ?_; rw [HA.out]; rintro e w1 ⟨rfl, b1⟩; have HC1 := Lib.hid (HC0.out.kept b1); obtain ⟨c0, c1, c2, c3⟩ := HC1.out; have HI1 := Lib.hid ((HI0.out.below b1).wide (Nat.le_refl _) b1.size); have hw1 : w.heap.size + 2 ≤ w1.heap.size := (by have := b1.size; simp at this; omega); replace b1 := below_chain b0 b1) | (go_at_call 69; refine (l4For_any _ t r.series _ (H1.out.below rRu_stable b1) (by omega)).mono ?_; rw [HRR.out]; rintro e w2 ⟨v2, rfl, ho2, b2⟩; have hge : ∀ g, v2.ownBlock = some g → w.heap.size + 2 ≤ g := (fun g hg => by have := ho2.1.ge g hg; have := hw1; omega); obtain ⟨a1, cp1, hv, hl1, hm1, r2⟩ := ho2.row.rus; subst hv; unfold maxLen at hm1; have R2 := Lib.hid r2; have HC2 := Lib.hid (HC1.out.kept b2); have HI2 := Lib.hid (HI1.out.below b2); have hgl : w.heap.size + 1 < w2.heap.size := (by have := b2.size; omega); replace b2 := below_chain b1 b2; clear ho2 r2))
    have s2 := b2.size
    have HS0 := Lib.hid (OutS.start HI2.out.1 hgl)
    go_loopw [6, 8] (fun o i wr => ∃ k : Nat, k ≤ R.length ∧ i = .int .i64 k ∧ Hid (OutS (w.heap.size + 1) w2 wr o ((R.take k).map (endR r)))) (fun _ i _ => R.length - (intOf i).toNat)
    case atStart => exact ⟨0, Nat.zero_le _, rfl, HS0⟩
    case round =>
      clear HS0
      obtain ⟨k, hk, rfl, HS⟩ := hrel
      have hbw := b2.trans (HS.out.bel (Nat.le_succ _))
      by_cases hlt : k < R.length
      · obtain ⟨bb, o1, hb1, rfl, e1⟩ := R2.out.resolve_left (fun e => by rw [e] at hlt; simp at hlt)
        obtain ⟨q0, q1, q2, q3, hok⟩ := e1 k hlt
        obtain ⟨⟨x0, x1, x2, x3⟩, hx⟩ : ∃ s, R.getD k ruD = s := ⟨_, rfl⟩
        rw [hx] at q0 q1 q2 q3
        simp only at q0 q1 q2 q3
        have hxu : isRu ⟨x0, x1, x2, x3⟩ = true := by rw [← hx, getRu_lt hlt]; exact HRU.out _ (List.getElem_mem hlt)
        obtain ⟨E, hE⟩ : ∃ E, endR r ⟨x0, x1, x2, x3⟩ = E := ⟨_, rfl⟩
        have hbb : w.heap.size + 2 ≤ bb := hge bb (by simp [Value.ownBlock])
        have F0 := Lib.hid q0
        have F1 := Lib.hid q1
        have F2 := Lib.hid q2
        have F3 := Lib.hid q3
        have f0 := HS.out.cell q0 (by omega)
        have f1 := HS.out.cell q1 (by omega)
        have f2 := HS.out.cell q2 (by omega)
        have f3 := HS.out.cell q3 (by omega)
        have C0 := Lib.hid HC2.out.1
        have C1 := Lib.hid HC2.out.2.1
        have C2 := Lib.hid HC2.out.2.2.1
        have C3 := Lib.hid HC2.out.2.2.2
        have c0 := HS.out.cell C0.out (by omega)
        have c1 := HS.out.cell C1.out (by omega)
        have c2 := HS.out.cell C2.out (by omega)
        have c3 := HS.out.cell C3.out (by omega)
        have g0 : (0 : Int) ≤ (k : Int) := by omega
        have g1 : (k : Int) < (R.length : Int) := by omega
        have htake := ends_take (r := r) hlt
        rw [hx, hE] at htake
        obtain ⟨Pp, hP⟩ : ∃ P, (R.take k).map (endR r) = P := ⟨_, rfl⟩
        have hPl : Pp.length ≤ 8 := by rw [← hP, List.length_map, List.length_take]; omega
        rw [hP] at htake HS
        have HTK := Lib.hid htake
        have hcall : Hid (∀ W, Below wr.heap.size wr W → Calls Try.prog 70 #[.agg #[.int .i64 r.id, .int .i64 r.series, .int .i64 r.made, s], .agg #[.int .i64 x0, .int .i64 x1, .int .i64 x2, .int .i64 x3]] W fun e w' => e = .returned (.int .i64 E) ∧ Below W.heap.size W w') := Lib.hid (fun W hW => by
          have := l6End_any (.agg #[.int .i64 r.id, .int .i64 r.series, .int .i64 r.made, s]) r ⟨x0, x1, x2, x3⟩ W (HV.out _ (hbw.trans (hW.mono hbw.size))) HIR.out hxu
          rw [hE] at this
          exact this)
        clear q0 q1 q2 q3 hx e1 htake hP hE hxu hok
        go_wp2_with fail
        go_region_held3 (fun w' => w'.cell? ⟨w.heap.size, 0, none⟩ = some (.int .i64 r.id) ∧ w'.cell? ⟨w.heap.size, 1, none⟩ = some (.int .i64 r.series) ∧ w'.cell? ⟨w.heap.size, 2, none⟩ = some (.int .i64 r.made) ∧ w'.cell? ⟨w.heap.size, 3, none⟩ = some s ∧ w'.cell? ⟨bb, o1 + k * 4, none⟩ = some (.int .i64 x0) ∧ w'.cell? ⟨bb, o1 + k * 4 + 1, none⟩ = some (.int .i64 x1) ∧ w'.cell? ⟨bb, o1 + k * 4 + 2, none⟩ = some (.int .i64 x2) ∧ w'.cell? ⟨bb, o1 + k * 4 + 3, none⟩ = some (.int .i64 x3))
          (first | exact ⟨c0, c1, c2, c3, f0, f1, f2, f3⟩ | exact ⟨below_al_cell c0 _, below_al_cell c1 _, below_al_cell c2 _, below_al_cell c3 _, below_al_cell f0 _, below_al_cell f1 _, below_al_cell f2 _, below_al_cell f3 _⟩ | go_keep)
          (first | (go_at_call 70; refine (hcall.out _ (Below.refl _ _).drew).mono ?_; rintro e w5 ⟨rfl, b5⟩; have HS5 := Lib.hid (HS.out.below ((Below.refl _ _).drew.trans b5)); have hs5 := b5.size; replace c0 := HS5.out.cell C0.out (by omega); replace c1 := HS5.out.cell C1.out (by omega); replace c2 := HS5.out.cell C2.out (by omega); replace c3 := HS5.out.cell C3.out (by omega); replace f0 := HS5.out.cell F0.out (by omega); replace f1 := HS5.out.cell F1.out (by omega); replace f2 := HS5.out.cell F2.out (by omega); replace f3 := HS5.out.cell F3.out (by omega)) | (rw [if_pos (by rfl)]; refine wp_append_at _ _ _ _ rfl (w.heap.size + 1) 3 i0 (.int .i64 0) 1 8 Try.underlying30 hi hz0 hz1 hz2 rfl (by decide) u6 Pp.length (Pp.map vI) (by rfl) (by exact (HS5.out.below (below_al (Below.refl _ _) _)).own) ⟨w5.heap.size, 0, none⟩ 1 1 [.int .i64 E] (by rfl) rfl (by exact cell_oneI _ _ _ rfl) (by simp [Value.oneCell']) (by unfold maxLen; omega) (by omega) (by have := HS5.out.lt; have := HS5.out.only.size; simp; omega) ?_; intro v' w7 hown' hgrow hat; have HS7 := Lib.hid ((HS5.out.below (below_al (Below.refl _ _) _)).app hown' hgrow hat); replace c0 := HS7.out.cell C0.out (by omega); replace c1 := HS7.out.cell C1.out (by omega); replace c2 := HS7.out.cell C2.out (by omega); replace c3 := HS7.out.cell C3.out (by omega); replace f0 := HS7.out.cell F0.out (by omega); replace f1 := HS7.out.cell F1.out (by omega); replace f2 := HS7.out.cell F2.out (by omega); replace f3 := HS7.out.cell F3.out (by omega); clear hown' hgrow hat))
        go_wp2_with fail
        go_roundw
        case rel => exact ⟨k + 1, by omega, by go_num, (by rw [HTK.out]; exact HS7)⟩
        case measure => simp [intOf]; omega
      · obtain rfl : k = R.length := by omega
        rw [List.take_length] at HS
        have HO := Lib.hid HS.out.own
        go_wp2_with fail
        go_ret2
        exact ⟨_, rfl, by rw [HXS.out]; exact (ints_rowS HO.out rfl).wide (Nat.le_succ _) (Nat.le_refl _), hbw⟩

set_option maxRecDepth 20000 in
set_option maxHeartbeats 4000000 in
theorem specWaitsFor_any (v v1 : Value) (r : Rec) (t : List Ru) (w : World) (h : RecV w v r) (h1 : RowR 4 rRu w v1 t) (xs : List Int) (b : Bool) (hres : waitRes r t = (xs, b)) :
    Calls Try.prog 15 #[v, v1] w fun e w' => ∃ v', e = .returned (.tuple #[v', .bool b]) ∧ IntsO w.heap.size w'.heap.size w' v' xs ∧ Below w.heap.size w w' := by
  obtain ⟨i0, hi, hz0, hz1, hz2⟩ := info_parts Try.info_intI
  obtain ⟨s, rfl, h0, hok⟩ := h
  have HV := Lib.hid (show ∀ W, Below w.heap.size w W → RecV W (.agg #[.int .i64 r.id, .int .i64 r.series, .int .i64 r.made, s]) r from fun W hb => ⟨s, rfl, h0.below rEv_stable hb, hok⟩)
  have H1 := Lib.hid h1
  obtain ⟨ba, ha⟩ : ∃ b, askB r t = b := ⟨_, rfl⟩
  have HA := Lib.hid ha
  have HC0 : Hid (Box4 ((w.alloc (RBOX r s 26)).alloc (.cells #[] 3 (0, 0))) w.heap.size r s) := Lib.hid ((Box4.new w r s 26).kept (below_al (Below.refl _ _) _))
  have he0 : (w.alloc (RBOX r s 26)).heap.size = w.heap.size + 1 := by simp
  have HI0 : Hid (IntsO (w.heap.size + 1) ((w.alloc (RBOX r s 26)).alloc (.cells #[] 3 (0, 0))).heap.size ((w.alloc (RBOX r s 26)).alloc (.cells #[] 3 (0, 0))) (.slice (some ⟨w.heap.size + 1, 0, none⟩) 0 0) []) := Lib.hid (by have := ints_new (w.alloc (RBOX r s 26)); rwa [he0] at this)
  clear he0
  have b0 := below_al (below_al (Below.refl w.heap.size w) (RBOX r s 26)) (.cells #[] 3 (0, 0))
  cases ba
  · obtain ⟨rfl, rfl⟩ := waitRes_no hres ha
    clear h0 hok h1 ha hres
    go_enter Try.func15, Try.ntmps15
    go_wp2_with (first | (go_at_call 68; refine (l6Asked_any _ _ r t _ (HV.out _ b0) (H1.out.below rRu_stable b0)).mono ?_; rw [HA.out]; rintro e w1 ⟨rfl, b1⟩; have HC1 := Lib.hid (HC0.out.kept b1); obtain ⟨c0, c1, c2, c3⟩ := HC1.out; have HI1 := Lib.hid ((HI0.out.below b1).wide (Nat.le_refl _) b1.size); replace b1 := below_chain b0 b1))
    go_ret2
    exact ⟨_, rfl, HI1.out.wide (Nat.le_succ _) (Nat.le_refl _), b1⟩
  · obtain ⟨rfl, rfl⟩ := waitRes_yes hres ha
    have hask := ask_iff.1 ha
    have HIR := Lib.hid hask.1
    obtain ⟨R, hR⟩ : ∃ R, forRu t r.series = R := ⟨_, rfl⟩
    have hn8 := sch_len hask.2
    have hRl : R.length ≤ 8 := by rw [← hR]; exact Nat.le_trans (forRu_len t r.series) hn8
    have HRU := Lib.hid (show ∀ u ∈ R, isRu u = true by rw [← hR]; exact forRu_ok hask.2 r.series)
    have HXS := Lib.hid (show waitF r t = waitU r R by rw [waitF_u, hR])
    have HRR := Lib.hid hR
    clear h0 hok h1 ha hres hask hR
    go_enter Try.func15, Try.ntmps15
    go_wp2_with (first | (go_at_call 68; refine (l6Asked_any _ _ r t _ (HV.out _ b0) (H1.out.below rRu_stable b0)).mono ?_; rw [HA.out]; rintro e w1 ⟨rfl, b1⟩; have HC1 := Lib.hid (HC0.out.kept b1); obtain ⟨c0, c1, c2, c3⟩ := HC1.out; have HI1 := Lib.hid ((HI0.out.below b1).wide (Nat.le_refl _) b1.size); have hw1 : w.heap.size + 2 ≤ w1.heap.size := (by have := b1.size; simp at this; omega); replace b1 := below_chain b0 b1) | (go_at_call 69; refine (l4For_any _ t r.series _ (H1.out.below rRu_stable b1) (by omega)).mono ?_; rw [HRR.out]; rintro e w2 ⟨v2, rfl, ho2, b2⟩; have hge : ∀ g, v2.ownBlock = some g → w.heap.size + 2 ≤ g := (fun g hg => by have := ho2.1.ge g hg; have := hw1; omega); obtain ⟨a1, cp1, hv, hl1, hm1, r2⟩ := ho2.row.rus; subst hv; unfold maxLen at hm1; have R2 := Lib.hid r2; have HC2 := Lib.hid (HC1.out.kept b2); have HI2 := Lib.hid (HI1.out.below b2); have hgl : w.heap.size + 1 < w2.heap.size := (by have := b2.size; omega); replace b2 := below_chain b1 b2; clear ho2 r2))
    have HS0 := Lib.hid (OutS.start HI2.out.1 hgl)
    go_loopw [6, 8] (fun o i wr => ∃ k : Nat, k ≤ R.length ∧ i = .int .i64 k ∧ Hid (OutS (w.heap.size + 1) w2 wr o (waitU r (R.take k)))) (fun _ i _ => R.length - (intOf i).toNat)
    case atStart => exact ⟨0, Nat.zero_le _, rfl, HS0⟩
    case round =>
      clear HS0
      obtain ⟨k, hk, rfl, HS⟩ := hrel
      have hbw := b2.trans (HS.out.bel (Nat.le_succ _))
      by_cases hlt : k < R.length
      · obtain ⟨bb, o1, hb1, rfl, e1⟩ := R2.out.resolve_left (fun e => by rw [e] at hlt; simp at hlt)
        obtain ⟨q0, q1, q2, q3, hok⟩ := e1 k hlt
        obtain ⟨⟨x0, x1, x2, x3⟩, hx⟩ : ∃ s, R.getD k ruD = s := ⟨_, rfl⟩
        rw [hx] at q0 q1 q2 q3
        simp only at q0 q1 q2 q3
        have hxu : isRu ⟨x0, x1, x2, x3⟩ = true := by rw [← hx, getRu_lt hlt]; exact HRU.out _ (List.getElem_mem hlt)
        obtain ⟨E, hE⟩ : ∃ E, endR r ⟨x0, x1, x2, x3⟩ = E := ⟨_, rfl⟩
        have hbb : w.heap.size + 2 ≤ bb := hge bb (by simp [Value.ownBlock])
        have F0 := Lib.hid q0
        have F1 := Lib.hid q1
        have F2 := Lib.hid q2
        have F3 := Lib.hid q3
        have f0 := HS.out.cell q0 (by omega)
        have f1 := HS.out.cell q1 (by omega)
        have f2 := HS.out.cell q2 (by omega)
        have f3 := HS.out.cell q3 (by omega)
        have C0 := Lib.hid HC2.out.1
        have C1 := Lib.hid HC2.out.2.1
        have C2 := Lib.hid HC2.out.2.2.1
        have C3 := Lib.hid HC2.out.2.2.2
        have c0 := HS.out.cell C0.out (by omega)
        have c1 := HS.out.cell C1.out (by omega)
        have c2 := HS.out.cell C2.out (by omega)
        have c3 := HS.out.cell C3.out (by omega)
        have g0 : (0 : Int) ≤ (k : Int) := by omega
        have g1 : (k : Int) < (R.length : Int) := by omega
        have htake := wait_take (r := r) hlt
        rw [hx, hE] at htake
        obtain ⟨Pp, hP⟩ : ∃ P, waitU r (R.take k) = P := ⟨_, rfl⟩
        have hPl : Pp.length ≤ 8 := by rw [← hP]; have := waitU_len r (R.take k); rw [List.length_take] at this; omega
        rw [hP] at htake HS
        have HTK := Lib.hid htake
        have k0 := cell_regrown f0
        have k1 := cell_regrown f1
        have k2 := cell_regrown f2
        have k3 := cell_regrown f3
        have m0 := cell_regrown c0
        have m1 := cell_regrown c1
        have m2 := cell_regrown c2
        have m3 := cell_regrown c3
        have hc := l6End_grown (.agg #[.int .i64 r.id, .int .i64 r.series, .int .i64 r.made, s]) r ⟨x0, x1, x2, x3⟩ E hE wr (fun W hW => HV.out W (hbw.trans (hW.mono hbw.size))) HIR.out hxu
        simp only at hc
        clear q0 q1 q2 q3 hx e1 htake hP hE hxu hok
        by_cases hEn : E < 0
        · have hEd : decide (E < 0) = true := decide_eq_true hEn
          have HTK2 := Lib.hid (HTK.out.trans (if_pos hEn))
          go_wp2_with fail
          refine wp_region_quiet_below (by kernel_rfl) (by kernel_rfl) ?_
          repeat (go_big_quiet_step (first | exact hc _ _))
          refine wpQuiet_nil ?_
          intro _ hw'
          obtain ⟨⟨dq, osq⟩, hw''⟩ := hw'
          subst hw''
          have bq := below_regrown wr dq osq
          have HSq := Lib.hid (HS.out.below bq)
          have j0 := cell_kept f0 bq
          have j1 := cell_kept f1 bq
          have j2 := cell_kept f2 bq
          have j3 := cell_kept f3 bq
          generalize grow (redrawn wr dq) osq = wz at *
          clear k0 k1 k2 k3 m0 m1 m2 m3 hc c0 c1 c2 c3 f0 f1 f2 f3 HS bq C0 C1 C2 C3 F0 F1 F2 F3 hbw
          clear hEn
          go_wp2_with (first | (at_builtin; refine wpList_append_own_at _ rfl _ _ 30 rfl (w.heap.size + 1) 3 i0 (.int .i64 0) 1 8 Try.underlying30 hi hz0 hz1 hz2 rfl (by decide) _ _ _ rfl ((HSq.out.below (below_al (Below.refl _ _) _)).own) ⟨wz.heap.size, 0, none⟩ 1 1 [.int .i64 x1] rfl rfl (cell_oneI _ _ _ (by simp)) (by simp [Value.oneCell']) (by unfold maxLen; omega) (by omega) (by have := HSq.out.lt; have := HSq.out.only.size; simp; omega) ?_; intro v' w7 hown' hgrow _ hat; have HS7 := Lib.hid ((HSq.out.below (below_al (Below.refl _ _) _)).app hown' hgrow hat); clear hown' hgrow hat))
          go_wp2_with fail
          go_roundw
          case rel => exact ⟨k + 1, by omega, by go_num, (by rw [HTK2.out]; exact HS7)⟩
          case measure => simp [intOf]; omega
        · have hEd : decide (E < 0) = false := decide_eq_false hEn
          have HTK2 := Lib.hid (HTK.out.trans (if_neg hEn))
          go_wp2_with fail
          refine wp_region_quiet_below (by kernel_rfl) (by kernel_rfl) ?_
          repeat (go_big_quiet_step (first | exact hc _ _))
          refine wpQuiet_nil ?_
          intro _ hw'
          obtain ⟨⟨dq, osq⟩, hw''⟩ := hw'
          subst hw''
          have bq := below_regrown wr dq osq
          have HSq := Lib.hid (HS.out.below bq)
          have j0 := cell_kept f0 bq
          have j1 := cell_kept f1 bq
          have j2 := cell_kept f2 bq
          have j3 := cell_kept f3 bq
          generalize grow (redrawn wr dq) osq = wz at *
          clear k0 k1 k2 k3 m0 m1 m2 m3 hc c0 c1 c2 c3 f0 f1 f2 f3 HS bq C0 C1 C2 C3 F0 F1 F2 F3 hbw
          clear hEn
          go_wp2_with fail
          go_roundw
          case rel => exact ⟨k + 1, by omega, by go_num, (by rw [HTK2.out]; exact HSq)⟩
          case measure => simp [intOf]; omega
      · obtain rfl : k = R.length := by omega
        rw [List.take_length] at HS
        have HO := Lib.hid HS.out.own
        go_wp2_with fail
        go_ret2
        exact ⟨_, rfl, by rw [HXS.out]; exact (ints_rowS HO.out rfl).wide (Nat.le_succ _) (Nat.le_refl _), hbw⟩

set_option maxRecDepth 20000 in
set_option maxHeartbeats 4000000 in
theorem specDueRecords_any (v v1 : Value) (rs : List Rec) (t : List Ru) (dy ac : Int) (w : World) (h : RowR 4 rRec w v rs) (h1 : RowR 4 rRu w v1 t) (xs : List Int) (b : Bool) (hres : drecRes rs t dy ac = (xs, b)) :
    Calls Try.prog 28 #[v, v1, .int .i64 dy, .int .i64 ac] w fun e w' => ∃ v', e = .returned (.tuple #[v', .bool b]) ∧ IntsO w.heap.size w'.heap.size w' v' xs ∧ Below w.heap.size w w' := by
  obtain ⟨i0, hi, hz0, hz1, hz2⟩ := info_parts Try.info_intI
  have H := Lib.hid h
  have H1 := Lib.hid h1
  obtain ⟨a1, c1, rfl, hl1, hm1, r1⟩ := h.recs
  have R1 := Lib.hid r1
  unfold maxLen at hm1
  obtain ⟨br, hr⟩ : ∃ b, areRecs rs = b := ⟨_, rfl⟩
  obtain ⟨bs, hs⟩ : ∃ b, isSch t = b := ⟨_, rfl⟩
  have HR := Lib.hid hr
  have HS := Lib.hid hs
  have HI0 := Lib.hid (ints_new w)
  have b0 := below_al (Below.refl w.heap.size w) (.cells #[] 3 (0, 0))
  obtain ⟨bd, hd⟩ : ∃ b, decide (0 ≤ dy ∧ dy ≤ 20000) = b := ⟨_, rfl⟩
  obtain ⟨bac, hac⟩ : ∃ b, decide (1 ≤ ac ∧ ac ≤ 3) = b := ⟨_, rfl⟩
  have HD := Lib.hid hd
  have HAC := Lib.hid hac
  have NO := Lib.hid (fun hn => drecRes_no hres hn)
  have YES := Lib.hid (fun hn => drecRes_yes hres hn)
  clear h h1 r1 hr hs hd hac hres
  cases br
  · obtain ⟨rfl, rfl⟩ := NO.out (fun h => by rw [HR.out] at h; exact absurd h.1 (by simp))
    go_enter Try.func28, Try.ntmps28
    go_wp2_with (first | (go_at_call 91; refine (l2Records_any _ rs _ (H.out.below rRec_stable b0)).mono ?_; rw [HR.out]; rintro e w1 ⟨rfl, b1⟩; have HI1 := Lib.hid ((HI0.out.below b1).wide (Nat.le_refl _) b1.size); replace b1 := below_chain b0 b1; clear HI0 b0))
    go_ret2
    exact ⟨_, rfl, HI1.out, b1⟩
  · cases bs
    · obtain ⟨rfl, rfl⟩ := NO.out (fun h => by rw [HS.out] at h; exact absurd h.2.1 (by simp))
      go_enter Try.func28, Try.ntmps28
      go_wp2_with (first | (go_at_call 91; refine (l2Records_any _ rs _ (H.out.below rRec_stable b0)).mono ?_; rw [HR.out]; rintro e w1 ⟨rfl, b1⟩; have HI1 := Lib.hid ((HI0.out.below b1).wide (Nat.le_refl _) b1.size); replace b1 := below_chain b0 b1; clear HI0 b0) | (go_at_call 78; refine (l4Good_any _ t _ (H1.out.below rRu_stable b1)).mono ?_; rw [HS.out]; rintro e w2 ⟨rfl, b2⟩; have HI2 := Lib.hid ((HI1.out.below b2).wide (Nat.le_refl _) b2.size); replace b2 := below_chain b1 b2; clear HI1 b1))
      go_ret2
      exact ⟨_, rfl, HI2.out, b2⟩
    · cases bd
      · obtain ⟨rfl, rfl⟩ := NO.out (fun h => of_decide_eq_false HD.out h.2.2.1)
        go_enter Try.func28, Try.ntmps28
        go_wp2_with (first | (go_at_call 91; refine (l2Records_any _ rs _ (H.out.below rRec_stable b0)).mono ?_; rw [HR.out]; rintro e w1 ⟨rfl, b1⟩; have HI1 := Lib.hid ((HI0.out.below b1).wide (Nat.le_refl _) b1.size); replace b1 := below_chain b0 b1; clear HI0 b0) | (go_at_call 78; refine (l4Good_any _ t _ (H1.out.below rRu_stable b1)).mono ?_; rw [HS.out]; rintro e w2 ⟨rfl, b2⟩; have HI2 := Lib.hid ((HI1.out.below b2).wide (Nat.le_refl _) b2.size); replace b2 := below_chain b1 b2; clear HI1 b1) | (go_at_call 79; refine (l2Day_any _ _).mono ?_; rw [HD.out]; rintro e w3 ⟨rfl, h3⟩; subst w3))
        go_ret2
        exact ⟨_, rfl, HI2.out, b2⟩
      · cases bac
        · obtain ⟨rfl, rfl⟩ := NO.out (fun h => of_decide_eq_false HAC.out h.2.2.2)
          go_enter Try.func28, Try.ntmps28
          go_wp2_with (first | (go_at_call 91; refine (l2Records_any _ rs _ (H.out.below rRec_stable b0)).mono ?_; rw [HR.out]; rintro e w1 ⟨rfl, b1⟩; have HI1 := Lib.hid ((HI0.out.below b1).wide (Nat.le_refl _) b1.size); replace b1 := below_chain b0 b1; clear HI0 b0) | (go_at_call 78; refine (l4Good_any _ t _ (H1.out.below rRu_stable b1)).mono ?_; rw [HS.out]; rintro e w2 ⟨rfl, b2⟩; have HI2 := Lib.hid ((HI1.out.below b2).wide (Nat.le_refl _) b2.size); replace b2 := below_chain b1 b2; clear HI1 b1) | (go_at_call 79; refine (l2Day_any _ _).mono ?_; rw [HD.out]; rintro e w3 ⟨rfl, h3⟩; subst w3) | (go_at_call 92; refine (l1In_any _ _ _ _).mono ?_; rw [HAC.out]; rintro e w3 ⟨rfl, h3⟩; subst w3))
          go_ret2
          exact ⟨_, rfl, HI2.out, b2⟩
        · obtain ⟨rfl, rfl⟩ := YES.out ⟨HR.out, HS.out, of_decide_eq_true HD.out, of_decide_eq_true HAC.out⟩
          have hten := recs_ten HR.out
          clear NO YES
          go_enter Try.func28, Try.ntmps28
          go_wp2_with (first | (go_at_call 91; refine (l2Records_any _ rs _ (H.out.below rRec_stable b0)).mono ?_; rw [HR.out]; rintro e w1 ⟨rfl, b1⟩; have HI1 := Lib.hid ((HI0.out.below b1).wide (Nat.le_refl _) b1.size); replace b1 := below_chain b0 b1; clear HI0 b0) | (go_at_call 78; refine (l4Good_any _ t _ (H1.out.below rRu_stable b1)).mono ?_; rw [HS.out]; rintro e w2 ⟨rfl, b2⟩; have HI2 := Lib.hid ((HI1.out.below b2).wide (Nat.le_refl _) b2.size); replace b2 := below_chain b1 b2; clear HI1 b1) | (go_at_call 79; refine (l2Day_any _ _).mono ?_; rw [HD.out]; rintro e w3 ⟨rfl, h3⟩; subst w3) | (go_at_call 92; refine (l1In_any _ _ _ _).mono ?_; rw [HAC.out]; rintro e w3 ⟨rfl, h3⟩; subst w3))
          go_loopw [10, 11] (fun o i wr => ∃ k : Nat, k ≤ rs.length ∧ i = .int .i64 k ∧ wr.ownsRow w.heap.size 3 1 o (hitF t dy ac (rs.take k)).length ((hitF t dy ac (rs.take k)).map vI) ∧ Below w.heap.size w wr) (fun _ i _ => rs.length - (intOf i).toNat)
          case atStart => exact ⟨0, Nat.zero_le _, rfl, by simpa [hitF] using HI2.out.1, b2⟩
          case round =>
            clear b2 HI2
            obtain ⟨k, hk, rfl, hO, hb⟩ := hrel
            by_cases hlt : k < rs.length
            · obtain ⟨bR, oR, hbR, rfl, e1⟩ := R1.out.resolve_left (fun e => by rw [e] at hlt; simp at hlt)
              obtain ⟨sv, q0, q1, q2, q3, hrow, hok⟩ := e1 k hlt
              obtain ⟨r, hx⟩ : ∃ s, rs.getD k recD = s := ⟨_, rfl⟩
              have hri : isRec r = true := by rw [← hx]; exact recs_at HR.out hlt
              rw [hx] at q0 q1 q2 hrow hok
              have hr0 := hrow
              obtain ⟨sa, sc, rfl, _⟩ := hr0
              have f0 := cell_kept q0 hb
              have f1 := cell_kept q1 hb
              have f2 := cell_kept q2 hb
              have f3 := cell_kept q3 hb
              have HV := Lib.hid (show ∀ W, Below w.heap.size w W → RecV W (.agg #[.int .i64 r.id, .int .i64 r.series, .int .i64 r.made, .slice sa r.evs.length sc]) r from fun W hb => ⟨_, rfl, hrow.below rEv_stable hb, hok⟩)
              have g0 : (0 : Int) ≤ (k : Int) := by omega
              have g1 : (k : Int) < (rs.length : Int) := by omega
              have hsz := hb.size
              obtain ⟨⟨y0, y1, y2, y3⟩, D, hdec⟩ : ∃ q d, decR r (forRu t r.series) = (q, d) := ⟨_, _, rfl⟩
              have hsucc := hit_succ (t := t) (d := dy) (a := ac) hlt
              have hlen := hit_len t dy ac (rs.take k)
              rw [List.length_take] at hlen
              have hhit : hitB t dy ac r = decide (y3 = ac ∧ (0 ≤ D ∧ D ≤ dy)) := by unfold hitB ruleF dueF; rw [hdec]
              have hdue : dueF r t = D := by unfold dueF; rw [hdec]
              rw [hx, hhit] at hsucc
              obtain ⟨Pp, hP⟩ : ∃ P, hitF t dy ac (rs.take k) = P := ⟨_, rfl⟩
              rw [hP] at hO hlen hsucc
              have HSU := Lib.hid hsucc
              have HDEC := Lib.hid hdec
              have HDU := Lib.hid hdue
              have HO := Lib.hid hO
              have f0' : ∀ W, Below wr.heap.size wr W → ∀ o, (W.alloc o).cell? ⟨bR, oR + k * 4, none⟩ = some (.int .i64 r.id) := fun W hW o => below_al_cell (cell_kept f0 hW) o
              have HFK := Lib.hid (show ∀ W, Below wr.heap.size wr W → W.cell? ⟨bR, oR + k * 4, none⟩ = some (.int .i64 r.id) ∧ W.cell? ⟨bR, oR + k * 4 + 1, none⟩ = some (.int .i64 r.series) ∧ W.cell? ⟨bR, oR + k * 4 + 2, none⟩ = some (.int .i64 r.made) ∧ W.cell? ⟨bR, oR + k * 4 + 3, none⟩ = some (.slice sa r.evs.length sc) from fun W hW => ⟨cell_kept f0 hW, cell_kept f1 hW, cell_kept f2 hW, cell_kept f3 hW⟩)
              clear q0 q1 q2 q3 hrow hx e1 hsucc hP hok hdec hdue hhit hO f0'
              by_cases hact : y3 = ac
              · have hactd : (y3 == ac) = true := by simp [hact]
                obtain ⟨bq, hbq⟩ : ∃ b, decide (0 ≤ D ∧ D ≤ dy) = b := ⟨_, rfl⟩
                have HBQ := Lib.hid hbq
                have HAQ := Lib.hid hact
                clear hact hbq
                cases bq
                · have HSU2 := Lib.hid (HSU.out.trans (if_neg (by rw [decide_eq_true_eq]; exact fun h => of_decide_eq_false HBQ.out h.2)))
                  go_wp2_with (first | (go_at_call 72; refine (l6Deciding_any _ _ r t _ (HV.out _ hb) (H1.out.below rRu_stable hb) hri HS.out _ _ HDEC.out).mono ?_; rintro e w5 ⟨rfl, b5⟩; obtain ⟨f0, f1, f2, f3⟩ := HFK.out _ (below_al b5 (.cells #[.int .i64 y0, .int .i64 y1, .int .i64 y2, .int .i64 y3] 37 (0, 0))); have bx5 := below_al b5 (.cells #[.int .i64 y0, .int .i64 y1, .int .i64 y2, .int .i64 y3] 37 (0, 0)); have HO5 := Lib.hid (ownsRow_below HO.out bx5); have bz5 := bx5; replace b5 := below_chain hb bx5; simp only) | (go_at_call 85; refine (l6Due_any _ _ r t dy _ (HV.out _ b5) (H1.out.below rRu_stable b5) (ask_iff.2 ⟨hri, HS.out⟩)).mono ?_; rw [HDU.out, HBQ.out]; rintro e w6 ⟨rfl, b6⟩; replace f0 := cell_kept f0 b6; have HO6 := Lib.hid (ownsRow_below HO5.out b6); replace b6 := below_chain b5 b6; have hs6 := b6.size))
                  go_roundw
                  case rel => exact ⟨k + 1, by omega, by go_num, (by rw [HSU2.out]; exact HO6.out), b6⟩
                  case measure => simp [intOf]; omega
                · have HSU2 := Lib.hid (HSU.out.trans (if_pos (by rw [decide_eq_true_eq]; exact ⟨HAQ.out, of_decide_eq_true HBQ.out⟩)))
                  go_wp2_with (first | (go_at_call 72; refine (l6Deciding_any _ _ r t _ (HV.out _ hb) (H1.out.below rRu_stable hb) hri HS.out _ _ HDEC.out).mono ?_; rintro e w5 ⟨rfl, b5⟩; obtain ⟨f0, f1, f2, f3⟩ := HFK.out _ (below_al b5 (.cells #[.int .i64 y0, .int .i64 y1, .int .i64 y2, .int .i64 y3] 37 (0, 0))); have bx5 := below_al b5 (.cells #[.int .i64 y0, .int .i64 y1, .int .i64 y2, .int .i64 y3] 37 (0, 0)); have HO5 := Lib.hid (ownsRow_below HO.out bx5); have bz5 := bx5; replace b5 := below_chain hb bx5; simp only) | (go_at_call 85; refine (l6Due_any _ _ r t dy _ (HV.out _ b5) (H1.out.below rRu_stable b5) (ask_iff.2 ⟨hri, HS.out⟩)).mono ?_; rw [HDU.out, HBQ.out]; rintro e w6 ⟨rfl, b6⟩; replace f0 := cell_kept f0 b6; have HO6 := Lib.hid (ownsRow_below HO5.out b6); replace b6 := below_chain b5 b6; have hs6 := b6.size) | (at_builtin; refine wpList_append_own _ rfl _ _ 30 rfl w.heap.size 3 i0 (.int .i64 0) 1 8 Try.underlying30 hi hz0 hz1 hz2 rfl (by decide) _ _ _ rfl (HO6.out.alloc _) ⟨w6.heap.size, 0, none⟩ 1 1 [.int .i64 r.id] rfl rfl (cell_oneI _ _ _ (by simp)) (by simp [Value.oneCell']) (by unfold maxLen; omega) (by omega) (by simp; omega) ?_; intro v' w7 hown' hgrow _))
                  have HOWN := Lib.hid hown'
                  have HB := Lib.hid (below_app b6 (Nat.le_refl _) HO6.out hgrow)
                  clear hown' hgrow
                  go_wp2_with fail
                  go_roundw
                  case rel => exact ⟨k + 1, by omega, by go_num, (by rw [HSU2.out]; simpa [vI] using HOWN.out), HB.out⟩
                  case measure => simp [intOf]; omega
              · have hactd : (y3 == ac) = false := by simp [hact]
                have HSU2 := Lib.hid (HSU.out.trans (if_neg (by rw [decide_eq_true_eq]; exact fun h => hact h.1)))
                clear hact
                go_wp2_with (first | (go_at_call 72; refine (l6Deciding_any _ _ r t _ (HV.out _ hb) (H1.out.below rRu_stable hb) hri HS.out _ _ HDEC.out).mono ?_; rintro e w5 ⟨rfl, b5⟩; obtain ⟨f0, f1, f2, f3⟩ := HFK.out _ (below_al b5 (.cells #[.int .i64 y0, .int .i64 y1, .int .i64 y2, .int .i64 y3] 37 (0, 0))); have bx5 := below_al b5 (.cells #[.int .i64 y0, .int .i64 y1, .int .i64 y2, .int .i64 y3] 37 (0, 0)); have HO5 := Lib.hid (ownsRow_below HO.out bx5); have bz5 := bx5; replace b5 := below_chain hb bx5; simp only))
                go_roundw
                case rel => exact ⟨k + 1, by omega, by go_num, (by rw [HSU2.out]; exact HO5.out), b5⟩
                case measure => simp [intOf]; omega
            · obtain rfl : k = rs.length := by omega
              rw [List.take_length] at hO
              have HO := Lib.hid hO
              clear hO
              go_wp2_with fail
              go_ret2
              exact ⟨_, rfl, ints_rowS HO.out rfl, hb⟩

set_option maxRecDepth 20000 in
set_option maxHeartbeats 4000000 in
theorem specNotScheduled_any (v v1 : Value) (rs : List Rec) (t : List Ru) (w : World) (h : RowR 4 rRec w v rs) (h1 : RowR 4 rRu w v1 t) (xs : List Int) (b : Bool) (hres : notsRes rs t = (xs, b)) :
    Calls Try.prog 34 #[v, v1] w fun e w' => ∃ v', e = .returned (.tuple #[v', .bool b]) ∧ IntsO w.heap.size w'.heap.size w' v' xs ∧ Below w.heap.size w w' := by
  obtain ⟨i0, hi, hz0, hz1, hz2⟩ := info_parts Try.info_intI
  have H := Lib.hid h
  have H1 := Lib.hid h1
  obtain ⟨a1, c1, rfl, hl1, hm1, r1⟩ := h.recs
  have R1 := Lib.hid r1
  unfold maxLen at hm1
  obtain ⟨br, hr⟩ : ∃ b, areRecs rs = b := ⟨_, rfl⟩
  obtain ⟨bs, hs⟩ : ∃ b, isSch t = b := ⟨_, rfl⟩
  have HR := Lib.hid hr
  have HS := Lib.hid hs
  have HI0 := Lib.hid (ints_new w)
  have b0 := below_al (Below.refl w.heap.size w) (.cells #[] 3 (0, 0))
  have NO := Lib.hid (fun hn => notsRes_no hres hn)
  have YES := Lib.hid (fun hn => notsRes_yes hres hn)
  clear h h1 r1 hr hs hres
  cases br
  · obtain ⟨rfl, rfl⟩ := NO.out (fun h => by rw [HR.out] at h; exact absurd h.1 (by simp))
    go_enter Try.func34, Try.ntmps34
    go_wp2_with (first | (go_at_call 91; refine (l2Records_any _ rs _ (H.out.below rRec_stable b0)).mono ?_; rw [HR.out]; rintro e w1 ⟨rfl, b1⟩; have HI1 := Lib.hid ((HI0.out.below b1).wide (Nat.le_refl _) b1.size); replace b1 := below_chain b0 b1; clear HI0 b0))
    go_ret2
    exact ⟨_, rfl, HI1.out, b1⟩
  · cases bs
    · obtain ⟨rfl, rfl⟩ := NO.out (fun h => by rw [HS.out] at h; exact absurd h.2 (by simp))
      go_enter Try.func34, Try.ntmps34
      go_wp2_with (first | (go_at_call 91; refine (l2Records_any _ rs _ (H.out.below rRec_stable b0)).mono ?_; rw [HR.out]; rintro e w1 ⟨rfl, b1⟩; have HI1 := Lib.hid ((HI0.out.below b1).wide (Nat.le_refl _) b1.size); replace b1 := below_chain b0 b1; clear HI0 b0) | (go_at_call 78; refine (l4Good_any _ t _ (H1.out.below rRu_stable b1)).mono ?_; rw [HS.out]; rintro e w2 ⟨rfl, b2⟩; have HI2 := Lib.hid ((HI1.out.below b2).wide (Nat.le_refl _) b2.size); replace b2 := below_chain b1 b2; clear HI1 b1))
      go_ret2
      exact ⟨_, rfl, HI2.out, b2⟩
    · obtain ⟨rfl, rfl⟩ := YES.out ⟨HR.out, HS.out⟩
      have hten := recs_ten HR.out
      have hn8 := sch_len HS.out
      clear NO YES
      go_enter Try.func34, Try.ntmps34
      go_wp2_with (first | (go_at_call 91; refine (l2Records_any _ rs _ (H.out.below rRec_stable b0)).mono ?_; rw [HR.out]; rintro e w1 ⟨rfl, b1⟩; have HI1 := Lib.hid ((HI0.out.below b1).wide (Nat.le_refl _) b1.size); replace b1 := below_chain b0 b1; clear HI0 b0) | (go_at_call 78; refine (l4Good_any _ t _ (H1.out.below rRu_stable b1)).mono ?_; rw [HS.out]; rintro e w2 ⟨rfl, b2⟩; have HI2 := Lib.hid ((HI1.out.below b2).wide (Nat.le_refl _) b2.size); replace b2 := below_chain b1 b2; clear HI1 b1))
      go_loopw [6, 7] (fun o i wr => ∃ k : Nat, k ≤ rs.length ∧ i = .int .i64 k ∧ wr.ownsRow w.heap.size 3 1 o (noneF t (rs.take k)).length ((noneF t (rs.take k)).map vI) ∧ Below w.heap.size w wr) (fun _ i _ => rs.length - (intOf i).toNat)
      case atStart => exact ⟨0, Nat.zero_le _, rfl, by simpa [noneF] using HI2.out.1, b2⟩
      case round =>
        clear b2 HI2
        obtain ⟨k, hk, rfl, hO, hb⟩ := hrel
        by_cases hlt : k < rs.length
        · obtain ⟨bR, oR, hbR, rfl, e1⟩ := R1.out.resolve_left (fun e => by rw [e] at hlt; simp at hlt)
          obtain ⟨sv, q0, q1, q2, q3, hrow, hok⟩ := e1 k hlt
          obtain ⟨r, hx⟩ : ∃ s, rs.getD k recD = s := ⟨_, rfl⟩
          have hri : isRec r = true := by rw [← hx]; exact recs_at HR.out hlt
          rw [hx] at q0 q1 q2 hrow hok
          have hr0 := hrow
          obtain ⟨sa, sc, rfl, _⟩ := hr0
          have f0 := cell_kept q0 hb
          have f1 := cell_kept q1 hb
          have f2 := cell_kept q2 hb
          have f3 := cell_kept q3 hb
          have HV := Lib.hid (show ∀ W, Below w.heap.size w W → RecV W (.agg #[.int .i64 r.id, .int .i64 r.series, .int .i64 r.made, .slice sa r.evs.length sc]) r from fun W hb => ⟨_, rfl, hrow.below rEv_stable hb, hok⟩)
          have g0 : (0 : Int) ≤ (k : Int) := by omega
          have g1 : (k : Int) < (rs.length : Int) := by omega
          have hsz := hb.size
          have hsucc := none_succ (t := t) hlt
          have hlen := none_len t (rs.take k)
          rw [List.length_take] at hlen
          rw [hx] at hsucc
          obtain ⟨F, hF⟩ : ∃ F, forRu t r.series = F := ⟨_, rfl⟩
          have hnb : noneB t r = decide (F.length = 0) := by unfold noneB; rw [hF]
          rw [hnb] at hsucc
          obtain ⟨Pp, hP⟩ : ∃ P, noneF t (rs.take k) = P := ⟨_, rfl⟩
          rw [hP] at hO hlen hsucc
          have HSU := Lib.hid hsucc
          have HF := Lib.hid hF
          have HO := Lib.hid hO
          have HF0 := Lib.hid f0
          clear q0 q1 q2 q3 hrow hx e1 hsucc hP hok hF hnb hO HV hri
          by_cases hz : F.length = 0
          · have hzd : ((F.length : Int) == 0) = true := by simp [hz]
            have hzd2 : decide ((F.length : Int) = 0) = true := decide_eq_true (by omega)
            have hzd3 : decide (F.length = 0) = true := decide_eq_true hz
            have HSU2 := Lib.hid (HSU.out.trans (if_pos (decide_eq_true hz)))
            clear hz
            go_wp2_with (first | (go_at_call 69; refine (l4For_any _ t r.series _ (H1.out.below rRu_stable hb) (by omega)).mono ?_; rw [HF.out]; rintro e w6 ⟨v6, rfl, ho6, b6⟩; obtain ⟨a6, c6, hv6, hl6, hm6, r6⟩ := ho6.row.rus; subst hv6; unfold maxLen at hm6; replace f0 := cell_kept HF0.out b6; have HO6 := Lib.hid (ownsRow_below HO.out b6); replace b6 := below_chain hb b6; have hs6 := b6.size; clear ho6 r6) | (at_builtin; refine wpList_append_own _ rfl _ _ 30 rfl w.heap.size 3 i0 (.int .i64 0) 1 8 Try.underlying30 hi hz0 hz1 hz2 rfl (by decide) _ _ _ rfl (HO6.out.alloc _) ⟨w6.heap.size, 0, none⟩ 1 1 [.int .i64 r.id] rfl rfl (cell_oneI _ _ _ (by simp)) (by simp [Value.oneCell']) (by unfold maxLen; omega) (by omega) (by simp; omega) ?_; intro v' w7 hown' hgrow _))
            have HOWN := Lib.hid hown'
            have HB := Lib.hid (below_app b6 (Nat.le_refl _) HO6.out hgrow)
            clear hown' hgrow
            go_wp2_with fail
            go_roundw
            case rel => exact ⟨k + 1, by omega, by go_num, (by rw [HSU2.out]; simpa [vI] using HOWN.out), HB.out⟩
            case measure => simp [intOf]; omega
          · have hzd : ((F.length : Int) == 0) = false := by simp [hz]
            have hzd2 : decide ((F.length : Int) = 0) = false := decide_eq_false (by omega)
            have hzd3 : decide (F.length = 0) = false := decide_eq_false hz
            have HSU2 := Lib.hid (HSU.out.trans (if_neg (by rw [decide_eq_true_eq]; exact hz)))
            clear hz
            go_wp2_with (first | (go_at_call 69; refine (l4For_any _ t r.series _ (H1.out.below rRu_stable hb) (by omega)).mono ?_; rw [HF.out]; rintro e w6 ⟨v6, rfl, ho6, b6⟩; obtain ⟨a6, c6, hv6, hl6, hm6, r6⟩ := ho6.row.rus; subst hv6; unfold maxLen at hm6; replace f0 := cell_kept HF0.out b6; have HO6 := Lib.hid (ownsRow_below HO.out b6); replace b6 := below_chain hb b6; have hs6 := b6.size; clear ho6 r6))
            go_roundw
            case rel => exact ⟨k + 1, by omega, by go_num, (by rw [HSU2.out]; exact HO6.out), b6⟩
            case measure => simp [intOf]; omega
        · obtain rfl : k = rs.length := by omega
          rw [List.take_length] at hO
          have HO := Lib.hid hO
          clear hO
          go_wp2_with fail
          go_ret2
          exact ⟨_, rfl, ints_rowS HO.out rfl, hb⟩

set_option maxRecDepth 20000 in
set_option maxHeartbeats 4000000 in
theorem specNextDue_any (v v1 : Value) (rs : List Rec) (t : List Ru) (dy : Int) (w : World) (h : RowR 4 rRec w v rs) (h1 : RowR 4 rRu w v1 t) (x y : Int) (b : Bool) (hres : nextRes rs t dy = (x, y, b)) :
    Calls Try.prog 31 #[v, v1, .int .i64 dy] w fun e w' => e = .returned (.tuple #[.int .i64 x, .int .i64 y, .bool b]) ∧ Below w.heap.size w w' := by
  have H := Lib.hid h
  have H1 := Lib.hid h1
  obtain ⟨a1, c1, rfl, hl1, hm1, r1⟩ := h.recs
  have R1 := Lib.hid r1
  unfold maxLen at hm1
  obtain ⟨br, hr⟩ : ∃ b, areRecs rs = b := ⟨_, rfl⟩
  obtain ⟨bs, hs⟩ : ∃ b, isSch t = b := ⟨_, rfl⟩
  obtain ⟨bd, hd⟩ : ∃ b, decide (0 ≤ dy ∧ dy ≤ 20000) = b := ⟨_, rfl⟩
  have HR := Lib.hid hr
  have HS := Lib.hid hs
  have HD := Lib.hid hd
  have NO := Lib.hid (fun hn => nextRes_no hres hn)
  have HRES := Lib.hid hres
  clear h h1 r1 hr hs hd hres
  cases br
  · obtain ⟨rfl, rfl, rfl⟩ := NO.out (fun h => by rw [HR.out] at h; exact absurd h.1 (by simp))
    go_enter Try.func31, Try.ntmps31
    go_wp2_with (first | (go_at_call 91; refine (l2Records_any _ rs _ H.out).mono ?_; rw [HR.out]; rintro e w1 ⟨rfl, b1⟩))
    go_ret3
    exact ⟨rfl, b1⟩
  · cases bs
    · obtain ⟨rfl, rfl, rfl⟩ := NO.out (fun h => by rw [HS.out] at h; exact absurd h.2.1 (by simp))
      go_enter Try.func31, Try.ntmps31
      go_wp2_with (first | (go_at_call 91; refine (l2Records_any _ rs _ H.out).mono ?_; rw [HR.out]; rintro e w1 ⟨rfl, b1⟩) | (go_at_call 78; refine (l4Good_any _ t _ (H1.out.below rRu_stable b1)).mono ?_; rw [HS.out]; rintro e w2 ⟨rfl, b2⟩; replace b2 := below_chain b1 b2))
      go_ret3
      exact ⟨rfl, b2⟩
    · cases bd
      · obtain ⟨rfl, rfl, rfl⟩ := NO.out (fun h => of_decide_eq_false HD.out h.2.2.1)
        go_enter Try.func31, Try.ntmps31
        go_wp2_with (first | (go_at_call 91; refine (l2Records_any _ rs _ H.out).mono ?_; rw [HR.out]; rintro e w1 ⟨rfl, b1⟩) | (go_at_call 78; refine (l4Good_any _ t _ (H1.out.below rRu_stable b1)).mono ?_; rw [HS.out]; rintro e w2 ⟨rfl, b2⟩; replace b2 := below_chain b1 b2) | (go_at_call 79; refine (l2Day_any _ _).mono ?_; rw [HD.out]; rintro e w3 ⟨rfl, h3⟩; subst w3))
        go_ret3
        exact ⟨rfl, b2⟩
      · have hten := recs_ten HR.out
        have hdy := of_decide_eq_true HD.out
        go_enter Try.func31, Try.ntmps31
        go_wp2_with (first | (go_at_call 91; refine (l2Records_any _ rs _ H.out).mono ?_; rw [HR.out]; rintro e w1 ⟨rfl, b1⟩) | (go_at_call 78; refine (l4Good_any _ t _ (H1.out.below rRu_stable b1)).mono ?_; rw [HS.out]; rintro e w2 ⟨rfl, b2⟩; replace b2 := below_chain b1 b2) | (go_at_call 79; refine (l2Day_any _ _).mono ?_; rw [HD.out]; rintro e w3 ⟨rfl, h3⟩; subst w3))
        go_loopw [9, 10, 11] (fun bst lst i wr => ∃ (k : Nat) (p l : Int), k ≤ rs.length ∧ i = .int .i64 k ∧ bst = .int .i64 p ∧ lst = .int .i64 l ∧ Hid (nextF t dy (rs.drop k) p l = nextF t dy rs 0 (-1)) ∧ Below w.heap.size w wr) (fun _ _ i _ => rs.length - (intOf i).toNat)
        case atStart => exact ⟨0, 0, -1, Nat.zero_le _, rfl, rfl, rfl, Lib.hid rfl, b2⟩
        case round =>
          clear b2
          obtain ⟨k, p, l, hk, rfl, rfl, rfl, HF, hb⟩ := hrel
          by_cases hlt : k < rs.length
          · obtain ⟨bR, oR, hbR, rfl, e1⟩ := R1.out.resolve_left (fun e => by rw [e] at hlt; simp at hlt)
            obtain ⟨sv, q0, q1, q2, q3, hrow, hok⟩ := e1 k hlt
            obtain ⟨r, hx⟩ : ∃ s, rs.getD k recD = s := ⟨_, rfl⟩
            have hri : isRec r = true := by rw [← hx]; exact recs_at HR.out hlt
            rw [hx] at q0 q1 q2 hrow hok
            have hr0 := hrow
            obtain ⟨sa, sc, rfl, _⟩ := hr0
            have f0 := cell_kept q0 hb
            have f1 := cell_kept q1 hb
            have f2 := cell_kept q2 hb
            have f3 := cell_kept q3 hb
            have HV := Lib.hid (show ∀ W, Below w.heap.size w W → RecV W (.agg #[.int .i64 r.id, .int .i64 r.series, .int .i64 r.made, .slice sa r.evs.length sc]) r from fun W hb => ⟨_, rfl, hrow.below rEv_stable hb, hok⟩)
            have g0 : (0 : Int) ≤ (k : Int) := by omega
            have g1 : (k : Int) < (rs.length : Int) := by omega
            have hsz := hb.size
            obtain ⟨⟨y0, y1, y2, y3⟩, D, hdec⟩ : ∃ q d, decR r (forRu t r.series) = (q, d) := ⟨_, _, rfl⟩
            have hdue : dueF r t = D := by unfold dueF; rw [hdec]
            have hdrop := drop_rec hlt
            rw [hx] at hdrop
            have HFF := Lib.hid (by rw [hdrop, next_cons] at HF; exact HF.out : (if dy < dueF r t ∧ (l < 0 ∨ dueF r t < l) then nextF t dy (rs.drop (k + 1)) r.id (dueF r t) else nextF t dy (rs.drop (k + 1)) p l) = nextF t dy rs 0 (-1))
            rw [hdue] at HFF
            have HDEC := Lib.hid hdec
            have HFK := Lib.hid (show ∀ W, Below wr.heap.size wr W → W.cell? ⟨bR, oR + k * 4, none⟩ = some (.int .i64 r.id) from fun W hW => cell_kept f0 hW)
            clear q0 q1 q2 q3 hrow hx e1 hok hdec hdue hdrop HF
            by_cases hgt : dy < D
            · have hgd : decide (dy < D) = true := decide_eq_true hgt
              by_cases hl0 : l < 0
              · have hld : decide (l < 0) = true := decide_eq_true hl0
                have HZ := Lib.hid HFF.out
                rw [if_pos ⟨hgt, .inl hl0⟩] at HZ
                go_wp2_with (first | (go_at_call 72; refine (l6Deciding_any _ _ r t _ (HV.out _ hb) (H1.out.below rRu_stable hb) hri HS.out _ _ HDEC.out).mono ?_; rintro e w5 ⟨rfl, b5⟩; have f0 := HFK.out _ (below_al b5 (.cells #[.int .i64 y0, .int .i64 y1, .int .i64 y2, .int .i64 y3] 37 (0, 0))); replace b5 := below_chain hb (below_al b5 (.cells #[.int .i64 y0, .int .i64 y1, .int .i64 y2, .int .i64 y3] 37 (0, 0))); simp only))
                go_roundw
                case rel => exact ⟨k + 1, r.id, D, by omega, by go_num, rfl, rfl, HZ, b5⟩
                case measure => simp [intOf]; omega
              · have hld : decide (l < 0) = false := decide_eq_false hl0
                by_cases hls : D < l
                · have hlsd : decide (D < l) = true := decide_eq_true hls
                  have HZ := Lib.hid HFF.out
                  rw [if_pos ⟨hgt, .inr hls⟩] at HZ
                  go_wp2_with (first | (go_at_call 72; refine (l6Deciding_any _ _ r t _ (HV.out _ hb) (H1.out.below rRu_stable hb) hri HS.out _ _ HDEC.out).mono ?_; rintro e w5 ⟨rfl, b5⟩; have f0 := HFK.out _ (below_al b5 (.cells #[.int .i64 y0, .int .i64 y1, .int .i64 y2, .int .i64 y3] 37 (0, 0))); replace b5 := below_chain hb (below_al b5 (.cells #[.int .i64 y0, .int .i64 y1, .int .i64 y2, .int .i64 y3] 37 (0, 0))); simp only))
                  go_roundw
                  case rel => exact ⟨k + 1, r.id, D, by omega, by go_num, rfl, rfl, HZ, b5⟩
                  case measure => simp [intOf]; omega
                · have hlsd : decide (D < l) = false := decide_eq_false hls
                  have HZ := Lib.hid HFF.out
                  rw [if_neg (by rintro ⟨_, h | h⟩; exact hl0 h; exact hls h)] at HZ
                  go_wp2_with (first | (go_at_call 72; refine (l6Deciding_any _ _ r t _ (HV.out _ hb) (H1.out.below rRu_stable hb) hri HS.out _ _ HDEC.out).mono ?_; rintro e w5 ⟨rfl, b5⟩; have f0 := HFK.out _ (below_al b5 (.cells #[.int .i64 y0, .int .i64 y1, .int .i64 y2, .int .i64 y3] 37 (0, 0))); replace b5 := below_chain hb (below_al b5 (.cells #[.int .i64 y0, .int .i64 y1, .int .i64 y2, .int .i64 y3] 37 (0, 0))); simp only))
                  go_roundw
                  case rel => exact ⟨k + 1, p, l, by omega, by go_num, rfl, rfl, HZ, b5⟩
                  case measure => simp [intOf]; omega
            · have hgd : decide (dy < D) = false := decide_eq_false hgt
              have HZ := Lib.hid HFF.out
              rw [if_neg (fun h => hgt h.1)] at HZ
              go_wp2_with (first | (go_at_call 72; refine (l6Deciding_any _ _ r t _ (HV.out _ hb) (H1.out.below rRu_stable hb) hri HS.out _ _ HDEC.out).mono ?_; rintro e w5 ⟨rfl, b5⟩; have f0 := HFK.out _ (below_al b5 (.cells #[.int .i64 y0, .int .i64 y1, .int .i64 y2, .int .i64 y3] 37 (0, 0))); replace b5 := below_chain hb (below_al b5 (.cells #[.int .i64 y0, .int .i64 y1, .int .i64 y2, .int .i64 y3] 37 (0, 0))); simp only))
              go_roundw
              case rel => exact ⟨k + 1, p, l, by omega, by go_num, rfl, rfl, HZ, b5⟩
              case measure => simp [intOf]; omega
          · obtain rfl : k = rs.length := by omega
            have hfin := HF.out
            rw [List.drop_length] at hfin
            have hfin2 : nextF t dy rs 0 (-1) = (p, l) := hfin.symm
            by_cases hl0 : l < 0
            · obtain ⟨rfl, rfl, rfl⟩ := NO.out (fun h => by have := h.2.2.2; rw [hfin2] at this; simp only at this; omega)
              clear hfin hfin2
              go_wp2_with fail
              go_ret3
              exact ⟨rfl, hb⟩
            · have hq := HRES.out
              unfold nextRes at hq
              rw [if_pos ⟨HR.out, HS.out, hdy, by rw [hfin2]; simp only; omega⟩, hfin2] at hq
              obtain ⟨rfl, e2⟩ := Prod.mk.inj hq
              obtain ⟨rfl, rfl⟩ := Prod.mk.inj e2
              clear hfin hfin2 hq e2
              go_wp2_with fail
              go_ret3
              exact ⟨rfl, hb⟩

theorem specDueAfter_any (v v1 : Value) (r : Rec) (t : List Ru) (e : Ev) (w : World) (h : RecV w v r) (hsome : ∃ x0 x1 x2 g c, v = .agg #[x0, x1, x2, .slice (some ⟨g, 0, none⟩) r.evs.length c]) (he : e.ok) (h1 : RowR 4 rRu w v1 t) (d : Int) (b : Bool) (hres : aftRes r t e = (d, b)) :
    Calls Try.prog 22 #[v, v1, .agg #[.int .i64 e.kind, .int .i64 e.day]] w fun e w' => e = .returned (.tuple #[.int .i64 d, .bool b]) ∧ Below w.heap.size w w' := by
  obtain ⟨s, rfl, hs, hok⟩ := h
  have H1 := Lib.hid h1
  have HSO := Lib.hid hsome
  have b0 := below_al (below_al (Below.refl w.heap.size w) (RBOX r s 26)) (.cells #[.int .i64 e.kind, .int .i64 e.day] 43 (0, 0))
  have HV := Lib.hid (show ∀ W, Below w.heap.size w W → RecV W (.agg #[.int .i64 r.id, .int .i64 r.series, .int .i64 r.made, s]) r from fun W hb => ⟨s, rfl, hs.below rEv_stable hb, hok⟩)
  obtain ⟨q, k, hq⟩ : ∃ q k, addRes r e = (q, k) := ⟨_, _, rfl⟩
  have HQ := Lib.hid hq
  have HRES := Lib.hid hres
  clear hs hok h1 hres hq hsome
  cases k
  · have hd : d = 0 ∧ b = false := by
      have h2 := HRES.out
      have h3 := HQ.out
      unfold addRes at h3
      split at h3
      · cases h3
      · rename_i hc
        unfold aftRes at h2
        rw [if_neg hc] at h2
        cases h2
        exact ⟨rfl, rfl⟩
    obtain ⟨rfl, rfl⟩ := hd
    go_enter Try.func22, Try.ntmps22
    go_wp2_with (first | (go_at_call 77; refine (specAddEvent_any _ r e _ (HV.out _ b0) HSO.out he q false HQ.out).mono ?_; rintro en w1 ⟨v', rfl, ho, b1⟩; replace b1 := below_chain b0 b1; obtain ⟨sx, rfl, hox, _⟩ := ho; obtain ⟨sa, sn, sc, rfl⟩ := hox.1.slice; clear hox))
    go_ret2
    exact ⟨rfl, below_al b1 _⟩
  · have hdd : dueRes q t = (d, b) ∧ isRec q = true := by
      have h2 := HRES.out
      have h3 := HQ.out
      unfold addRes at h3
      split at h3
      · rename_i hc
        unfold aftRes at h2
        rw [if_pos hc] at h2
        cases h3
        exact ⟨h2, hc.2⟩
      · cases h3
    obtain ⟨hdd, hqr⟩ := hdd
    unfold dueRes at hdd
    obtain ⟨Q, D, hdec⟩ : ∃ a b, decR q (forRu t q.series) = (a, b) := ⟨_, _, rfl⟩
    have hdf : dueF q t = D := by unfold dueF; rw [hdec]
    obtain ⟨bs, hbs⟩ : ∃ b, isSch t = b := ⟨_, rfl⟩
    have HS := Lib.hid hbs
    have HQR := Lib.hid hqr
    have HDEC := Lib.hid hdec
    cases bs
    · rw [setF_no (.inl (by unfold askB; rw [hbs]; simp))] at hdd
      obtain ⟨rfl, rfl⟩ := Prod.mk.inj hdd
      clear hbs hqr hdec hdf hdd
      go_enter Try.func22, Try.ntmps22
      go_wp2_with (first | (go_at_call 77; refine (specAddEvent_any _ r e _ (HV.out _ b0) HSO.out he q true HQ.out).mono ?_; rintro en w1 ⟨v', rfl, ho, b1⟩; replace b1 := below_chain b0 b1; obtain ⟨sx, rfl, hox, hokx⟩ := ho; obtain ⟨sa, sn, sc, rfl⟩ := hox.1.slice; have HRX := Lib.hid (show ∀ W, Below w1.heap.size w1 W → RecV W (.agg #[.int .i64 q.id, .int .i64 q.series, .int .i64 q.made, .slice sa sn sc]) q from (fun W hW => ⟨_, rfl, hox.row.below rEv_stable hW, hokx⟩)); have HB4 := Lib.hid (Box4.new w1 q (.slice sa sn sc) 26); have bb1 := below_al (Below.refl w1.heap.size w1) (RBOX q (.slice sa sn sc) 26); replace b1 := below_al b1 (RBOX q (.slice sa sn sc) 26); clear hox hokx) | (go_at_call 78; refine (l4Good_any _ t _ (H1.out.below rRu_stable b1)).mono ?_; rw [HS.out]; rintro en w2 ⟨rfl, b2⟩; obtain ⟨c0, c1, c2, c3⟩ := HB4.out.kept b2; replace bb1 := below_chain bb1 b2; replace b2 := below_chain b1 b2))
      go_ret2
      exact ⟨rfl, b2⟩
    · by_cases hD : D < 0
      · rw [setF_no (.inr (by rw [hdf]; exact hD))] at hdd
        obtain ⟨rfl, rfl⟩ := Prod.mk.inj hdd
        clear hbs hqr hdec hdf hdd
        go_enter Try.func22, Try.ntmps22
        go_wp2_with (first | (go_at_call 77; refine (specAddEvent_any _ r e _ (HV.out _ b0) HSO.out he q true HQ.out).mono ?_; rintro en w1 ⟨v', rfl, ho, b1⟩; replace b1 := below_chain b0 b1; obtain ⟨sx, rfl, hox, hokx⟩ := ho; obtain ⟨sa, sn, sc, rfl⟩ := hox.1.slice; have HRX := Lib.hid (show ∀ W, Below w1.heap.size w1 W → RecV W (.agg #[.int .i64 q.id, .int .i64 q.series, .int .i64 q.made, .slice sa sn sc]) q from (fun W hW => ⟨_, rfl, hox.row.below rEv_stable hW, hokx⟩)); have HB4 := Lib.hid (Box4.new w1 q (.slice sa sn sc) 26); have bb1 := below_al (Below.refl w1.heap.size w1) (RBOX q (.slice sa sn sc) 26); replace b1 := below_al b1 (RBOX q (.slice sa sn sc) 26); clear hox hokx) | (go_at_call 78; refine (l4Good_any _ t _ (H1.out.below rRu_stable b1)).mono ?_; rw [HS.out]; rintro en w2 ⟨rfl, b2⟩; obtain ⟨c0, c1, c2, c3⟩ := HB4.out.kept b2; replace bb1 := below_chain bb1 b2; replace b2 := below_chain b1 b2) | (go_at_call 72; refine (l6Deciding_any _ _ q t _ (HRX.out _ bb1) (H1.out.below rRu_stable b2) HQR.out HS.out _ _ HDEC.out).mono ?_; rintro en w3 ⟨rfl, b3⟩; replace b3 := below_chain b2 b3; simp only))
        go_ret2
        exact ⟨rfl, below_al b3 _⟩
      · rw [setF_yes (ask_iff.2 ⟨hqr, hbs⟩) (by rw [hdf]; omega), hdf] at hdd
        obtain ⟨rfl, rfl⟩ := Prod.mk.inj hdd
        clear hbs hqr hdec hdf hdd
        go_enter Try.func22, Try.ntmps22
        go_wp2_with (first | (go_at_call 77; refine (specAddEvent_any _ r e _ (HV.out _ b0) HSO.out he q true HQ.out).mono ?_; rintro en w1 ⟨v', rfl, ho, b1⟩; replace b1 := below_chain b0 b1; obtain ⟨sx, rfl, hox, hokx⟩ := ho; obtain ⟨sa, sn, sc, rfl⟩ := hox.1.slice; have HRX := Lib.hid (show ∀ W, Below w1.heap.size w1 W → RecV W (.agg #[.int .i64 q.id, .int .i64 q.series, .int .i64 q.made, .slice sa sn sc]) q from (fun W hW => ⟨_, rfl, hox.row.below rEv_stable hW, hokx⟩)); have HB4 := Lib.hid (Box4.new w1 q (.slice sa sn sc) 26); have bb1 := below_al (Below.refl w1.heap.size w1) (RBOX q (.slice sa sn sc) 26); replace b1 := below_al b1 (RBOX q (.slice sa sn sc) 26); clear hox hokx) | (go_at_call 78; refine (l4Good_any _ t _ (H1.out.below rRu_stable b1)).mono ?_; rw [HS.out]; rintro en w2 ⟨rfl, b2⟩; obtain ⟨c0, c1, c2, c3⟩ := HB4.out.kept b2; replace bb1 := below_chain bb1 b2; replace b2 := below_chain b1 b2) | (go_at_call 72; refine (l6Deciding_any _ _ q t _ (HRX.out _ bb1) (H1.out.below rRu_stable b2) HQR.out HS.out _ _ HDEC.out).mono ?_; rintro en w3 ⟨rfl, b3⟩; replace b3 := below_chain b2 b3; simp only))
        go_ret2
        exact ⟨rfl, below_al b3 _⟩
end Go.Proofs.Ytnfcfinecjgakaa

namespace Go.Proofs.Ytnfcfinecjgakaa
set_option linter.unusedVariables false
open Go.RowKit Go.Sort

def heC (es : List (Rec × Value)) : List Value := (es.map (fun p => recC p.1 p.2)).flatten
theorem heC_snoc (es : List (Rec × Value)) (r : Rec) (s : Value) : heC (es ++ [(r, s)]) = heC es ++ recC r s := by simp [heC]
structure HeO (lo : Nat) (w : World) (v : Value) (es : List (Rec × Value)) : Prop where
  row : w.ownsRow lo 26 4 v es.length (heC es)
  each : ∀ p ∈ es, EvsO lo w.heap.size w p.2 p.1.evs ∧ p.1.ok ∧ ∀ g, p.2.ownBlock = some g → v.ownBlock ≠ some g
theorem HeO.below {lo : Nat} {w w' : World} {v : Value} {es : List (Rec × Value)} (h : HeO lo w v es) (hb : Below w.heap.size w w') : HeO lo w' v es :=
  ⟨ownsRow_below h.row hb, fun p hp => ⟨((h.each p hp).1.below hb).wide (Nat.le_refl _) hb.size, (h.each p hp).2⟩⟩
theorem HeO.alloc {lo : Nat} {w : World} {v : Value} {es : List (Rec × Value)} (h : HeO lo w v es) (o : Obj) : HeO lo (w.alloc o) v es := h.below (below_al (Below.refl _ _) o)
theorem HeO.grown {lo B : Nat} {w w' : World} {v : Value} {es : List (Rec × Value)} (h : HeO lo w v es) (hg : w.grownBy w' (some B)) (hB : B < lo) : HeO lo w' v es :=
  ⟨own_grown h.row hg hB, fun p hp => ⟨((h.each p hp).1.grown hg hB).wide (Nat.le_refl _) hg.size, (h.each p hp).2⟩⟩
theorem HeO.app {lo : Nat} {w w' : World} {v v' : Value} {es : List (Rec × Value)} {r : Rec} {s : Value} (h : HeO lo w v es) (he : EvsO lo w.heap.size w s r.evs) (hok : r.ok) (ha : ∀ g, s.ownBlock = some g → v.ownBlock ≠ some g)
    (hown : w'.ownsRow lo 26 4 v' (es.length + 1) (heC es ++ recC r s)) (hg : w.grownBy w' v.ownBlock) (hat : v'.ownBlock = v.ownBlock ∨ v'.ownBlock = some w.heap.size) : HeO lo w' v' (es ++ [(r, s)]) := by
  have key : ∀ (q : Rec) (u : Value), EvsO lo w.heap.size w u q.evs → (∀ g, u.ownBlock = some g → v.ownBlock ≠ some g) → EvsO lo w'.heap.size w' u q.evs ∧ ∀ g, u.ownBlock = some g → v'.ownBlock ≠ some g := by
    intro q u h1 h2
    refine ⟨(h1.offr hg h2).wide (Nat.le_refl _) hg.size, fun g e1 e2 => ?_⟩
    rcases hat with e | e
    · exact h2 g e1 (by rw [← e]; exact e2)
    · rw [e] at e2; cases e2
      have := h1.2.2 _ e1
      omega
  refine ⟨by rw [heC_snoc, List.length_append]; exact hown, fun p hp => ?_⟩
  rcases List.mem_append.1 hp with hp | hp
  · obtain ⟨a, b⟩ := key p.1 p.2 (h.each p hp).1 (h.each p hp).2.2
    exact ⟨a, (h.each p hp).2.1, b⟩
  · rw [List.mem_singleton.1 hp]
    obtain ⟨a, b⟩ := key r s he ha
    exact ⟨a, hok, b⟩
theorem HeO.reads {lo : Nat} {w : World} {v : Value} {es : List (Rec × Value)} (h : HeO lo w v es) : RowR 4 rRec w v (es.map Prod.fst) := by
  refine RowR.of_owns (css := es.map (fun p => recC p.1 p.2)) (by rw [List.length_map]; exact h.row) (by simp) (fun cs hc => ?_) (fun i h1 h2 => ?_)
  · obtain ⟨p, _, rfl⟩ := List.mem_map.1 hc; rfl
  · have hi : i < es.length := by simpa using h1
    have hm := h.each es[i] (List.getElem_mem hi)
    rw [List.getElem_map, List.getElem_map]
    exact ⟨es[i].2, rfl, hm.1.row, hm.2.1⟩
theorem HeO.start {L : Nat} {w : World} (hL : w.heap.size = L) : HeO L (w.alloc (.cells #[] 26 (0, 0))) (.slice (some ⟨L, 0, none⟩) 0 0) [] := by
  subst hL
  exact ⟨World.ownsRow_made w #[] 0 (Nat.le_refl _) (Nat.zero_le _) rfl, fun p hp => by cases hp⟩
theorem HeO.lt {lo : Nat} {w : World} {a : Option Addr} {n c : Nat} {es : List (Rec × Value)} (h : HeO lo w (.slice a n c) es) : ∀ g, Value.ownBlock (.slice a n c) = some g → g < w.heap.size := fun g hg => (h.row.lt g hg).2
theorem HeO.slice {lo : Nat} {w : World} {v : Value} {es : List (Rec × Value)} (h : HeO lo w v es) : ∃ a c, v = .slice a es.length c := by
  rcases h.row.2 with ⟨rfl, h0⟩ | ⟨g, cap, cur, e, _⟩
  · exact ⟨none, 0, by rw [h0]⟩
  · exact ⟨_, _, e⟩
def HeldDrawn (w : World) (B K : Nat) (e : Ending) (w' : World) : Prop := ∃ v es, e = .returned v ∧ es.length ≤ 12 ∧ HeO w.heap.size w' v es ∧ Cur w' B K ∧ w.grownBy w' (some B)

set_option maxRecDepth 20000 in
set_option maxHeartbeats 4000000 in
theorem held_any (B K : Nat) (w : World) (h : Cur w B K) (hK : K ≤ 30000) :
    Calls Try.prog 86 #[.pointer (some ⟨B, 0, none⟩)] w (HeldDrawn w B (K + 700)) := by
  obtain ⟨i0, hi, hz0, hz1, hz2⟩ := info_parts Try.info_record
  have hlt := h.lt
  have HD0 : Hid (Dk w (w.alloc (.cells #[] 26 (0, 0))) B K) := Lib.hid ((Dk.start h).al _)
  have HO0 : Hid (HeO w.heap.size (w.alloc (.cells #[] 26 (0, 0))) (.slice (some ⟨w.heap.size, 0, none⟩) 0 0) []) := Lib.hid (HeO.start rfl)
  clear h
  go_enter Try.func86, Try.ntmps86
  go_wp2_with fail
  go_loopw [3, 4] (fun l n wr => ∃ (k : Nat) (a : Option Addr) (c : Nat) (es : List (Rec × Value)), 1 ≤ k ∧ k ≤ 8 ∧ n = .int .i64 k ∧ l = .slice a es.length c ∧ es.length + 1 ≤ k ∧ Hid (HeO w.heap.size wr (.slice a es.length c) es) ∧ Hid (Dk w wr B (K + 62 * k))) (fun _ n _ => 8 - (intOf n).toNat)
  case atStart => exact ⟨1, _, _, [], Nat.le_refl _, by omega, rfl, rfl, by simp, HO0, Lib.hid (HD0.out.le (by omega))⟩
  case round =>
    clear HO0 HD0
    obtain ⟨k, a, c, es, hk1, hk8, rfl, rfl, hel, HO, HD⟩ := hrel
    by_cases hpos : k < 8
    · have gk : (k : Int) < 8 := by omega
      have hkw : IntKind.i64.wrap (11 * (k : Int)) = 11 * (k : Int) := Go.IntWalk.i64_in _ (by omega)
      have hkw2 : IntKind.i64.wrap ((k : Int) + 1) = ((k + 1 : Nat) : Int) := by rw [Go.IntWalk.i64_in _ (by omega)]; omega
      go_wp2_with fail
      refine (one_any B (K + 62 * k) 2 _ HD.out.cur (by omega) (by omega) (by omega)).mono ?_
      rintro e w2 ⟨b, rfl, hc, hg⟩
      have HD2 := Lib.hid (HD.out.step hc hg)
      have HO2 := Lib.hid (HO.out.grown hg hlt)
      clear hc hg HD HO
      cases b
      · go_wp2_with fail
        go_roundw
        case rel => exact ⟨k + 1, a, c, es, by omega, by omega, by first | rfl | go_num, rfl, by omega, HO2, Lib.hid (HD2.out.le (by omega))⟩
        case measure => simp [intOf]; omega
      · go_wp2_with fail
        refine (record_any B (K + 62 * k + 2) (11 * (k : Int)) _ HD2.out.cur (by omega) (by unfold inI; omega)).mono ?_
        rintro e w3 ⟨⟨id, se, ma, xs⟩, g, c2, rfl, hok, hma, hxl, he, hc, hg⟩
        have hs2 := HD2.out.sz
        have HAP : Hid (∀ gg, Value.ownBlock (.slice (some ⟨g, 0, none⟩) xs.length c2) = some gg → Value.ownBlock (.slice a es.length c) ≠ some gg) := Lib.hid (fun gg e1 e2 => by have h1 := HO2.out.lt gg e2; have h2 := he.1.ge gg e1; omega)
        have HD3 := Lib.hid (HD2.out.step hc hg)
        have HO3 := Lib.hid (HO2.out.grown hg hlt)
        have HE3 := Lib.hid (he.wide hs2 (Nat.le_refl _))
        have HOK := Lib.hid hok
        have hsz := HD3.out.sz
        clear hc hg HD2 HO2 he hok
        simp only
        go_wp2_with (first | (at_builtin; refine wpList_append_own_at _ rfl _ _ 51 rfl w.heap.size 26 i0 (.agg #[.int .i64 0, .int .i64 0, .int .i64 0, .slice none 0 0]) 4 48 Try.underlying51 hi hz0 hz1 hz2 rfl (by decide) (.slice a es.length c) es.length (heC es) rfl (HO3.out.row.alloc _) ⟨w3.heap.size, 0, none⟩ 1 1 [.int .i64 id, .int .i64 se, .int .i64 ma, .slice (some ⟨g, 0, none⟩) xs.length c2] rfl rfl (cells4_new' _ _ _ _ _ _ (by simp)) (by simp [Value.oneCell']) (by unfold maxLen; omega) (by omega) (by simp; omega) ?_; intro v' w4 hown' hgrow _ hat))
        have HX4 := Lib.hid ((HO3.out.alloc (.cells #[.int .i64 id, .int .i64 se, .int .i64 ma, .slice (some ⟨g, 0, none⟩) xs.length c2] 26 (0, 0))).app (r := ⟨id, se, ma, xs⟩) (s := .slice (some ⟨g, 0, none⟩) xs.length c2) ((HE3.out.alloc _).wide (Nat.le_refl _) (by simp)) HOK.out HAP.out hown' hgrow hat)
        have HD4 := Lib.hid ((HD3.out.al (.cells #[.int .i64 id, .int .i64 se, .int .i64 ma, .slice (some ⟨g, 0, none⟩) xs.length c2] 26 (0, 0))).app hgrow (fun k hk => (HO3.out.row.lt k hk).1) hlt)
        obtain ⟨na, nc, rfl⟩ := HX4.out.slice
        clear hown' hgrow hat
        go_wp2_with fail
        go_roundw
        case rel => exact ⟨k + 1, na, nc, es ++ [(⟨id, se, ma, xs⟩, .slice (some ⟨g, 0, none⟩) xs.length c2)], by omega, by omega, by first | rfl | go_num, by simp, by simp; omega, by simpa using HX4, Lib.hid (HD4.out.le (by omega))⟩
        case measure => simp [intOf]; omega
    · have gk : decide ((k : Int) < 8) = false := decide_eq_false (by omega)
      have hk : k = 8 := by omega
      obtain ⟨M, hM⟩ : ∃ M, K + 62 * k = M := ⟨_, rfl⟩
      have hM2 : M = K + 496 := by omega
      rw [hM] at HD
      clear hM hk1 hk8
      have hel7 : es.length ≤ 7 := by omega
      clear hel
      go_wp2_with fail
      refine (pick_any B M 32 _ HD.out.cur (by omega) (by omega) (by omega)).mono ?_
      rintro e w1 ⟨m, rfl, hm0, hm1, hc, hg⟩
      have HD1 := Lib.hid (HD.out.step hc hg)
      have HO1 := Lib.hid (HO.out.grown hg hlt)
      clear hc hg HD HO hk
      by_cases e0 : m = 0
      · subst e0
        go_wp2_with fail
        refine (amongZ_any B (M + 2) w1.heap.size 0 4 4 [0, 11, 999, 1000] _ (HD1.out.al (.cells (([0, 11, 999, 1000] : List Int).map (Value.int .i64)).toArray 3)).cur (by omega) rfl (by omega) (by omega) (by have := HD1.out.cur.lt; omega) (new_nums w1 [0, 11, 999, 1000] 3 _ rfl)).mono ?_
        rintro e w2 ⟨nid, rfl, mnid, hc, hg⟩
        have HD2 := Lib.hid ((HD1.out.al (.cells (([0, 11, 999, 1000] : List Int).map (Value.int .i64)).toArray 3)).step hc hg)
        have HO2 := Lib.hid ((HO1.out.alloc (.cells (([0, 11, 999, 1000] : List Int).map (Value.int .i64)).toArray 3)).grown hg hlt)
        have bnid : 0 ≤ nid ∧ nid ≤ 1000 := by simp at mnid; omega
        clear hc hg mnid HD1 HO1
        go_wp2_with fail
        refine (record_any B (M + 2 + 2) nid _ HD2.out.cur (by omega) (by unfold inI; omega)).mono ?_
        rintro e w3 ⟨⟨id, se, ma, xs⟩, g, c2, rfl, hok, hma, hxl, he, hc, hg⟩
        have hs2 := HD2.out.sz
        have HAP : Hid (∀ gg, Value.ownBlock (.slice (some ⟨g, 0, none⟩) xs.length c2) = some gg → Value.ownBlock (.slice a es.length c) ≠ some gg) := Lib.hid (fun gg e1 e2 => by have h1 := HO2.out.lt gg e2; have h2 := he.1.ge gg e1; omega)
        have HD3 := Lib.hid (HD2.out.step hc hg)
        have HO3 := Lib.hid (HO2.out.grown hg hlt)
        have HE3 := Lib.hid (he.wide hs2 (Nat.le_refl _))
        have HOK := Lib.hid hok
        have hsz := HD3.out.sz
        clear hc hg HD2 HO2 he hok
        simp only
        go_wp2_with (first | (at_builtin; refine wpList_append_own_at _ rfl _ _ 51 rfl w.heap.size 26 i0 (.agg #[.int .i64 0, .int .i64 0, .int .i64 0, .slice none 0 0]) 4 48 Try.underlying51 hi hz0 hz1 hz2 rfl (by decide) (.slice a es.length c) es.length (heC es) rfl (HO3.out.row.alloc _) ⟨w3.heap.size, 0, none⟩ 1 1 [.int .i64 id, .int .i64 se, .int .i64 ma, .slice (some ⟨g, 0, none⟩) xs.length c2] rfl rfl (cells4_new' _ _ _ _ _ _ (by simp)) (by simp [Value.oneCell']) (by unfold maxLen; omega) (by omega) (by simp; omega) ?_; intro v' w4 hown' hgrow _ hat))
        have HX4 := Lib.hid ((HO3.out.alloc (.cells #[.int .i64 id, .int .i64 se, .int .i64 ma, .slice (some ⟨g, 0, none⟩) xs.length c2] 26 (0, 0))).app (r := ⟨id, se, ma, xs⟩) (s := .slice (some ⟨g, 0, none⟩) xs.length c2) ((HE3.out.alloc _).wide (Nat.le_refl _) (by simp)) HOK.out HAP.out hown' hgrow hat)
        have HD4 := Lib.hid ((HD3.out.al (.cells #[.int .i64 id, .int .i64 se, .int .i64 ma, .slice (some ⟨g, 0, none⟩) xs.length c2] 26 (0, 0))).app hgrow (fun k hk => (HO3.out.row.lt k hk).1) hlt)
        obtain ⟨na, nc, rfl⟩ := HX4.out.slice
        clear hown' hgrow hat
        go_wp2_with fail
        go_ret
        exact ⟨_, _, rfl, by simp; omega, HX4.out, HD4.out.cur.le_K (by omega), HD4.out.gr⟩
      · have b0 : (m == 0) = false := beq_eq_false_iff_ne.2 e0
        by_cases e1 : m = 1
        · subst e1
          go_wp2_with fail
          go_loopw [3] (fun l wr => ∃ (a : Option Addr) (c : Nat) (es : List (Rec × Value)), es.length ≤ 11 ∧ l = .slice a es.length c ∧ Hid (HeO w.heap.size wr (.slice a es.length c) es) ∧ Hid (Dk w wr B (M + 2 + 2 * es.length))) (fun l _ => match l with | .slice _ n _ => 14 - n | _ => 0)
          case atStart => exact ⟨a, c, es, by omega, rfl, HO1, Lib.hid (HD1.out.le (by omega))⟩
          case round =>
            clear HO1 HD1 hel7
            obtain ⟨a, c, es, ht, rfl, HO, HD⟩ := hrel
            go_wp2_with fail
            refine (pick_any B (M + 2 + 2 * es.length) 2 _ HD.out.cur (by omega) (by omega) (by omega)).mono ?_
            rintro e w3 ⟨d, rfl, hd0, hd1, hc, hg⟩
            have HD3 := Lib.hid (HD.out.step hc hg)
            have HO3 := Lib.hid (HO.out.grown hg hlt)
            have hsz := HD3.out.sz
            clear hc hg HD HO
            have hw : IntKind.i64.wrap (10 + d) = 10 + d := Go.IntWalk.i64_in _ (by omega)
            have hw2 : IntKind.i64.wrap (200 + (es.length : Int)) = 200 + (es.length : Int) := Go.IntWalk.i64_in _ (by omega)
            by_cases hq : (es.length : Int) < 10 + d
            · have hq2 : decide ((es.length : Int) < 10 + d) = true := decide_eq_true hq
              have hel9 : es.length ≤ 10 := by omega
              have HOE := Lib.hid (HO3.out.alloc (.cells #[] 43 (0, 0)))
              have HEV : Hid (EvsO w.heap.size (w3.alloc (.cells #[] 43 (0, 0))).heap.size (w3.alloc (.cells #[] 43 (0, 0))) (.slice (some ⟨w3.heap.size, 0, none⟩) 0 0) []) := Lib.hid (EvsO.empty' rfl hsz)
              have HAP : Hid (∀ gg, Value.ownBlock (.slice (some ⟨w3.heap.size, 0, none⟩) 0 0) = some gg → Value.ownBlock (.slice a es.length c) ≠ some gg) := Lib.hid (fun gg e1 e2 => by have := HO3.out.lt gg e2; simp [Value.ownBlock] at e1; omega)
              go_wp2_with (first | (at_builtin; refine wpList_append_own_at _ rfl _ _ 51 rfl w.heap.size 26 i0 (.agg #[.int .i64 0, .int .i64 0, .int .i64 0, .slice none 0 0]) 4 48 Try.underlying51 hi hz0 hz1 hz2 rfl (by decide) (.slice a es.length c) es.length (heC es) rfl ((HO3.out.row.alloc _).alloc _) ⟨w3.heap.size + 1, 0, none⟩ 1 1 [.int .i64 (200 + (es.length : Int)), .int .i64 1, .int .i64 0, .slice (some ⟨w3.heap.size, 0, none⟩) 0 0] rfl rfl (cells4_new' _ _ _ _ _ _ (by simp)) (by simp [Value.oneCell']) (by unfold maxLen; omega) (by omega) (by simp; omega) ?_; intro v' w4 hown' hgrow _ hat))
              have HX4 := Lib.hid ((HOE.out.alloc (.cells #[.int .i64 (200 + (es.length : Int)), .int .i64 1, .int .i64 0, .slice (some ⟨w3.heap.size, 0, none⟩) 0 0] 26 (0, 0))).app (r := ⟨200 + (es.length : Int), 1, 0, []⟩) (s := .slice (some ⟨w3.heap.size, 0, none⟩) 0 0) ((HEV.out.alloc _).wide (Nat.le_refl _) (by simp)) ⟨by simp only [inI]; omega, by simp [inI], by simp [inI]⟩ HAP.out hown' hgrow hat)
              have HD4 := Lib.hid (((HD3.out.al (.cells #[] 43 (0, 0))).al (.cells #[.int .i64 (200 + (es.length : Int)), .int .i64 1, .int .i64 0, .slice (some ⟨w3.heap.size, 0, none⟩) 0 0] 26 (0, 0))).app hgrow (fun k hk => (HO3.out.row.lt k hk).1) hlt)
              obtain ⟨na, nc, rfl⟩ := HX4.out.slice
              clear hown' hgrow hat
              go_wp2_with fail
              go_roundw
              case rel => exact ⟨na, nc, es ++ [(⟨200 + (es.length : Int), 1, 0, []⟩, .slice (some ⟨w3.heap.size, 0, none⟩) 0 0)], by simp; omega, rfl, HX4, Lib.hid (HD4.out.le (by simp; omega))⟩
              case measure => simp; omega
            · have hq2 : decide ((es.length : Int) < 10 + d) = false := decide_eq_false hq
              go_wp2_with fail
              go_ret
              exact ⟨_, es, rfl, by omega, HO3.out, HD3.out.cur.le_K (by omega), HD3.out.gr⟩
        · have b1 : (m == 1) = false := beq_eq_false_iff_ne.2 e1
          go_wp2_with fail
          go_ret
          exact ⟨_, es, rfl, by omega, HO1.out, HD1.out.cur.le_K (by omega), HD1.out.gr⟩
end Go.Proofs.Ytnfcfinecjgakaa

namespace Go.Proofs.Ytnfcfinecjgakaa
set_option linter.unusedVariables false
open Go.RowKit Go.Sort

def NotsDrawn (w : World) (e : Ending) (w' : World) : Prop := ∃ (v v1 : Value) (rs : List Rec) (t : List Ru), e = .returned (.tuple #[v, v1]) ∧ rs.length ≤ 12 ∧ t.length ≤ 16 ∧ RowR 4 rRec w' v rs ∧ RowR 4 rRu w' v1 t ∧ Below w.heap.size w w'
set_option maxRecDepth 20000 in
set_option maxHeartbeats 4000000 in
theorem drawNotScheduled_any (a : Option Addr) (len cap : Nat) (zs : List Int) (w : World) (h : IsRow .u8 w a len cap zs) (hl : len ≤ 1099511627776) :
    Calls Try.prog 32 #[.slice a len cap] w (NotsDrawn w) := by
  have hcur := cur_new h hl 94
  have HD0 : Hid (Dk w (w.alloc (.cells #[.slice a len cap, .int .i64 0, .int .u64 0] 94 (0, 0))) w.heap.size 0) := Lib.hid ⟨hcur, grownBy_of_below (below_al (Below.refl _ _) _) _⟩
  clear h hcur
  go_enter Try.func32, Try.ntmps32
  go_wp2_with fail
  refine (held_any w.heap.size 0 _ HD0.out.cur (by omega)).mono ?_
  rintro e w2 ⟨v, es, rfl, hel, ho, hc, hg⟩
  have HD2 := Lib.hid (HD0.out.step hc hg)
  have HO2 : Hid (HeO (w.heap.size + 1) w2 v es) := Lib.hid (by simpa using ho)
  have hs2 := hg.size
  simp at hs2
  clear hc hg ho HD0
  go_wp2_with fail
  refine (schedule_any w.heap.size (0 + 700) _ HD2.out.cur (by omega)).mono ?_
  rintro e w3 ⟨v1, t, rfl, htl, hr, hc, hg⟩
  have HD3 := Lib.hid (HD2.out.step hc hg)
  have HO3 := Lib.hid (HO2.out.grown hg (by omega))
  have HU3 := Lib.hid hr
  have hs3 := hg.size
  clear hc hg hr HD2 HO2
  go_wp2_with fail
  go_ret2
  exact ⟨v, v1, es.map Prod.fst, t, rfl, by simpa using hel, htl, HO3.out.reads, HU3.out.row, below_of_grownBy HD3.out.gr (Nat.le_refl _) (fun k e => by cases e; omega)⟩
def NextDrawn (w : World) (e : Ending) (w' : World) : Prop := ∃ (v v1 : Value) (rs : List Rec) (t : List Ru) (n : Int), e = .returned (.tuple #[v, v1, .int .i64 n]) ∧ rs.length ≤ 12 ∧ t.length ≤ 16 ∧ inI n ∧ RowR 4 rRec w' v rs ∧ RowR 4 rRu w' v1 t ∧ Below w.heap.size w w'
set_option maxRecDepth 20000 in
set_option maxHeartbeats 4000000 in
theorem drawNextDue_any (a : Option Addr) (len cap : Nat) (zs : List Int) (w : World) (h : IsRow .u8 w a len cap zs) (hl : len ≤ 1099511627776) :
    Calls Try.prog 29 #[.slice a len cap] w (NextDrawn w) := by
  have hcur := cur_new h hl 94
  have HD0 : Hid (Dk w (w.alloc (.cells #[.slice a len cap, .int .i64 0, .int .u64 0] 94 (0, 0))) w.heap.size 0) := Lib.hid ⟨hcur, grownBy_of_below (below_al (Below.refl _ _) _) _⟩
  clear h hcur
  go_enter Try.func29, Try.ntmps29
  go_wp2_with fail
  refine (held_any w.heap.size 0 _ HD0.out.cur (by omega)).mono ?_
  rintro e w2 ⟨v, es, rfl, hel, ho, hc, hg⟩
  have HD2 := Lib.hid (HD0.out.step hc hg)
  have HO2 : Hid (HeO (w.heap.size + 1) w2 v es) := Lib.hid (by simpa using ho)
  have hs2 := hg.size
  simp at hs2
  clear hc hg ho HD0
  go_wp2_with fail
  refine (schedule_any w.heap.size (0 + 700) _ HD2.out.cur (by omega)).mono ?_
  rintro e w3 ⟨v1, t, rfl, htl, hr, hc, hg⟩
  have HD3 := Lib.hid (HD2.out.step hc hg)
  have HO3 := Lib.hid (HO2.out.grown hg (by omega))
  have HU3 := Lib.hid hr
  have hs3 := hg.size
  clear hc hg hr HD2 HO2
  go_wp2_with fail
  refine (day_any w.heap.size (0 + 700 + 400) _ HD3.out.cur (by omega)).mono ?_
  rintro e w4 ⟨n, rfl, hn, hc, hg⟩
  have HD4 := Lib.hid (HD3.out.step hc hg)
  have HO4 := Lib.hid (HO3.out.grown hg (by omega))
  have HU4 := Lib.hid (HU3.out.grown hg (by omega))
  have hs4 := hg.size
  clear hc hg HD3 HO3 HU3
  go_wp2_with fail
  go_ret3
  exact ⟨v, v1, es.map Prod.fst, t, n, rfl, by simpa using hel, htl, hn, HO4.out.reads, HU4.out.row, below_of_grownBy HD4.out.gr (Nat.le_refl _) (fun k e => by cases e; omega)⟩
def DrecDrawn (w : World) (e : Ending) (w' : World) : Prop := ∃ (v v1 : Value) (rs : List Rec) (t : List Ru) (n m : Int), e = .returned (.tuple #[v, v1, .int .i64 n, .int .i64 m]) ∧ rs.length ≤ 12 ∧ t.length ≤ 16 ∧ inI n ∧ inI m ∧ RowR 4 rRec w' v rs ∧ RowR 4 rRu w' v1 t ∧ Below w.heap.size w w'
set_option maxRecDepth 20000 in
set_option maxHeartbeats 4000000 in
theorem drawDueRecords_any (a : Option Addr) (len cap : Nat) (zs : List Int) (w : World) (h : IsRow .u8 w a len cap zs) (hl : len ≤ 1099511627776) :
    Calls Try.prog 26 #[.slice a len cap] w (DrecDrawn w) := by
  have hcur := cur_new h hl 94
  have HD0 : Hid (Dk w (w.alloc (.cells #[.slice a len cap, .int .i64 0, .int .u64 0] 94 (0, 0))) w.heap.size 0) := Lib.hid ⟨hcur, grownBy_of_below (below_al (Below.refl _ _) _) _⟩
  clear h hcur
  go_enter Try.func26, Try.ntmps26
  go_wp2_with fail
  refine (held_any w.heap.size 0 _ HD0.out.cur (by omega)).mono ?_
  rintro e w2 ⟨v, es, rfl, hel, ho, hc, hg⟩
  have HD2 := Lib.hid (HD0.out.step hc hg)
  have HO2 : Hid (HeO (w.heap.size + 1) w2 v es) := Lib.hid (by simpa using ho)
  have hs2 := hg.size
  simp at hs2
  clear hc hg ho HD0
  go_wp2_with fail
  refine (schedule_any w.heap.size (0 + 700) _ HD2.out.cur (by omega)).mono ?_
  rintro e w3 ⟨v1, t, rfl, htl, hr, hc, hg⟩
  have HD3 := Lib.hid (HD2.out.step hc hg)
  have HO3 := Lib.hid (HO2.out.grown hg (by omega))
  have HU3 := Lib.hid hr
  have hs3 := hg.size
  clear hc hg hr HD2 HO2
  go_wp2_with fail
  refine (day_any w.heap.size (0 + 700 + 400) _ HD3.out.cur (by omega)).mono ?_
  rintro e w4 ⟨n, rfl, hn, hc, hg⟩
  have HD4 := Lib.hid (HD3.out.step hc hg)
  have HO4 := Lib.hid (HO3.out.grown hg (by omega))
  have HU4 := Lib.hid (HU3.out.grown hg (by omega))
  have hs4 := hg.size
  clear hc hg HD3 HO3 HU3
  go_wp2_with fail
  refine (amongZ_any w.heap.size (0 + 700 + 400 + 2) w4.heap.size 0 6 6 [1, 2, 3, 3, 0, 4] _ (HD4.out.al (.cells (([1, 2, 3, 3, 0, 4] : List Int).map (Value.int .i64)).toArray 3)).cur (by omega) rfl (by omega) (by omega) (by have := HD4.out.cur.lt; omega) (new_nums w4 [1, 2, 3, 3, 0, 4] 3 _ rfl)).mono ?_
  rintro e w5 ⟨m, rfl, mm, hc, hg⟩
  have HD5 := Lib.hid ((HD4.out.al (.cells (([1, 2, 3, 3, 0, 4] : List Int).map (Value.int .i64)).toArray 3)).step hc hg)
  have HO5 := Lib.hid ((HO4.out.alloc (.cells (([1, 2, 3, 3, 0, 4] : List Int).map (Value.int .i64)).toArray 3)).grown hg (by omega))
  have HU5 := Lib.hid ((HU4.out.alloc (.cells (([1, 2, 3, 3, 0, 4] : List Int).map (Value.int .i64)).toArray 3)).grown hg (by omega))
  have hm : inI m := by have : 0 ≤ m ∧ m ≤ 4 := (by simp at mm; omega); unfold inI; omega
  clear hc hg mm HD4 HO4 HU4
  go_wp2_with fail
  refine bodyPost_ret (v := .tuple #[v, v1, .int .i64 n, .int .i64 m]) (by simp [results, Try.results26, go_sem]) rfl ?_
  exact ⟨v, v1, es.map Prod.fst, t, n, m, rfl, by simpa using hel, htl, hn, hm, HO5.out.reads, HU5.out.row, below_of_grownBy HD5.out.gr (Nat.le_refl _) (fun k e => by cases e; omega)⟩
def IsdDrawn (w : World) (e : Ending) (w' : World) : Prop := ∃ (r : Rec) (g c : Nat) (v : Value) (t : List Ru) (n : Int), e = .returned (.tuple #[.agg #[.int .i64 r.id, .int .i64 r.series, .int .i64 r.made, .slice (some ⟨g, 0, none⟩) r.evs.length c], v, .int .i64 n]) ∧ r.ok ∧ r.evs.length ≤ 8 ∧
  EvsO w.heap.size w'.heap.size w' (.slice (some ⟨g, 0, none⟩) r.evs.length c) r.evs ∧ t.length ≤ 16 ∧ RusO w.heap.size w'.heap.size w' v t ∧ inI n ∧ Below w.heap.size w w'
set_option maxRecDepth 20000 in
set_option maxHeartbeats 8000000 in
theorem drawIsDue_any (a : Option Addr) (len cap : Nat) (zs : List Int) (w : World) (h : IsRow .u8 w a len cap zs) (hl : len ≤ 1099511627776) :
    Calls Try.prog 23 #[.slice a len cap] w (IsdDrawn w) := by
  obtain ⟨R, hR⟩ : ∃ R, w.heap.size = R := ⟨_, rfl⟩
  obtain ⟨B, hB⟩ : ∃ B, R + 1 = B := ⟨_, rfl⟩
  have hRB : R < B := by omega
  have hwR : w.heap.size ≤ R := by omega
  have hs0 : (w.alloc (.cells #[.int .i64 0, .int .i64 0, .int .i64 0, .slice none 0 0] 26 (0, 0))).heap.size = B := by simp; omega
  have hs1 : ((w.alloc (.cells #[.int .i64 0, .int .i64 0, .int .i64 0, .slice none 0 0] 26 (0, 0))).alloc (.cells #[.slice a len cap, .int .i64 0, .int .u64 0] 94 (0, 0))).heap.size = B + 1 := by simp; omega
  have hcur := cur_new (isRow_after6 h (below_al (Below.refl _ _) (.cells #[.int .i64 0, .int .i64 0, .int .i64 0, .slice none 0 0] 26 (0, 0)))) hl 94
  rw [hs0] at hcur
  have HD0 : Hid (Dk w ((w.alloc (.cells #[.int .i64 0, .int .i64 0, .int .i64 0, .slice none 0 0] 26 (0, 0))).alloc (.cells #[.slice a len cap, .int .i64 0, .int .u64 0] 94 (0, 0))) B 0) := Lib.hid ⟨hcur, grownBy_of_below (below_al (below_al (Below.refl _ _) _) _) _⟩
  have HR0 : Hid (BxV ((w.alloc (.cells #[.int .i64 0, .int .i64 0, .int .i64 0, .slice none 0 0] 26 (0, 0))).alloc (.cells #[.slice a len cap, .int .i64 0, .int .u64 0] 94 (0, 0))) R [.int .i64 0, .int .i64 0, .int .i64 0, .slice none 0 0]) := Lib.hid ((BxV.new' hR _ _).al _)
  have HS1 := Lib.hid hs1
  have HS0 := Lib.hid hs0
  clear h hcur hs0 hs1
  have HRE := Lib.hid hR
  have HBE := Lib.hid hB
  clear hR hB
  go_enter Try.func23, Try.ntmps23
  go_upto_region 2 with fail
  try rw [HRE.out]
  try rw [HBE.out]
  generalize hW1 : (w.alloc (.cells #[.int .i64 0, .int .i64 0, .int .i64 0, .slice none 0 0] 26 (0, 0))).alloc (.cells #[.slice a len cap, .int .i64 0, .int .u64 0] 94 (0, 0)) = W1 at *
  have HW1 := Lib.hid hW1
  clear hW1
  go_wp2_with fail
  refine (record_any B 0 12 _ HD0.out.cur (by omega) (by unfold inI; omega)).mono ?_
  rintro e w2 ⟨⟨id, se, ma, xs⟩, g, c, rfl, hok, hma, hxl, he, hc, hg⟩
  rw [HS1.out] at he
  (try dsimp only at hok hma hxl he)
  (try dsimp only)
  obtain ⟨iid, ise, ima⟩ := hok
  have HD2 := Lib.hid (HD0.out.step hc hg)
  have HR2 := Lib.hid (HR0.out.grown hg (by simp; omega))
  have HE2 := Lib.hid he
  have hB2 : B < w2.heap.size := hc.lt
  clear hc hg he HD0 HR0
  obtain ⟨F, hF⟩ : ∃ F, w2.heap.size = F := ⟨_, rfl⟩
  have hBF : B < F := by omega
  have HB3 : Hid (BxV (w2.alloc (.cells #[.int .i64 id, .int .i64 se, .int .i64 ma, .slice (some ⟨g, 0, none⟩) xs.length c] 26 (0, 0))) F [.int .i64 id, .int .i64 se, .int .i64 ma, .slice (some ⟨g, 0, none⟩) xs.length c]) := Lib.hid (BxV.new' hF _ _)
  have HD3 := Lib.hid (HD2.out.al (.cells #[.int .i64 id, .int .i64 se, .int .i64 ma, .slice (some ⟨g, 0, none⟩) xs.length c] 26 (0, 0)))
  have HR3 := Lib.hid (HR2.out.al (.cells #[.int .i64 id, .int .i64 se, .int .i64 ma, .slice (some ⟨g, 0, none⟩) xs.length c] 26 (0, 0)))
  have HE3 : Hid (EvsO (B + 1) F (w2.alloc (.cells #[.int .i64 id, .int .i64 se, .int .i64 ma, .slice (some ⟨g, 0, none⟩) xs.length c] 26 (0, 0))) (.slice (some ⟨g, 0, none⟩) xs.length c) xs) := Lib.hid (by have := HE2.out.alloc (.cells #[.int .i64 id, .int .i64 se, .int .i64 ma, .slice (some ⟨g, 0, none⟩) xs.length c] 26 (0, 0)); rwa [hF] at this)
  go_upto_region 3 with fail
  try rw [hF]
  have HFE := Lib.hid hF
  clear hF HD2 HR2 HE2 hB2
  generalize hW3 : w2.alloc (.cells #[.int .i64 id, .int .i64 se, .int .i64 ma, .slice (some ⟨g, 0, none⟩) xs.length c] 26 (0, 0)) = W3 at *
  have HW3 := Lib.hid hW3
  clear hW3
  have c0 := HB3.out.cell 0
  have c1 := HB3.out.cell 1
  have c2 := HB3.out.cell 2
  have c3 := HB3.out.cell 3
  simp at c0 c1 c2 c3
  go_wp2_with fail
  refine (suited_any B 60 (B + 1) F id se ma g c xs _ HD3.out.cur (by omega) HE3.out (by omega) (by have := HB3.out.lt; omega) ise (by omega)).mono ?_
  rintro e w4 ⟨v, t, rfl, htl, hr, hc, hg⟩
  have HD4 := Lib.hid (HD3.out.step hc hg)
  have HR4 := Lib.hid (HR3.out.grown hg (by simp; omega))
  have HB4 := Lib.hid (HB3.out.grown hg (by simp; omega))
  have HE4 := Lib.hid (HE3.out.grown hg (by omega))
  have HU4 : Hid (RusO F w4.heap.size w4 v t) := Lib.hid (hr.wide (by have := HB3.out.lt; omega) (Nat.le_refl _))
  have hs4 := hg.size
  have hs3 := HB3.out.lt
  replace c0 := HB4.out.cell 0
  replace c1 := HB4.out.cell 1
  replace c2 := HB4.out.cell 2
  replace c3 := HB4.out.cell 3
  simp at c0 c1 c2 c3
  clear hc hg hr HD3 HR3 HB3 HE3
  obtain ⟨dd, db, hdu⟩ : ∃ d b, dueRes ⟨id, se, ma, xs⟩ t = (d, b) := ⟨_, _, rfl⟩
  obtain ⟨bl, hbl⟩ : ∃ b, decide ((0 : Int) ≤ dd ∧ dd ≤ 20000) = b := ⟨_, rfl⟩
  have HDU := Lib.hid hdu
  have HBL := Lib.hid hbl
  clear hdu hbl
  go_wp2_with fail
  refine (specDueDay_any _ _ ⟨id, se, ma, xs⟩ t _ ⟨_, rfl, HE4.out.row, ⟨iid, ise, ima⟩⟩ HU4.out.row dd db HDU.out).mono ?_
  rintro e w5 ⟨rfl, b5⟩
  have HD5 := Lib.hid (HD4.out.below b5)
  have HR5 := Lib.hid (HR4.out.below b5)
  have HB5 := Lib.hid (HB4.out.below b5)
  have HE5 := Lib.hid (HE4.out.below b5)
  have HU5 : Hid (RusO F w5.heap.size w5 v t) := Lib.hid ((HU4.out.below b5).wide (Nat.le_refl _) b5.size)
  have hs5 := b5.size
  replace c0 := HB5.out.cell 0
  replace c1 := HB5.out.cell 1
  replace c2 := HB5.out.cell 2
  replace c3 := HB5.out.cell 3
  simp at c0 c1 c2 c3
  clear b5 HD4 HR4 HB4 HE4 HU4
  cases db
  · go_wp2_with fail
    go_region_held3 (fun w' => w'.cell? ⟨F, 0, none⟩ = some (.int .i64 id) ∧ w'.cell? ⟨F, 1, none⟩ = some (.int .i64 se) ∧ w'.cell? ⟨F, 2, none⟩ = some (.int .i64 ma) ∧ w'.cell? ⟨F, 3, none⟩ = some (.slice (some ⟨g, 0, none⟩) xs.length c)) (first | with_reducible exact ⟨c0, c1, c2, c3⟩ | with_reducible exact ⟨cell_drew c0, cell_drew c1, cell_drew c2, cell_drew c3⟩ | (refine ⟨?_, ?_, ?_, ?_⟩ <;> (repeat rw [World.cell?_setCell_far _ _ _ _ (by simp; omega)]) <;> first | assumption | go_keep)) (first | (go_at_call 82; refine (day_any B (0 + 60 + 500) _ HD5.out.drew.cur (by omega)).mono ?_; rintro e w9 ⟨n, rfl, hn, hc, hg⟩; have HD9 := Lib.hid (HD5.out.drew.step hc hg); have HR9 := Lib.hid (HR5.out.drew.grown hg (by simp; omega)); have HB9 := Lib.hid (HB5.out.drew.grown hg (by simp; omega)); have HE9 := Lib.hid ((HE5.out.below (Below.refl _ _).drew).grown hg (by omega)); have HU9 := Lib.hid ((HU5.out.below (Below.refl _ _).drew).grown hg (by omega)); replace c0 := HB9.out.cell 0; replace c1 := HB9.out.cell 1; replace c2 := HB9.out.cell 2; replace c3 := HB9.out.cell 3; simp at c0 c1 c2 c3; have r0 := HR9.out.cell 0; have r1 := HR9.out.cell 1; have r2 := HR9.out.cell 2; have r3 := HR9.out.cell 3; simp at r0 r1 r2 r3; have q0 := HR9.out.frozen 0; have q1 := HR9.out.frozen 1; have q2 := HR9.out.frozen 2; have q3 := HR9.out.frozen 3; have hs9 := hg.size; clear hc hg))
    all_goals
      go_wp2_with fail
      refine bodyPost_ret (v := .tuple #[.agg #[.int .i64 id, .int .i64 se, .int .i64 ma, .slice (some ⟨g, 0, none⟩) xs.length c], v, .int .i64 n]) (by simp [results, Try.results23, go_sem, r0, r1, r2, r3]) rfl ?_
      have hne : ∀ k, Value.ownBlock (.slice (some ⟨g, 0, none⟩) xs.length c) = some k → k ≠ R := fun k hk => by have := HE9.out.1.ge g rfl; simp [Value.ownBlock] at hk; omega
      have hnu : ∀ k, Value.ownBlock v = some k → k ≠ R := fun k hk => by have := HU9.out.1.ge k hk; omega
      have hE := ((((HE9.out.setOther (G := R) (j := 0) (x := .int .i64 id) hne).setOther (G := R) (j := 1) (x := .int .i64 se) hne).setOther (G := R) (j := 2) (x := .int .i64 ma) hne).setOther (G := R) (j := 3) (x := .slice (some ⟨g, 0, none⟩) xs.length c) hne)
      have hU := ((((HU9.out.setOther (G := R) (j := 0) (x := .int .i64 id) hnu).setOther (G := R) (j := 1) (x := .int .i64 se) hnu).setOther (G := R) (j := 2) (x := .int .i64 ma) hnu).setOther (G := R) (j := 3) (x := .slice (some ⟨g, 0, none⟩) xs.length c) hnu)
      have hb9 : Below w.heap.size w w9 := below_of_grownBy HD9.out.gr (Nat.le_refl _) (fun k e => by cases e; omega)
      have hb := (((hb9.setCell (p := ⟨R, 0, none⟩) hwR (.int .i64 id)).setCell (p := ⟨R, 1, none⟩) hwR (.int .i64 se)).setCell (p := ⟨R, 2, none⟩) hwR (.int .i64 ma)).setCell (p := ⟨R, 3, none⟩) hwR (.slice (some ⟨g, 0, none⟩) xs.length c)
      have hs9' : w5.heap.size ≤ w9.heap.size := hs9
      exact ⟨⟨id, se, ma, xs⟩, g, c, v, t, n, rfl, ⟨iid, ise, ima⟩, hxl, hE.wide (by omega) (by simp; omega), htl, hU.wide (by omega) (by simp; omega), hn, hb⟩
  · cases bl
    · go_wp2_with (first | (go_at_call 79; refine (l2Day_any _ _).mono ?_; rw [HBL.out]; rintro e wq ⟨rfl, hwq⟩; subst wq))
      go_region_held3 (fun w' => w'.cell? ⟨F, 0, none⟩ = some (.int .i64 id) ∧ w'.cell? ⟨F, 1, none⟩ = some (.int .i64 se) ∧ w'.cell? ⟨F, 2, none⟩ = some (.int .i64 ma) ∧ w'.cell? ⟨F, 3, none⟩ = some (.slice (some ⟨g, 0, none⟩) xs.length c)) (first | with_reducible exact ⟨c0, c1, c2, c3⟩ | with_reducible exact ⟨cell_drew c0, cell_drew c1, cell_drew c2, cell_drew c3⟩ | (refine ⟨?_, ?_, ?_, ?_⟩ <;> (repeat rw [World.cell?_setCell_far _ _ _ _ (by simp; omega)]) <;> first | assumption | go_keep)) (first | (go_at_call 82; refine (day_any B (0 + 60 + 500) _ HD5.out.drew.cur (by omega)).mono ?_; rintro e w9 ⟨n, rfl, hn, hc, hg⟩; have HD9 := Lib.hid (HD5.out.drew.step hc hg); have HR9 := Lib.hid (HR5.out.drew.grown hg (by simp; omega)); have HB9 := Lib.hid (HB5.out.drew.grown hg (by simp; omega)); have HE9 := Lib.hid ((HE5.out.below (Below.refl _ _).drew).grown hg (by omega)); have HU9 := Lib.hid ((HU5.out.below (Below.refl _ _).drew).grown hg (by omega)); replace c0 := HB9.out.cell 0; replace c1 := HB9.out.cell 1; replace c2 := HB9.out.cell 2; replace c3 := HB9.out.cell 3; simp at c0 c1 c2 c3; have r0 := HR9.out.cell 0; have r1 := HR9.out.cell 1; have r2 := HR9.out.cell 2; have r3 := HR9.out.cell 3; simp at r0 r1 r2 r3; have q0 := HR9.out.frozen 0; have q1 := HR9.out.frozen 1; have q2 := HR9.out.frozen 2; have q3 := HR9.out.frozen 3; have hs9 := hg.size; clear hc hg))
      all_goals
        go_wp2_with fail
        refine bodyPost_ret (v := .tuple #[.agg #[.int .i64 id, .int .i64 se, .int .i64 ma, .slice (some ⟨g, 0, none⟩) xs.length c], v, .int .i64 n]) (by simp [results, Try.results23, go_sem, r0, r1, r2, r3]) rfl ?_
        have hne : ∀ k, Value.ownBlock (.slice (some ⟨g, 0, none⟩) xs.length c) = some k → k ≠ R := fun k hk => by have := HE9.out.1.ge g rfl; simp [Value.ownBlock] at hk; omega
        have hnu : ∀ k, Value.ownBlock v = some k → k ≠ R := fun k hk => by have := HU9.out.1.ge k hk; omega
        have hE := ((((HE9.out.setOther (G := R) (j := 0) (x := .int .i64 id) hne).setOther (G := R) (j := 1) (x := .int .i64 se) hne).setOther (G := R) (j := 2) (x := .int .i64 ma) hne).setOther (G := R) (j := 3) (x := .slice (some ⟨g, 0, none⟩) xs.length c) hne)
        have hU := ((((HU9.out.setOther (G := R) (j := 0) (x := .int .i64 id) hnu).setOther (G := R) (j := 1) (x := .int .i64 se) hnu).setOther (G := R) (j := 2) (x := .int .i64 ma) hnu).setOther (G := R) (j := 3) (x := .slice (some ⟨g, 0, none⟩) xs.length c) hnu)
        have hb9 : Below w.heap.size w w9 := below_of_grownBy HD9.out.gr (Nat.le_refl _) (fun k e => by cases e; omega)
        have hb := (((hb9.setCell (p := ⟨R, 0, none⟩) hwR (.int .i64 id)).setCell (p := ⟨R, 1, none⟩) hwR (.int .i64 se)).setCell (p := ⟨R, 2, none⟩) hwR (.int .i64 ma)).setCell (p := ⟨R, 3, none⟩) hwR (.slice (some ⟨g, 0, none⟩) xs.length c)
        have hs9' : w5.heap.size ≤ w9.heap.size := hs9
        exact ⟨⟨id, se, ma, xs⟩, g, c, v, t, n, rfl, ⟨iid, ise, ima⟩, hxl, hE.wide (by omega) (by simp; omega), htl, hU.wide (by omega) (by simp; omega), hn, hb⟩
    · have hd0 := of_decide_eq_true HBL.out
      go_wp2_with (first | (go_at_call 79; refine (l2Day_any _ _).mono ?_; rw [HBL.out]; rintro e wq ⟨rfl, hwq⟩; subst wq))
      refine (one_any B (0 + 60 + 500) 2 _ HD5.out.cur (by omega) (by omega) (by omega)).mono ?_
      rintro e w6 ⟨br, rfl, hc, hg⟩
      have HD6 := Lib.hid (HD5.out.step hc hg)
      have HR6 := Lib.hid (HR5.out.grown hg (by simp; omega))
      have HB6 := Lib.hid (HB5.out.grown hg (by simp; omega))
      have HE6 := Lib.hid (HE5.out.grown hg (by omega))
      have HU6 : Hid (RusO F w6.heap.size w6 v t) := Lib.hid ((HU5.out.grown hg (by omega)).wide (Nat.le_refl _) hg.size)
      have hs6 := hg.size
      replace c0 := HB6.out.cell 0
      replace c1 := HB6.out.cell 1
      replace c2 := HB6.out.cell 2
      replace c3 := HB6.out.cell 3
      simp at c0 c1 c2 c3
      clear hc hg HD5 HR5 HB5 HE5 HU5
      cases br
      · go_wp2_with fail
        go_region_held3 (fun w' => w'.cell? ⟨F, 0, none⟩ = some (.int .i64 id) ∧ w'.cell? ⟨F, 1, none⟩ = some (.int .i64 se) ∧ w'.cell? ⟨F, 2, none⟩ = some (.int .i64 ma) ∧ w'.cell? ⟨F, 3, none⟩ = some (.slice (some ⟨g, 0, none⟩) xs.length c)) (first | with_reducible exact ⟨c0, c1, c2, c3⟩ | with_reducible exact ⟨cell_drew c0, cell_drew c1, cell_drew c2, cell_drew c3⟩ | (refine ⟨?_, ?_, ?_, ?_⟩ <;> (repeat rw [World.cell?_setCell_far _ _ _ _ (by simp; omega)]) <;> first | assumption | go_keep)) (first | (go_at_call 82; refine (day_any B (0 + 60 + 500 + 2) _ HD6.out.drew.cur (by omega)).mono ?_; rintro e w9 ⟨n, rfl, hn, hc, hg⟩; have HD9 := Lib.hid (HD6.out.drew.step hc hg); have HR9 := Lib.hid (HR6.out.drew.grown hg (by simp; omega)); have HB9 := Lib.hid (HB6.out.drew.grown hg (by simp; omega)); have HE9 := Lib.hid ((HE6.out.below (Below.refl _ _).drew).grown hg (by omega)); have HU9 := Lib.hid ((HU6.out.below (Below.refl _ _).drew).grown hg (by omega)); replace c0 := HB9.out.cell 0; replace c1 := HB9.out.cell 1; replace c2 := HB9.out.cell 2; replace c3 := HB9.out.cell 3; simp at c0 c1 c2 c3; have r0 := HR9.out.cell 0; have r1 := HR9.out.cell 1; have r2 := HR9.out.cell 2; have r3 := HR9.out.cell 3; simp at r0 r1 r2 r3; have q0 := HR9.out.frozen 0; have q1 := HR9.out.frozen 1; have q2 := HR9.out.frozen 2; have q3 := HR9.out.frozen 3; have hs9 := hg.size; clear hc hg))
        all_goals
          go_wp2_with fail
          refine bodyPost_ret (v := .tuple #[.agg #[.int .i64 id, .int .i64 se, .int .i64 ma, .slice (some ⟨g, 0, none⟩) xs.length c], v, .int .i64 n]) (by simp [results, Try.results23, go_sem, r0, r1, r2, r3]) rfl ?_
          have hne : ∀ k, Value.ownBlock (.slice (some ⟨g, 0, none⟩) xs.length c) = some k → k ≠ R := fun k hk => by have := HE9.out.1.ge g rfl; simp [Value.ownBlock] at hk; omega
          have hnu : ∀ k, Value.ownBlock v = some k → k ≠ R := fun k hk => by have := HU9.out.1.ge k hk; omega
          have hE := ((((HE9.out.setOther (G := R) (j := 0) (x := .int .i64 id) hne).setOther (G := R) (j := 1) (x := .int .i64 se) hne).setOther (G := R) (j := 2) (x := .int .i64 ma) hne).setOther (G := R) (j := 3) (x := .slice (some ⟨g, 0, none⟩) xs.length c) hne)
          have hU := ((((HU9.out.setOther (G := R) (j := 0) (x := .int .i64 id) hnu).setOther (G := R) (j := 1) (x := .int .i64 se) hnu).setOther (G := R) (j := 2) (x := .int .i64 ma) hnu).setOther (G := R) (j := 3) (x := .slice (some ⟨g, 0, none⟩) xs.length c) hnu)
          have hb9 : Below w.heap.size w w9 := below_of_grownBy HD9.out.gr (Nat.le_refl _) (fun k e => by cases e; omega)
          have hb := (((hb9.setCell (p := ⟨R, 0, none⟩) hwR (.int .i64 id)).setCell (p := ⟨R, 1, none⟩) hwR (.int .i64 se)).setCell (p := ⟨R, 2, none⟩) hwR (.int .i64 ma)).setCell (p := ⟨R, 3, none⟩) hwR (.slice (some ⟨g, 0, none⟩) xs.length c)
          have hs9' : w6.heap.size ≤ w9.heap.size := hs9
          exact ⟨⟨id, se, ma, xs⟩, g, c, v, t, n, rfl, ⟨iid, ise, ima⟩, hxl, hE.wide (by omega) (by simp; omega), htl, hU.wide (by omega) (by simp; omega), hn, hb⟩
      · go_wp2_with fail
        go_region_held3 (fun w' => w'.cell? ⟨F, 0, none⟩ = some (.int .i64 id) ∧ w'.cell? ⟨F, 1, none⟩ = some (.int .i64 se) ∧ w'.cell? ⟨F, 2, none⟩ = some (.int .i64 ma) ∧ w'.cell? ⟨F, 3, none⟩ = some (.slice (some ⟨g, 0, none⟩) xs.length c)) (first | with_reducible exact ⟨c0, c1, c2, c3⟩ | with_reducible exact ⟨cell_drew c0, cell_drew c1, cell_drew c2, cell_drew c3⟩ | (refine ⟨?_, ?_, ?_, ?_⟩ <;> (repeat rw [World.cell?_setCell_far _ _ _ _ (by simp; omega)]) <;> first | assumption | go_keep)) (first | (go_at_call 81; refine (pick_any B (0 + 60 + 500 + 2) 2 _ HD6.out.drew.cur (by omega) (by omega) (by omega)).mono ?_; rintro e w9 ⟨p, rfl, hp0, hp1, hc, hg⟩; have HD9 := Lib.hid (HD6.out.drew.step hc hg); have HR9 := Lib.hid (HR6.out.drew.grown hg (by simp; omega)); have HB9 := Lib.hid (HB6.out.drew.grown hg (by simp; omega)); have HE9 := Lib.hid ((HE6.out.below (Below.refl _ _).drew).grown hg (by omega)); have HU9 := Lib.hid ((HU6.out.below (Below.refl _ _).drew).grown hg (by omega)); replace c0 := HB9.out.cell 0; replace c1 := HB9.out.cell 1; replace c2 := HB9.out.cell 2; replace c3 := HB9.out.cell 3; simp at c0 c1 c2 c3; have r0 := HR9.out.cell 0; have r1 := HR9.out.cell 1; have r2 := HR9.out.cell 2; have r3 := HR9.out.cell 3; simp at r0 r1 r2 r3; have q0 := HR9.out.frozen 0; have q1 := HR9.out.frozen 1; have q2 := HR9.out.frozen 2; have q3 := HR9.out.frozen 3; have hs9 := hg.size; have hwp : IntKind.i64.wrap (dd - p) = dd - p := Go.IntWalk.i64_in _ (by omega); clear hc hg))
        all_goals
          go_wp2_with fail
          refine bodyPost_ret (v := .tuple #[.agg #[.int .i64 id, .int .i64 se, .int .i64 ma, .slice (some ⟨g, 0, none⟩) xs.length c], v, .int .i64 (dd - p)]) (by simp [results, Try.results23, go_sem, r0, r1, r2, r3]) rfl ?_
          have hne : ∀ k, Value.ownBlock (.slice (some ⟨g, 0, none⟩) xs.length c) = some k → k ≠ R := fun k hk => by have := HE9.out.1.ge g rfl; simp [Value.ownBlock] at hk; omega
          have hnu : ∀ k, Value.ownBlock v = some k → k ≠ R := fun k hk => by have := HU9.out.1.ge k hk; omega
          have hE := ((((HE9.out.setOther (G := R) (j := 0) (x := .int .i64 id) hne).setOther (G := R) (j := 1) (x := .int .i64 se) hne).setOther (G := R) (j := 2) (x := .int .i64 ma) hne).setOther (G := R) (j := 3) (x := .slice (some ⟨g, 0, none⟩) xs.length c) hne)
          have hU := ((((HU9.out.setOther (G := R) (j := 0) (x := .int .i64 id) hnu).setOther (G := R) (j := 1) (x := .int .i64 se) hnu).setOther (G := R) (j := 2) (x := .int .i64 ma) hnu).setOther (G := R) (j := 3) (x := .slice (some ⟨g, 0, none⟩) xs.length c) hnu)
          have hb9 : Below w.heap.size w w9 := below_of_grownBy HD9.out.gr (Nat.le_refl _) (fun k e => by cases e; omega)
          have hb := (((hb9.setCell (p := ⟨R, 0, none⟩) hwR (.int .i64 id)).setCell (p := ⟨R, 1, none⟩) hwR (.int .i64 se)).setCell (p := ⟨R, 2, none⟩) hwR (.int .i64 ma)).setCell (p := ⟨R, 3, none⟩) hwR (.slice (some ⟨g, 0, none⟩) xs.length c)
          have hs9' : w6.heap.size ≤ w9.heap.size := hs9
          exact ⟨⟨id, se, ma, xs⟩, g, c, v, t, (dd - p), rfl, ⟨iid, ise, ima⟩, hxl, hE.wide (by omega) (by simp; omega), htl, hU.wide (by omega) (by simp; omega), (by unfold inI; omega), hb⟩
end Go.Proofs.Ytnfcfinecjgakaa

namespace Go.Proofs.Ytnfcfinecjgakaa
set_option linter.unusedVariables false
open Go.RowKit Go.Sort Go.ChangeShapes Go.WideShapes Go.ChangeAt

theorem isd_due {r : Rec} {t : List Ru} {d n : Int} {y one : Bool} (h : isdRes r t d = (y, true)) (h2 : dueRes r t = (n, one)) : y = (one && decide (n ≤ d)) := by
  unfold isdRes at h
  split at h
  · rename_i hc
    have hy := (Prod.mk.inj h).1
    unfold dueRes setF at h2
    by_cases h0 : 0 ≤ dueF r t
    · rw [if_pos ⟨hc.1, h0⟩] at h2
      obtain ⟨a, b⟩ := Prod.mk.inj h2
      simp only at a b
      rw [← hy, ← a, ← b]
      simp [h0]
    · rw [if_neg (fun k => h0 k.2)] at h2
      obtain ⟨a, b⟩ := Prod.mk.inj h2
      simp only at a b
      rw [← hy, ← b]
      simp [h0]
  · cases (Prod.mk.inj h).2
theorem recs_asc {rs : List Rec} (h : areRecs rs = true) : ∀ (d i : Nat), i + d + 1 < rs.length → (rs.getD i recD).id < (rs.getD (i + d + 1) recD).id := by
  have hu : ∀ k, k < rs.length → recAtB rs k = true := fun k hk => by
    unfold areRecs at h
    rw [Bool.and_eq_true] at h
    exact upto_iff.1 h.2 k hk
  intro d
  induction d with
  | zero =>
    intro i hi
    have := hu (i + 0 + 1) hi
    unfold recAtB at this
    rw [Bool.and_eq_true, decide_eq_true_eq] at this
    simpa [prevI] using this.2
  | succ d ih =>
    intro i hi
    have h1 := ih i (by omega)
    have := hu (i + (d + 1) + 1) hi
    unfold recAtB at this
    rw [Bool.and_eq_true, decide_eq_true_eq] at this
    have h2 : (rs.getD (i + d + 1) recD).id < (rs.getD (i + (d + 1) + 1) recD).id := by
      have := this.2
      rw [show i + (d + 1) + 1 = (i + d + 1) + 1 by omega] at this ⊢
      simpa [prevI] using this
    omega
theorem recs_ids {rs : List Rec} (h : areRecs rs = true) {i j : Nat} (hi : i < rs.length) (hj : j < rs.length) (e : (rs.getD i recD).id = (rs.getD j recD).id) : i = j := by
  rcases Nat.lt_trichotomy i j with c | c | c
  · have := recs_asc h (j - i - 1) i (by omega)
    rw [show i + (j - i - 1) + 1 = j by omega] at this; omega
  · exact c
  · have := recs_asc h (i - j - 1) j (by omega)
    rw [show j + (i - j - 1) + 1 = i by omega] at this; omega
theorem next_told {rs : List Rec} {t : List Ru} {d x y : Int} (h : nextRes rs t d = (x, y, true)) : d < y ∧ ∀ i, i < rs.length → ∀ (o : Int) (one : Bool), dueRes (rs.getD i recD) t = (o, one) → (one = true → d < o → ¬ o < y) ∧ ((rs.getD i recD).id = x → one = true ∧ o = y) := by
  unfold nextRes at h
  split at h
  · rename_i hc
    obtain ⟨hr, hs, hd, h0⟩ := hc
    obtain ⟨a1, a2⟩ := Prod.mk.inj h
    have a3 := (Prod.mk.inj a2).1
    obtain ⟨b1, b2, r0, hr0, e0⟩ := next_best hd.1 h0
    refine ⟨by omega, fun i hi o one ho => ?_⟩
    have hri := recs_at hr hi
    have hask : askB (rs.getD i recD) t = true := by unfold askB; rw [hri, hs]; rfl
    unfold dueRes setF at ho
    refine ⟨fun h1 h2 h3 => ?_, fun h1 => ?_⟩
    · subst h1
      by_cases hq : 0 ≤ dueF (rs.getD i recD) t
      · rw [if_pos ⟨hask, hq⟩] at ho
        have ho1 := (Prod.mk.inj ho).1
        simp only at ho1
        have hm : rs.getD i recD ∈ rs := by rw [getDr_lt hi]; exact List.getElem_mem hi
        exact b2 _ hm ⟨by omega, by omega⟩
      · rw [if_neg (fun k => hq k.2)] at ho
        have := (Prod.mk.inj ho).2
        simp at this
    · obtain ⟨j, hj, rfl⟩ := List.getElem_of_mem hr0
      rw [e0] at a1 a3 h0
      simp only at a1 a3 h0
      have : i = j := recs_ids hr hi hj (by rw [h1, ← a1, getDr_lt hj])
      subst this
      rw [getDr_lt hi] at ho hask
      rw [if_pos ⟨hask, h0⟩] at ho
      obtain ⟨c1, c2⟩ := Prod.mk.inj ho
      simp only at c1 c2
      exact ⟨c2.symm, by omega⟩
  · have := (Prod.mk.inj (Prod.mk.inj h).2).2
    cases this
set_option maxRecDepth 20000 in
set_option maxHeartbeats 8000000 in
theorem walkDue0 (a : Option Addr) (len cap : Nat) (zs : List Int) (W : World) (h : IsRow .u8 W a len cap zs) :
    Calls Try.prog 4 #[.slice a len cap] W fun e w' => e = .returned (.bool true) ∧ Below W.heap.size W w' := by
  have hlen := isRow_len h
  have H := Lib.hid h
  clear h
  obtain ⟨big, hbig⟩ : ∃ b, decide ((65536 : Int) < (len : Int)) = b := ⟨_, rfl⟩
  have HBIG := Lib.hid hbig
  clear hbig
  go_enter Try.func4, Try.ntmps4
  go_wp2_with fail
  refine (vBig_any a len cap _ big HBIG.out hlen).mono ?_
  rintro e w0 ⟨rfl, h0⟩
  subst h0
  cases big
  case true =>
    go_wp2_with fail
    go_ret
    exact ⟨rfl, Below.refl _ _⟩
  case false =>
    have hl : len ≤ 65536 := by have := of_decide_eq_false HBIG.out; omega
    go_wp2_with fail
    refine (drawIsDue_any a len cap zs _ H.out (by omega)).mono ?_
    rintro e w1 ⟨⟨id, se, ma, xs⟩, g, c, v1, t, n, rfl, hok, hxl, he, htl, hu, hn, b0⟩
    (try dsimp only at hok hxl he)
    (try dsimp only)
    have HOK := Lib.hid hok
    obtain ⟨F, hF⟩ : ∃ F, w1.heap.size = F := ⟨_, rfl⟩
    have HX : Hid (BxV (w1.alloc (.cells #[.int .i64 id, .int .i64 se, .int .i64 ma, .slice (some ⟨g, 0, none⟩) xs.length c] 26 (0, 0))) F [.int .i64 id, .int .i64 se, .int .i64 ma, .slice (some ⟨g, 0, none⟩) xs.length c]) := Lib.hid (BxV.new' hF _ _)
    have HEV : Hid (RowR 2 rEv (w1.alloc (.cells #[.int .i64 id, .int .i64 se, .int .i64 ma, .slice (some ⟨g, 0, none⟩) xs.length c] 26 (0, 0))) (.slice (some ⟨g, 0, none⟩) xs.length c) xs) := Lib.hid (he.row.below rEv_stable (below_al (Below.refl _ _) _))
    have HSC : Hid (RowR 4 rRu (w1.alloc (.cells #[.int .i64 id, .int .i64 se, .int .i64 ma, .slice (some ⟨g, 0, none⟩) xs.length c] 26 (0, 0))) v1 t) := Lib.hid (hu.row.below rRu_stable (below_al (Below.refl _ _) _))
    have HB : Hid (Below W.heap.size W (w1.alloc (.cells #[.int .i64 id, .int .i64 se, .int .i64 ma, .slice (some ⟨g, 0, none⟩) xs.length c] 26 (0, 0)))) := Lib.hid (b0.alloc b0.size _)
    have HI : Hid (IsRow .u8 (w1.alloc (.cells #[.int .i64 id, .int .i64 se, .int .i64 ma, .slice (some ⟨g, 0, none⟩) xs.length c] 26 (0, 0))) a len cap zs) := Lib.hid (isRow_after6 (isRow_after6 H.out b0) (below_al (Below.refl _ _) _))
    clear hok he hu b0
    go_upto_region 4 with fail
    try rw [hF]
    have HFE := Lib.hid hF
    clear hF
    generalize hW1 : w1.alloc (.cells #[.int .i64 id, .int .i64 se, .int .i64 ma, .slice (some ⟨g, 0, none⟩) xs.length c] 26 (0, 0)) = W1 at *
    have HW1 := Lib.hid hW1
    clear hW1
    obtain ⟨y, ok, hy⟩ : ∃ y b, isdRes ⟨id, se, ma, xs⟩ t n = (y, b) := ⟨_, _, rfl⟩
    have HY := Lib.hid hy
    have ey : (y != y) = false := by simp
    have eok : (ok != ok) = false := by simp
    clear hy
    have c0 := HX.out.cell 0
    have c1 := HX.out.cell 1
    have c2 := HX.out.cell 2
    have c3 := HX.out.cell 3
    simp at c0 c1 c2 c3
    go_wp2_with fail
    refine (implIsDue_any _ v1 ⟨id, se, ma, xs⟩ t n _ ⟨_, rfl, HEV.out, HOK.out⟩ HSC.out (by omega) y ok HY.out).mono ?_
    rintro e y1 ⟨rfl, b1⟩
    replace HX := Lib.hid (HX.out.below b1)
    replace HEV := Lib.hid (HEV.out.below rEv_stable b1)
    replace HSC := Lib.hid (HSC.out.below rRu_stable b1)
    replace HI := Lib.hid (isRow_after6 HI.out b1)
    replace HB := Lib.hid (HB.out.trans (b1.mono HB.out.size))
    clear b1
    clear c0 c1 c2 c3
    have c0 := HX.out.cell 0
    have c1 := HX.out.cell 1
    have c2 := HX.out.cell 2
    have c3 := HX.out.cell 3
    simp at c0 c1 c2 c3
    go_wp2_with fail
    refine (specIsDue_any _ v1 ⟨id, se, ma, xs⟩ t n _ ⟨_, rfl, HEV.out, HOK.out⟩ HSC.out y ok HY.out).mono ?_
    rintro e y2 ⟨rfl, b2⟩
    replace HX := Lib.hid (HX.out.below b2)
    replace HEV := Lib.hid (HEV.out.below rEv_stable b2)
    replace HSC := Lib.hid (HSC.out.below rRu_stable b2)
    replace HI := Lib.hid (isRow_after6 HI.out b2)
    replace HB := Lib.hid (HB.out.trans (b2.mono HB.out.size))
    clear b2
    clear c0 c1 c2 c3
    have c0 := HX.out.cell 0
    have c1 := HX.out.cell 1
    have c2 := HX.out.cell 2
    have c3 := HX.out.cell 3
    simp at c0 c1 c2 c3
    go_upto_if 68 with fail
    go_cut [10, 11] from 38 to 229 (fun q r wx => Hid (IsRow .u8 wx a len cap zs) ∧ Hid (Below W.heap.size W wx))
    case first =>
      as_aux_lemma =>
        cases ok
        · go_wp2_with fail
          go_meet
          exact ⟨HI, HB⟩
        · obtain ⟨dd, one, hdd⟩ : ∃ d b, dueRes ⟨id, se, ma, xs⟩ t = (d, b) := ⟨_, _, rfl⟩
          have hyd := isd_due HY.out hdd
          have HDD := Lib.hid hdd
          clear hdd
          go_wp2_with fail
          refine (implDueDay_any _ v1 ⟨id, se, ma, xs⟩ t _ ⟨_, rfl, HEV.out, HOK.out⟩ HSC.out (by omega) dd one HDD.out).mono ?_
          rintro e y3 ⟨rfl, b3⟩
          replace HX := Lib.hid (HX.out.below b3)
          replace HEV := Lib.hid (HEV.out.below rEv_stable b3)
          replace HSC := Lib.hid (HSC.out.below rRu_stable b3)
          replace HI := Lib.hid (isRow_after6 HI.out b3)
          replace HB := Lib.hid (HB.out.trans (b3.mono HB.out.size))
          clear b3
          clear c0 c1 c2 c3
          cases one
          · have hyf : y = false := by rw [hyd]; rfl
            clear hyd HY
            subst hyf
            go_wp2_with fail
            go_meet
            exact ⟨HI, HB⟩
          · by_cases hle : dd ≤ n
            · have hyf : y = true := by rw [hyd, decide_eq_true hle]; rfl
              clear hyd HY
              subst hyf
              go_wp2_with fail
              go_meet
              exact ⟨HI, HB⟩
            · have hle2 : decide (dd ≤ n) = false := decide_eq_false hle
              have hyf : y = false := by rw [hyd, hle2]; rfl
              clear hyd HY
              subst hyf
              go_wp2_with fail
              go_meet
              exact ⟨HI, HB⟩
    case rest =>
      clear HX HEV HSC HI HB HY HOK ey eok c0 c1 c2 c3
      obtain ⟨HI, HB⟩ := hcut
      go_wp2_with fail
      refine (drawDueRecords_any a len cap zs _ HI.out (by omega)).mono ?_
      rintro e z1 ⟨p1, p2, rs1, t1, n1, m1, rfl, hl1, ht1, hn1, hm1, hr1, hu1, bA⟩
      replace HI := Lib.hid (isRow_after6 HI.out bA)
      replace HB := Lib.hid (HB.out.trans (bA.mono HB.out.size))
      have HR1 := Lib.hid hr1
      have HT1 := Lib.hid hu1
      obtain ⟨l1, k1, hd1⟩ : ∃ x b, drecRes rs1 t1 n1 m1 = (x, b) := ⟨_, _, rfl⟩
      have HD1 := Lib.hid hd1
      have ek1 : (k1 != k1) = false := by simp
      clear bA hr1 hu1 hd1
      go_wp2_with fail
      refine (implDueRecords_any _ _ rs1 t1 n1 m1 _ HR1.out HT1.out (by omega) l1 k1 HD1.out).mono ?_
      rintro e y4 ⟨u1, rfl, hx1, b4⟩
      replace HR1 := Lib.hid (HR1.out.below rRec_stable b4)
      replace HT1 := Lib.hid (HT1.out.below rRu_stable b4)
      replace HI := Lib.hid (isRow_after6 HI.out b4)
      replace HB := Lib.hid (HB.out.trans (b4.mono HB.out.size))
      clear b4
      have HX1 := Lib.hid hx1
      clear hx1
      go_wp2_with fail
      refine (specDueRecords_any _ _ rs1 t1 n1 m1 _ HR1.out HT1.out l1 k1 HD1.out).mono ?_
      rintro e y5 ⟨u2, rfl, hx2, b5⟩
      replace HR1 := Lib.hid (HR1.out.below rRec_stable b5)
      replace HT1 := Lib.hid (HT1.out.below rRu_stable b5)
      replace HI := Lib.hid (isRow_after6 HI.out b5)
      replace HX1 := Lib.hid (HX1.out.below b5)
      replace HB := Lib.hid (HB.out.trans (b5.mono HB.out.size))
      clear b5
      have HX2 := Lib.hid hx2
      clear hx2
      go_wp2_with fail
      refine (vInts_same _ _ l1 _ HX1.out.row HX2.out.row).mono ?_
      rintro e y6 ⟨rfl, b6⟩
      replace HI := Lib.hid (isRow_after6 HI.out b6)
      replace HB := Lib.hid (HB.out.trans (b6.mono HB.out.size))
      clear b6
      clear HX1 HX2 HR1 HT1 HD1 ek1
      go_wp2_with fail
      refine (drawNextDue_any a len cap zs _ HI.out (by omega)).mono ?_
      rintro e z2 ⟨p3, p4, rs2, t2, n2, rfl, hl2, ht2, hn2, hr1, hu1, bA⟩
      replace HI := Lib.hid (isRow_after6 HI.out bA)
      replace HB := Lib.hid (HB.out.trans (bA.mono HB.out.size))
      have HR1 := Lib.hid hr1
      have HT1 := Lib.hid hu1
      obtain ⟨x2, y2, k2, hd1⟩ : ∃ x y b, nextRes rs2 t2 n2 = (x, y, b) := ⟨_, _, _, rfl⟩
      have HD1 := Lib.hid hd1
      have ek2 : (k2 != k2) = false := by simp
      have ex2 : (x2 != x2) = false := by simp
      have ey2 : (y2 != y2) = false := by simp
      clear bA hr1 hu1 hd1
      go_wp2_with fail
      refine (implNextDue_any _ _ rs2 t2 n2 _ HR1.out HT1.out (by omega) x2 y2 k2 HD1.out).mono ?_
      rintro e y7 ⟨rfl, b7⟩
      replace HR1 := Lib.hid (HR1.out.below rRec_stable b7)
      replace HT1 := Lib.hid (HT1.out.below rRu_stable b7)
      replace HI := Lib.hid (isRow_after6 HI.out b7)
      replace HB := Lib.hid (HB.out.trans (b7.mono HB.out.size))
      clear b7
      go_wp2_with fail
      refine (specNextDue_any _ _ rs2 t2 n2 _ HR1.out HT1.out x2 y2 k2 HD1.out).mono ?_
      rintro e y8 ⟨rfl, b8⟩
      replace HR1 := Lib.hid (HR1.out.below rRec_stable b8)
      replace HT1 := Lib.hid (HT1.out.below rRu_stable b8)
      replace HI := Lib.hid (isRow_after6 HI.out b8)
      replace HB := Lib.hid (HB.out.trans (b8.mono HB.out.size))
      clear b8
      cases k2
      · go_wp2_with fail
        obtain ⟨av, cv, hv, hvl, hvm, hvr⟩ := HR1.out.recs
        subst hv
        unfold maxLen at hvm
        go_loopw [29, 30, 31] (fun i q r wr => ∃ k : Nat, k ≤ rs2.length ∧ i = .int .i64 k ∧ Hid (IsRow .u8 wr a len cap zs) ∧ Hid (Below W.heap.size W wr) ∧ Hid (RowR 4 rRec wr (.slice av rs2.length cv) rs2) ∧ Hid (RowR 4 rRu wr p4 t2)) (fun i _ _ _ => rs2.length - (intOf i).toNat)
        case atStart => exact ⟨0, Nat.zero_le _, rfl, HI, HB, HR1, HT1⟩
        case round =>
          clear HI HB HR1 HT1 hvr hvl hvm
          obtain ⟨k, hk, rfl, HI, HB, HR1, HT1⟩ := hrel
          by_cases hlt : (k : Int) < (rs2.length : Int)
          · go_wp2_with fail
            refine (drawNotScheduled_any a len cap zs _ HI.out (by omega)).mono ?_
            rintro e z3 ⟨p5, p6, rs3, t3, rfl, hl3, ht3, hr3, hu3, bA⟩
            replace HB := Lib.hid (HB.out.trans (bA.mono HB.out.size))
            have HR3 := Lib.hid hr3
            have HT3 := Lib.hid hu3
            obtain ⟨l3, k3, hd3⟩ : ∃ x b, notsRes rs3 t3 = (x, b) := ⟨_, _, rfl⟩
            have HD3 := Lib.hid hd3
            have ek3 : (k3 == k3) = true := by simp
            clear bA hr3 hu3 hd3
            go_wp2_with fail
            refine (implNotScheduled_any _ _ rs3 t3 _ HR3.out HT3.out (by omega) l3 k3 HD3.out).mono ?_
            rintro e z4 ⟨u3, rfl, hx3, bA⟩
            replace HB := Lib.hid (HB.out.trans (bA.mono HB.out.size))
            replace HR3 := Lib.hid (HR3.out.below rRec_stable bA)
            replace HT3 := Lib.hid (HT3.out.below rRu_stable bA)
            have HX3 := Lib.hid hx3
            clear bA hx3
            go_wp2_with fail
            refine (specNotScheduled_any _ _ rs3 t3 _ HR3.out HT3.out l3 k3 HD3.out).mono ?_
            rintro e z5 ⟨u4, rfl, hx4, bA⟩
            replace HB := Lib.hid (HB.out.trans (bA.mono HB.out.size))
            replace HX3 := Lib.hid (HX3.out.below bA)
            have HX4 := Lib.hid hx4
            clear bA hx4
            go_wp2_with fail
            refine (vInts_same _ _ l3 _ HX3.out.row HX4.out.row).mono ?_
            rintro e z6 ⟨rfl, bA⟩
            replace HB := Lib.hid (HB.out.trans (bA.mono HB.out.size))
            go_wp2_with fail
            go_ret
            exact ⟨rfl, HB.out⟩
          · have hge : ¬ (k : Int) < (rs2.length : Int) := hlt
            go_wp2_with fail
            refine (drawNotScheduled_any a len cap zs _ HI.out (by omega)).mono ?_
            rintro e z3 ⟨p5, p6, rs3, t3, rfl, hl3, ht3, hr3, hu3, bA⟩
            replace HB := Lib.hid (HB.out.trans (bA.mono HB.out.size))
            have HR3 := Lib.hid hr3
            have HT3 := Lib.hid hu3
            obtain ⟨l3, k3, hd3⟩ : ∃ x b, notsRes rs3 t3 = (x, b) := ⟨_, _, rfl⟩
            have HD3 := Lib.hid hd3
            have ek3 : (k3 == k3) = true := by simp
            clear bA hr3 hu3 hd3
            go_wp2_with fail
            refine (implNotScheduled_any _ _ rs3 t3 _ HR3.out HT3.out (by omega) l3 k3 HD3.out).mono ?_
            rintro e z4 ⟨u3, rfl, hx3, bA⟩
            replace HB := Lib.hid (HB.out.trans (bA.mono HB.out.size))
            replace HR3 := Lib.hid (HR3.out.below rRec_stable bA)
            replace HT3 := Lib.hid (HT3.out.below rRu_stable bA)
            have HX3 := Lib.hid hx3
            clear bA hx3
            go_wp2_with fail
            refine (specNotScheduled_any _ _ rs3 t3 _ HR3.out HT3.out l3 k3 HD3.out).mono ?_
            rintro e z5 ⟨u4, rfl, hx4, bA⟩
            replace HB := Lib.hid (HB.out.trans (bA.mono HB.out.size))
            replace HX3 := Lib.hid (HX3.out.below bA)
            have HX4 := Lib.hid hx4
            clear bA hx4
            go_wp2_with fail
            refine (vInts_same _ _ l3 _ HX3.out.row HX4.out.row).mono ?_
            rintro e z6 ⟨rfl, bA⟩
            replace HB := Lib.hid (HB.out.trans (bA.mono HB.out.size))
            go_wp2_with fail
            go_ret
            exact ⟨rfl, HB.out⟩
      · obtain ⟨hlt2, htold⟩ := next_told HD1.out
        have HTO := Lib.hid htold
        have hnl : decide (y2 ≤ n2) = false := decide_eq_false (by omega)
        clear htold
        go_wp2_with fail
        obtain ⟨av, cv, hv, hvl, hvm, hvr⟩ := HR1.out.recs
        subst hv
        unfold maxLen at hvm
        go_loopw [29, 30, 31] (fun i q r wr => ∃ k : Nat, k ≤ rs2.length ∧ i = .int .i64 k ∧ Hid (IsRow .u8 wr a len cap zs) ∧ Hid (Below W.heap.size W wr) ∧ Hid (RowR 4 rRec wr (.slice av rs2.length cv) rs2) ∧ Hid (RowR 4 rRu wr p4 t2)) (fun i _ _ _ => rs2.length - (intOf i).toNat)
        case atStart => exact ⟨0, Nat.zero_le _, rfl, HI, HB, HR1, HT1⟩
        case round =>
          clear HI HB HR1 HT1 hvr hvl hvm
          obtain ⟨k, hk, rfl, HI, HB, HR1, HT1⟩ := hrel
          by_cases hlt : k < rs2.length
          · obtain ⟨av', cv', hv', hvl, hvm, hvr⟩ := HR1.out.recs
            simp at hv'
            obtain ⟨rfl, rfl⟩ := hv'
            obtain ⟨bR, oR, hbR, rfl, e1⟩ := hvr.resolve_left (fun e => by rw [e] at hlt; simp at hlt)
            obtain ⟨⟨id3, se3, ma3, ys⟩, hx⟩ : ∃ s, rs2.getD k recD = s := ⟨_, rfl⟩
            obtain ⟨sv, q0, q1, q2, q3, hrow, hok3⟩ := e1 k hlt
            obtain ⟨o, one, hdd⟩ : ∃ d b, dueRes (rs2.getD k recD) t2 = (d, b) := ⟨_, _, rfl⟩
            obtain ⟨m1', m2'⟩ := HTO.out k hlt o one hdd
            rw [hx] at q0 q1 q2 hrow hok3 hdd m2'
            simp only at q0 q1 q2 hrow m2'
            have HDD := Lib.hid hdd
            have HV := Lib.hid (show RecV wr (.agg #[.int .i64 id3, .int .i64 se3, .int .i64 ma3, sv]) ⟨id3, se3, ma3, ys⟩ from ⟨sv, rfl, hrow, hok3⟩)
            have g0 : (0 : Int) ≤ (k : Int) := by omega
            have g1 : (k : Int) < (rs2.length : Int) := by omega
            have Q0 := Lib.hid q0
            have M1 := Lib.hid m1'
            have M2 := Lib.hid m2'
            clear hx hdd hrow hok3 m1' m2' e1 hvr
            go_wp2_with fail
            refine (implDueDay_any _ p4 ⟨id3, se3, ma3, ys⟩ t2 _ HV.out HT1.out (by omega) o one HDD.out).mono ?_
            rintro e z7 ⟨rfl, bA⟩
            replace HI := Lib.hid (isRow_after6 HI.out bA)
            replace HB := Lib.hid (HB.out.trans (bA.mono HB.out.size))
            replace HR1 := Lib.hid (HR1.out.below rRec_stable bA)
            replace HT1 := Lib.hid (HT1.out.below rRu_stable bA)
            have q0 := cell_kept Q0.out bA
            clear bA HV
            cases one
            · have hne : (id3 == x2) = false := beq_eq_false_iff_ne.2 (fun h => by have := (M2.out h).1; cases this)
              go_wp2_with fail
              go_roundw
              case rel => exact ⟨k + 1, by omega, by go_num, HI, HB, HR1, HT1⟩
              case measure => simp [intOf]; omega
            · by_cases hid : id3 = x2
              · have hq : (id3 == x2) = true := by simp [hid]
                have hoy := (M2.out hid).2
                have hoo : (o != y2) = false := by simp [hoy]
                have hlo : decide (o < y2) = false := decide_eq_false (by omega)
                have hgt : n2 < o := by omega
                clear hid hoy
                go_wp2_with fail
                go_roundw
                case rel => exact ⟨k + 1, by omega, by go_num, HI, HB, HR1, HT1⟩
                case measure => simp [intOf]; omega
              · have hq : (id3 == x2) = false := by simp [hid]
                clear hid
                by_cases hgt : n2 < o
                · have hlo : decide (o < y2) = false := decide_eq_false (fun q => absurd (M1.out rfl hgt) (by omega))
                  go_wp2_with fail
                  go_roundw
                  case rel => exact ⟨k + 1, by omega, by go_num, HI, HB, HR1, HT1⟩
                  case measure => simp [intOf]; omega
                · have hg2 : decide (n2 < o) = false := decide_eq_false hgt
                  go_wp2_with fail
                  go_roundw
                  case rel => exact ⟨k + 1, by omega, by go_num, HI, HB, HR1, HT1⟩
                  case measure => simp [intOf]; omega
          · have hge : ¬ (k : Int) < (rs2.length : Int) := by omega
            go_wp2_with fail
            refine (drawNotScheduled_any a len cap zs _ HI.out (by omega)).mono ?_
            rintro e z3 ⟨p5, p6, rs3, t3, rfl, hl3, ht3, hr3, hu3, bA⟩
            replace HB := Lib.hid (HB.out.trans (bA.mono HB.out.size))
            have HR3 := Lib.hid hr3
            have HT3 := Lib.hid hu3
            obtain ⟨l3, k3, hd3⟩ : ∃ x b, notsRes rs3 t3 = (x, b) := ⟨_, _, rfl⟩
            have HD3 := Lib.hid hd3
            have ek3 : (k3 == k3) = true := by simp
            clear bA hr3 hu3 hd3
            go_wp2_with fail
            refine (implNotScheduled_any _ _ rs3 t3 _ HR3.out HT3.out (by omega) l3 k3 HD3.out).mono ?_
            rintro e z4 ⟨u3, rfl, hx3, bA⟩
            replace HB := Lib.hid (HB.out.trans (bA.mono HB.out.size))
            replace HR3 := Lib.hid (HR3.out.below rRec_stable bA)
            replace HT3 := Lib.hid (HT3.out.below rRu_stable bA)
            have HX3 := Lib.hid hx3
            clear bA hx3
            go_wp2_with fail
            refine (specNotScheduled_any _ _ rs3 t3 _ HR3.out HT3.out l3 k3 HD3.out).mono ?_
            rintro e z5 ⟨u4, rfl, hx4, bA⟩
            replace HB := Lib.hid (HB.out.trans (bA.mono HB.out.size))
            replace HX3 := Lib.hid (HX3.out.below bA)
            have HX4 := Lib.hid hx4
            clear bA hx4
            go_wp2_with fail
            refine (vInts_same _ _ l3 _ HX3.out.row HX4.out.row).mono ?_
            rintro e z6 ⟨rfl, bA⟩
            replace HB := Lib.hid (HB.out.trans (bA.mono HB.out.size))
            go_wp2_with fail
            go_ret
            exact ⟨rfl, HB.out⟩
theorem walkDue (v0 : Value) (x0 : By8) (W : World) (hv0 : ByV W v0 x0) :
    Calls Try.prog 4 #[v0] W fun e w' => e = .returned (.bool true) ∧ Below W.heap.size W w' := by
  obtain ⟨a, len, cap, zs⟩ := x0
  obtain ⟨rfl, hi⟩ := hv0
  exact walkDue0 a len cap zs W hi

set_option maxRecDepth 100000 in
theorem fnDue_lifted (os : Os) (started : os.Started) (H : Type) (enc : TypeId × Value → H) :
    ReturnsInHanded {} Try.checked os 4 .any (Rows.fnDueSpec.pre6 enc Try.prog Try.f4 Rows.fnDueRow.domain false) (Rows.fnDueSpec.post enc Try.prog Try.f4 false true false false) := by
  refine returnsInHanded_of_change (C := Try.checked) Try.own started (by kernel_rfl) Try.func4
    (ChangeSpec.witness6 (enc := enc) (C := Try.checked) false ⟨#[], #[.slice none 0 0], []⟩ 8 (by kernel_rfl) (by kernel_rfl) (by kernel_rfl) (by kernel_rfl)) ?_
  intro W base args ds gs before hval0 hW hcnd _
  have hval : ∀ (j : Nat) t v, Try.f4.params[j]? = some t → args[j]? = some v → Value.okWide Try.prog W .any base t v := hval0
  have hW' := hW
  obtain ⟨p, q, hA0, hV, rfl, hfz, hnd⟩ := hW
  have hA : DataW.TrodAll enc Try.prog W 0 (fun _ => true) true Try.f4.params.toList args.toList ds p := hA0
  rw [Try.params4] at hA hval
  obtain ⟨v0, vs0, d0, ds0, p0, q0, hargs, rfl, rfl, h0, r0⟩ := trodAll_cons hA
  obtain ⟨rfl, rfl, rfl⟩ := trodAll_nil r0
  obtain rfl : args = #[v0] := by cases args; simp_all
  obtain ⟨rfl, rfl⟩ := trodVars_none hV
  obtain ⟨x0, w0⟩ := arg_code (hval 0 22 v0 rfl rfl) h0
  have lt0 : ∀ x ∈ p0, x.block < W.heap.size := by obtain ⟨m, hm⟩ := h0; exact DataW.trod_lt m _ _ _ hm
  clear hA0 hval0
  refine (walkDue v0 x0 W w0).mono fun e W' ⟨he, bel⟩ => ?_
  subst he
  exact ⟨_, rfl, _, _, _, [], _, [], hW', trodAll_mk1 (shut_bool Try.underlying4 _), (trodAll_cons_mk (Below.trod Try.laidOut (by kernel_rfl) (of_decide_eq_true (by kernel_rfl)) h0 bel lt0) trodAll_mk0), rfl, bel.frame _, fun h => by cases h⟩

theorem fnDue_proved : Rows.FnDueSaid :=
  OpenClaim.holds_of_wide 4 Try.f4 rfl rfl rfl rfl rfl rfl rfl ⟨rfl, rfl, rfl, rfl, rfl⟩ rfl rfl rfl rfl rfl (by kernel_rfl) Try.func4 (by kernel_rfl)
    (of_decide_eq_true (by kernel_rfl)) (by unfold Func.isWrapper; first | (rw [if_pos (by decide +kernel)]; kernel_rfl) | (rw [if_neg (by decide +kernel)]; exact ⟨rfl, rfl⟩))
    (fun os started H enc _ => fnDue_lifted os started H enc)
end Go.Proofs.Ytnfcfinecjgakaa
