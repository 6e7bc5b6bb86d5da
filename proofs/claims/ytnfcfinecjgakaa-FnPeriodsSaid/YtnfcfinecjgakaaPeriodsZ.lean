/- BytesNe, ArgBytes, ReadV, DrawPe, PerS2, PeriodsM, in one text. -/
import Derived.Test.YtnfcfinecjgakaaRowOf
import Derived.Test.YtnfcfinecjgakaaArg
import Derived.Test.YtnfcfinecjgakaaInts
import Derived.Test.YtnfcfinecjgakaaPick
import Derived.BigQuiet
import Derived.Lib.QuietBelow
import Derived.Test.YtnfcfinecjgakaaDrawRe
import Derived.Test.YtnfcfinecjgakaaDrawSu
import Derived.Test.YtnfcfinecjgakaaPerS
import Derived.Test.YtnfcfinecjgakaaAreRec
import Derived.Test.YtnfcfinecjgakaaRecs
import Derived.Test.YtnfcfinecjgakaaDayI
import Derived.Test.YtnfcfinecjgakaaInSer1
import Derived.Test.YtnfcfinecjgakaaAddS
import Derived.Deep.RegionHeld3
import Derived.Test.YtnfcfinecjgakaaPerDPI
import Derived.Test.YtnfcfinecjgakaaDayOf
import Derived.Test.YtnfcfinecjgakaaFrame
namespace Go.Proofs.Ytnfcfinecjgakaa
set_option linter.unusedVariables false
open Go.RowKit

theorem beq_bytes_ne {a b : ByteArray} (h : ¬ a = b) : (a.toList == b.toList) = false := by
  rw [beq_eq_false_iff_ne]
  intro e
  rw [ByteArray.toList_eq, ByteArray.toList_eq] at e
  exact h (ByteArray.ext (Array.ext' e))

end Go.Proofs.Ytnfcfinecjgakaa

namespace Go.Proofs.Ytnfcfinecjgakaa
set_option linter.unusedVariables false
set_option maxRecDepth 20000
open Go.RowKit Go.ChangeShapes Go.WideShapes Go.Deep

structure By8 where
  a : Option Addr
  len : Nat
  cap : Nat
  zs : List Int
def ByV (w : World) (v : Value) (x : By8) : Prop := v = .slice x.a x.len x.cap ∧ IsRow .u8 w x.a x.len x.cap x.zs
section
variable {H : Type} {enc : TypeId × Value → H} {w : World} {base b0 : Nat} {held : Bool} {r : Reach} {v : Value} {d : DataW H} {p : List MemPlace}
theorem arg_code (hv : Value.okWide Try.prog w r b0 22 v) (h : DataW.Trod enc Try.prog w base (fun _ => true) held 22 v d p) : ∃ x, ByV w v x := by
  obtain ⟨a0, len0, cap0, rfl⟩ := okWide_slice Try.underlying22 hv
  obtain ⟨fuel, hf⟩ := h
  rcases open_ints Try.underlying22 Try.underlying5 (by kernel_rfl) hf with ⟨hcs, _⟩ | ⟨x, l, c, zs, hcs, _, hl, hm, hz, _, hcell, hwz⟩
  · simp [Value.cells] at hcs
    obtain ⟨rfl, rfl, rfl⟩ := hcs
    exact ⟨⟨none, 0, 0, []⟩, rfl, .inl ⟨rfl, rfl, rfl, rfl⟩⟩
  · simp [Value.cells] at hcs
    obtain ⟨rfl, rfl, rfl⟩ := hcs
    exact ⟨⟨some x, len0, cap0, zs⟩, rfl, .inr ⟨_, rfl, hl, hm, by simpa using hz, hcell, hwz⟩⟩
end
end Go.Proofs.Ytnfcfinecjgakaa

namespace Go.Proofs.Ytnfcfinecjgakaa
set_option linter.unusedVariables false
open Go.RowKit Go.Sort

theorem vHas_any (v : Value) (xs : List Int) (x : Int) (w : World) (h : RowOf vI w v xs) :
    Calls Try.prog 19 #[v, .int .i64 x] w fun e w' => e = .returned (.bool (decide (x ∈ xs))) ∧ Below w.heap.size w w' := by
  have hcap := h.cap
  obtain ⟨a1, c1, rfl, hl1, hm1, r1⟩ := h
  have R1 := Lib.hid r1
  clear r1
  unfold maxLen at hm1
  go_enter Try.func19, Try.ntmps19
  go_wp2
  go_loopw [5] (fun i wr => ∃ k : Nat, k ≤ xs.length ∧ i = .int .i64 k ∧ Hid (¬ x ∈ xs.take k) ∧ Below w.heap.size w wr) (fun i _ => xs.length - (intOf i).toNat)
  case atStart => exact ⟨0, Nat.zero_le _, rfl, Lib.hid (by simp), Below.refl _ _⟩
  case round =>
    obtain ⟨k, hk, rfl, HN, hb⟩ := hrel
    by_cases hlt : k < xs.length
    · obtain ⟨b1, o1, hb1, rfl, e1⟩ := R1.out.resolve_left (fun e => by rw [e] at hlt; simp at hlt)
      obtain ⟨y, hy⟩ : ∃ s, xs[k] = s := ⟨_, rfl⟩
      have f1 := (hb.cell (p := ⟨b1, o1 + k, none⟩) hb1).trans (e1 k hlt)
      rw [hy] at f1
      simp only [vI] at f1
      have HY := Lib.hid hy
      have g0 : (0 : Int) ≤ (k : Int) := by omega
      have g1 : (k : Int) < (xs.length : Int) := by omega
      clear e1 hy
      by_cases he : y = x
      · have hq : (y == x) = true := by simp [he]
        have HE : Hid (x ∈ xs) := by rw [← he, ← HY.out]; exact List.getElem_mem hlt
        clear he
        go_wp2
        go_ret
        exact ⟨ret_bool (Eq.symm (decide_eq_true HE.out)), hb⟩
      · have hq : (y == x) = false := by simp [he]
        have HE : Hid (¬ x ∈ xs.take (k + 1)) := fun h => by
          rw [List.take_succ_eq_append_getElem hlt, List.mem_append, List.mem_singleton, HY.out] at h
          exact h.elim HN.out (fun h => he h.symm)
        clear he
        go_wp2
        go_roundw
        case rel => exact ⟨k + 1, by omega, by go_num, HE, hb⟩
        case measure => simp [intOf]; omega
    · have hkl : k = xs.length := by omega
      have HE : Hid (¬ x ∈ xs) := by have := HN.out; rwa [hkl, List.take_length] at this
      clear hkl
      go_wp2
      go_ret
      exact ⟨ret_bool (Eq.symm (decide_eq_false HE.out)), hb⟩

set_option maxHeartbeats 1000000 in
theorem vInts_any (v1 v2 : Value) (xs ys : List Int) (w : World) (h1 : RowOf vI w v1 xs) (h2 : RowOf vI w v2 ys) :
    Calls Try.prog 11 #[v1, v2] w fun e w' => e = .returned (.bool (decide (xs = ys))) ∧ Below w.heap.size w w' := by
  have hx := h1.cap
  have hy := h2.cap
  obtain ⟨a1, c1, rfl, hl1, hm1, r1⟩ := h1
  obtain ⟨a2, c2, rfl, hl2, hm2, r2⟩ := h2
  by_cases hlen : xs.length = ys.length
  · have hLen := Lib.hid hlen
    have hne : (((xs.length : Nat) : Int) != (xs.length : Int)) = false := by simp
    rw [← hlen]
    clear hlen
    have R1 := Lib.hid r1
    have R2 := Lib.hid r2
    clear r1 r2
    go_enter Try.func11, Try.ntmps11
    go_wp2
    go_loopw [5] (fun i wr => ∃ k : Nat, k ≤ xs.length ∧ i = .int .i64 k ∧ Hid (∀ j (h : j < k) (h1 : j < xs.length) (h2 : j < ys.length), xs[j] = ys[j]) ∧ Below w.heap.size w wr) (fun i _ => xs.length - (intOf i).toNat)
    case atStart => exact ⟨0, Nat.zero_le _, rfl, Lib.hid (fun j h => by omega), Below.refl _ _⟩
    case round =>
      obtain ⟨k, hk, rfl, HJ, hb⟩ := hrel
      by_cases hlt : k < xs.length
      · obtain ⟨b1, o1, hb1, rfl, e1⟩ := R1.out.resolve_left (fun e => by rw [e] at hlt; simp at hlt)
        obtain ⟨b2, o2, hb2, rfl, e2⟩ := R2.out.resolve_left (fun e => by have := hLen.out; rw [e] at this; simp at this; rw [this] at hlt; simp at hlt)
        obtain ⟨x, hx⟩ : ∃ s, xs[k] = s := ⟨_, rfl⟩
        obtain ⟨y, hy⟩ : ∃ s, ys[k]'(by have := hLen.out; omega) = s := ⟨_, rfl⟩
        have f1 := (hb.cell (p := ⟨b1, o1 + k, none⟩) hb1).trans (e1 k hlt)
        have f2 := (hb.cell (p := ⟨b2, o2 + k, none⟩) hb2).trans (e2 k (by have := hLen.out; omega))
        rw [hx] at f1
        rw [hy] at f2
        simp only [vI] at f1 f2
        have HX := Lib.hid hx
        have HY := Lib.hid hy
        have g0 : (0 : Int) ≤ (k : Int) := by omega
        have g1 : (k : Int) < (xs.length : Int) := by omega
        clear e1 e2 hx hy
        by_cases he : x = y
        · have hq : (x != y) = false := by simp [he]
          have HE := Lib.hid he
          clear he
          go_wp2
          go_quiet (fail)
          go_wp2
          go_roundw
          case rel =>
            refine ⟨k + 1, by omega, by go_num, Lib.hid (fun j h a b => ?_), below_drewN hb _⟩
            rcases Nat.lt_or_ge j k with h' | h'
            · exact HJ.out j h' a b
            · obtain rfl : j = k := by omega
              rw [HX.out, HY.out]
              exact HE.out
          case measure => simp [intOf]; omega
        · have hq : (x != y) = true := by simp [he]
          have HE := Lib.hid he
          clear he
          go_wp2
          go_quiet (fail)
          go_wp2
          go_ret
          exact ⟨ret_bool (Eq.symm (decide_eq_false (fun e => HE.out (by subst e; exact HX.out.symm.trans HY.out)))), below_drewN hb _⟩
      · go_wp2
        go_ret
        refine ⟨ret_bool (Eq.symm (decide_eq_true ?_)), hb⟩
        exact List.ext_getElem hLen.out fun i a b => HJ.out i (by omega) a b
  · have hne : (((xs.length : Nat) : Int) != (ys.length : Int)) = true := by simp; omega
    rw [decide_eq_false (fun e => hlen (by rw [e]))]
    go_enter Try.func11, Try.ntmps11
    go_wp2
    go_ret
    exact ⟨rfl, Below.refl _ _⟩

set_option maxRecDepth 20000 in
set_option maxHeartbeats 1000000 in
theorem vBig_any (a : Option Addr) (len cap : Nat) (w : World) (b : Bool) (hb : decide ((65536 : Int) < (len : Int)) = b) (hl : len ≤ 9223372036854775807) :
    Calls Try.prog 7 #[.slice a len cap] w fun e w' => e = .returned (.bool b) ∧ w = w' := by
  have HB := Lib.hid hb
  clear hb
  go_enter Try.func7, Try.ntmps7
  go_wp2
  go_ret
  exact ⟨ret_bool HB.out, rfl⟩
theorem isRow_len {k : IntKind} {w : World} {a : Option Addr} {len cap : Nat} {zs : List Int} (h : IsRow k w a len cap zs) : len ≤ 9223372036854775807 := by
  rcases h with ⟨rfl, rfl, rfl, rfl⟩ | ⟨x, rfl, hl, hm, _⟩
  · omega
  · unfold maxLen at hm; omega
theorem vInts_same (v1 v2 : Value) (xs : List Int) (w : World) (h1 : RowOf vI w v1 xs) (h2 : RowOf vI w v2 xs) :
    Calls Try.prog 11 #[v1, v2] w fun e w' => e = .returned (.bool true) ∧ Below w.heap.size w w' :=
  (vInts_any v1 v2 xs xs w h1 h2).mono fun e w' ⟨h, b⟩ => ⟨by rw [h, decide_eq_true rfl], b⟩
end Go.Proofs.Ytnfcfinecjgakaa

namespace Go.Proofs.Ytnfcfinecjgakaa
set_option linter.unusedVariables false
open Go.RowKit Go.Sort

theorem isRow_after6 {k : IntKind} {w w' : World} {a : Option Addr} {len cap : Nat} {zs : List Int} (h : IsRow k w a len cap zs) (hb : Below w.heap.size w w') : IsRow k w' a len cap zs := by
  refine h.imp id ?_
  rintro ⟨x, rfl, hl, hm, hz, hc, hw⟩
  refine ⟨x, rfl, hl, hm, hz, fun i hi => ?_, hw⟩
  have := hc i hi
  exact (hb.cell (World.block_lt_of_cell? w _ this)).trans this
def EndsDrawn (w : World) (e : Ending) (w' : World) : Prop := ∃ (r : Rec) (g c : Nat) (v : Value) (t : List Ru), e = .returned (.tuple #[.agg #[.int .i64 r.id, .int .i64 r.series, .int .i64 r.made, .slice (some ⟨g, 0, none⟩) r.evs.length c], v]) ∧ r.ok ∧ r.evs.length ≤ 8 ∧
  EvsO w.heap.size w'.heap.size w' (.slice (some ⟨g, 0, none⟩) r.evs.length c) r.evs ∧ t.length ≤ 16 ∧ RusO w.heap.size w'.heap.size w' v t ∧ Below w.heap.size w w'
set_option maxRecDepth 20000 in
set_option maxHeartbeats 4000000 in
theorem drawEndsOf_any (a : Option Addr) (len cap : Nat) (zs : List Int) (w : World) (h : IsRow .u8 w a len cap zs) (hl : len ≤ 1099511627776) :
    Calls Try.prog 8 #[.slice a len cap] w (EndsDrawn w) := by
  obtain ⟨R, hR⟩ : ∃ R, w.heap.size = R := ⟨_, rfl⟩
  obtain ⟨B, hB⟩ : ∃ B, R + 1 = B := ⟨_, rfl⟩
  have hRB : R < B := by omega
  have hwR : w.heap.size ≤ R := by omega
  have hs0 : (w.alloc (.cells #[.int .i64 0, .int .i64 0, .int .i64 0, .slice none 0 0] 26 (0, 0))).heap.size = B := by simp; omega
  have hs1 : ((w.alloc (.cells #[.int .i64 0, .int .i64 0, .int .i64 0, .slice none 0 0] 26 (0, 0))).alloc (.cells #[.slice a len cap, .int .i64 0, .int .u64 0] 94 (0, 0))).heap.size = B + 1 := by simp; omega
  have hcur := cur_new (isRow_after6 h (below_al (Below.refl _ _) (.cells #[.int .i64 0, .int .i64 0, .int .i64 0, .slice none 0 0] 26 (0, 0)))) hl 94
  rw [hs0] at hcur
  have HD0 : Hid (Dk w ((w.alloc (.cells #[.int .i64 0, .int .i64 0, .int .i64 0, .slice none 0 0] 26 (0, 0))).alloc (.cells #[.slice a len cap, .int .i64 0, .int .u64 0] 94 (0, 0))) B 0) := Lib.hid ⟨hcur, grownBy_of_below (below_al (below_al (Below.refl _ _) _) _) _⟩
  have HR0 : Hid (BxV ((w.alloc (.cells #[.int .i64 0, .int .i64 0, .int .i64 0, .slice none 0 0] 26 (0, 0))).alloc (.cells #[.slice a len cap, .int .i64 0, .int .u64 0] 94 (0, 0))) R [.int .i64 0, .int .i64 0, .int .i64 0, .slice none 0 0]) := Lib.hid ((BxV.new' hR _ _).al _)
  have HS1 := Lib.hid hs1
  have HS0 := Lib.hid hs0
  clear h hcur hs0 hs1
  have HRE := Lib.hid hR
  have HBE := Lib.hid hB
  clear hR hB
  go_enter Try.func8, Try.ntmps8
  go_upto_region 2 with fail
  try rw [HRE.out]
  try rw [HBE.out]
  generalize hW1 : (w.alloc (.cells #[.int .i64 0, .int .i64 0, .int .i64 0, .slice none 0 0] 26 (0, 0))).alloc (.cells #[.slice a len cap, .int .i64 0, .int .u64 0] 94 (0, 0)) = W1 at *
  have HW1 := Lib.hid hW1
  clear hW1
  go_wp2_with fail
  refine (record_any B 0 12 _ HD0.out.cur (by omega) (by unfold inI; omega)).mono ?_
  rintro e w2 ⟨⟨id, se, ma, xs⟩, g, c, rfl, hok, hma, hxl, he, hc, hg⟩
  rw [HS1.out] at he
  (try dsimp only at hok hma hxl he)
  (try dsimp only)
  obtain ⟨iid, ise, ima⟩ := hok
  have HD2 := Lib.hid (HD0.out.step hc hg)
  have HR2 := Lib.hid (HR0.out.grown hg (by simp; omega))
  have HE2 := Lib.hid he
  have hB2 : B < w2.heap.size := hc.lt
  clear hc hg he HD0 HR0
  obtain ⟨F, hF⟩ : ∃ F, w2.heap.size = F := ⟨_, rfl⟩
  have hBF : B < F := by omega
  have HB3 : Hid (BxV (w2.alloc (.cells #[.int .i64 id, .int .i64 se, .int .i64 ma, .slice (some ⟨g, 0, none⟩) xs.length c] 26 (0, 0))) F [.int .i64 id, .int .i64 se, .int .i64 ma, .slice (some ⟨g, 0, none⟩) xs.length c]) := Lib.hid (BxV.new' hF _ _)
  have HD3 := Lib.hid (HD2.out.al (.cells #[.int .i64 id, .int .i64 se, .int .i64 ma, .slice (some ⟨g, 0, none⟩) xs.length c] 26 (0, 0)))
  have HR3 := Lib.hid (HR2.out.al (.cells #[.int .i64 id, .int .i64 se, .int .i64 ma, .slice (some ⟨g, 0, none⟩) xs.length c] 26 (0, 0)))
  have HE3 : Hid (EvsO (B + 1) F (w2.alloc (.cells #[.int .i64 id, .int .i64 se, .int .i64 ma, .slice (some ⟨g, 0, none⟩) xs.length c] 26 (0, 0))) (.slice (some ⟨g, 0, none⟩) xs.length c) xs) := Lib.hid (by have := HE2.out.alloc (.cells #[.int .i64 id, .int .i64 se, .int .i64 ma, .slice (some ⟨g, 0, none⟩) xs.length c] 26 (0, 0)); rwa [hF] at this)
  go_upto_region 3 with fail
  try rw [hF]
  have HFE := Lib.hid hF
  clear hF HD2 HR2 HE2 hB2
  generalize hW3 : w2.alloc (.cells #[.int .i64 id, .int .i64 se, .int .i64 ma, .slice (some ⟨g, 0, none⟩) xs.length c] 26 (0, 0)) = W3 at *
  have HW3 := Lib.hid hW3
  clear hW3
  have c0 := HB3.out.cell 0
  have c1 := HB3.out.cell 1
  have c2 := HB3.out.cell 2
  have c3 := HB3.out.cell 3
  simp at c0 c1 c2 c3
  go_region_held3 (fun w' => w'.cell? ⟨F, 0, none⟩ = some (.int .i64 id) ∧ w'.cell? ⟨F, 1, none⟩ = some (.int .i64 se) ∧ w'.cell? ⟨F, 2, none⟩ = some (.int .i64 ma) ∧ w'.cell? ⟨F, 3, none⟩ = some (.slice (some ⟨g, 0, none⟩) xs.length c)) (first | with_reducible exact ⟨c0, c1, c2, c3⟩ | with_reducible exact ⟨cell_drew c0, cell_drew c1, cell_drew c2, cell_drew c3⟩ | (refine ⟨?_, ?_, ?_, ?_⟩ <;> (repeat rw [World.cell?_setCell_far _ _ _ _ (by simp; omega)]) <;> first | assumption | go_keep)) (first | (go_at_call 66; refine (suited_any B 60 (B + 1) F id se ma g c xs _ HD3.out.drew.cur (by omega) (HE3.out.below (Below.refl _ _).drew) (by omega) (by have := HB3.out.lt; show F ≤ W3.heap.size; omega) ise (by omega)).mono ?_; rintro e w4 ⟨v, t, rfl, htl, hr, hc, hg⟩; have HD4 := Lib.hid (HD3.out.drew.step hc hg); have HR4 := Lib.hid (HR3.out.drew.grown hg (by simp; omega)); have HB4 := Lib.hid (HB3.out.drew.grown hg (by simp; omega)); have HE4 := Lib.hid ((HE3.out.below (Below.refl _ _).drew).grown hg (by omega)); have HU4 := Lib.hid hr; replace c0 := HB4.out.cell 0; replace c1 := HB4.out.cell 1; replace c2 := HB4.out.cell 2; replace c3 := HB4.out.cell 3; simp at c0 c1 c2 c3; have r0 := HR4.out.cell 0; have r1 := HR4.out.cell 1; have r2 := HR4.out.cell 2; have r3 := HR4.out.cell 3; simp at r0 r1 r2 r3; have q0 := HR4.out.frozen 0; have q1 := HR4.out.frozen 1; have q2 := HR4.out.frozen 2; have q3 := HR4.out.frozen 3; have hs4 := hg.size; clear hc hg hr))
  all_goals
    go_wp2_with fail
    refine bodyPost_ret (v := .tuple #[.agg #[.int .i64 id, .int .i64 se, .int .i64 ma, .slice (some ⟨g, 0, none⟩) xs.length c], v]) (by simp [results, Try.results8, go_sem, r0, r1, r2, r3]) rfl ?_
    have hne : ∀ k, Value.ownBlock (.slice (some ⟨g, 0, none⟩) xs.length c) = some k → k ≠ R := fun k hk => by have := HE4.out.1.ge g rfl; simp [Value.ownBlock] at hk; omega
    have hE := (((HE4.out.setOther (G := R) (j := 0) (x := .int .i64 id) hne).setOther (G := R) (j := 1) (x := .int .i64 se) hne).setOther (G := R) (j := 2) (x := .int .i64 ma) hne).setOther (G := R) (j := 3) (x := .slice (some ⟨g, 0, none⟩) xs.length c) hne
    have hnu : ∀ k, Value.ownBlock v = some k → k ≠ R := fun k hk => by have := HU4.out.1.ge k hk; have := HB3.out.lt; have : F < W3.drew.heap.size := HB3.out.lt; omega
    have hU := (((HU4.out.setOther (G := R) (j := 0) (x := .int .i64 id) hnu).setOther (G := R) (j := 1) (x := .int .i64 se) hnu).setOther (G := R) (j := 2) (x := .int .i64 ma) hnu).setOther (G := R) (j := 3) (x := .slice (some ⟨g, 0, none⟩) xs.length c) hnu
    have hb4 : Below w.heap.size w w4 := below_of_grownBy HD4.out.gr (Nat.le_refl _) (fun k e => by cases e; omega)
    have hb := (((hb4.setCell (p := ⟨R, 0, none⟩) hwR (.int .i64 id)).setCell (p := ⟨R, 1, none⟩) hwR (.int .i64 se)).setCell (p := ⟨R, 2, none⟩) hwR (.int .i64 ma)).setCell (p := ⟨R, 3, none⟩) hwR (.slice (some ⟨g, 0, none⟩) xs.length c)
    exact ⟨⟨id, se, ma, xs⟩, g, c, v, t, rfl, ⟨iid, ise, ima⟩, hxl, hE.wide (by omega) (by have : F < W3.drew.heap.size := HB3.out.lt; simp; omega), htl, hU.wide (by have := HD3.out.sz; show w.heap.size ≤ W3.heap.size; omega) (by simp), hb⟩
def AftDrawn (w : World) (e : Ending) (w' : World) : Prop := ∃ (r : Rec) (g c : Nat) (v : Value) (t : List Ru) (u : Ev), e = .returned (.tuple #[.agg #[.int .i64 r.id, .int .i64 r.series, .int .i64 r.made, .slice (some ⟨g, 0, none⟩) r.evs.length c], v, .agg #[.int .i64 u.kind, .int .i64 u.day]]) ∧ r.ok ∧ r.evs.length ≤ 8 ∧
  EvsO w.heap.size w'.heap.size w' (.slice (some ⟨g, 0, none⟩) r.evs.length c) r.evs ∧ t.length ≤ 16 ∧ RusO w.heap.size w'.heap.size w' v t ∧ u.ok ∧ Below w.heap.size w w'
set_option maxRecDepth 20000 in
set_option maxHeartbeats 4000000 in
theorem drawDueAfter_any (a : Option Addr) (len cap : Nat) (zs : List Int) (w : World) (h : IsRow .u8 w a len cap zs) (hl : len ≤ 1099511627776) :
    Calls Try.prog 20 #[.slice a len cap] w (AftDrawn w) := by
  obtain ⟨R, hR⟩ : ∃ R, w.heap.size = R := ⟨_, rfl⟩
  obtain ⟨Q, hQ⟩ : ∃ Q, R + 1 = Q := ⟨_, rfl⟩
  obtain ⟨B, hB⟩ : ∃ B, Q + 1 = B := ⟨_, rfl⟩
  have hRQ : R < Q := by omega
  have hQB : Q < B := by omega
  have hwR : w.heap.size ≤ R := by omega
  have hwQ : w.heap.size ≤ Q := by omega
  have hsq : (w.alloc (.cells #[.int .i64 0, .int .i64 0, .int .i64 0, .slice none 0 0] 26 (0, 0))).heap.size = Q := by simp; omega
  have hs0 : ((w.alloc (.cells #[.int .i64 0, .int .i64 0, .int .i64 0, .slice none 0 0] 26 (0, 0))).alloc (.cells #[.int .i64 0, .int .i64 0] 43 (0, 0))).heap.size = B := by simp; omega
  have hs1 : (((w.alloc (.cells #[.int .i64 0, .int .i64 0, .int .i64 0, .slice none 0 0] 26 (0, 0))).alloc (.cells #[.int .i64 0, .int .i64 0] 43 (0, 0))).alloc (.cells #[.slice a len cap, .int .i64 0, .int .u64 0] 94 (0, 0))).heap.size = B + 1 := by simp; omega
  have hcur := cur_new (isRow_after6 h (below_al (below_al (Below.refl _ _) (.cells #[.int .i64 0, .int .i64 0, .int .i64 0, .slice none 0 0] 26 (0, 0))) (.cells #[.int .i64 0, .int .i64 0] 43 (0, 0)))) hl 94
  rw [hs0] at hcur
  have HD0 : Hid (Dk w (((w.alloc (.cells #[.int .i64 0, .int .i64 0, .int .i64 0, .slice none 0 0] 26 (0, 0))).alloc (.cells #[.int .i64 0, .int .i64 0] 43 (0, 0))).alloc (.cells #[.slice a len cap, .int .i64 0, .int .u64 0] 94 (0, 0))) B 0) := Lib.hid ⟨hcur, grownBy_of_below (below_al (below_al (below_al (Below.refl _ _) _) _) _) _⟩
  have HR0 : Hid (BxV (((w.alloc (.cells #[.int .i64 0, .int .i64 0, .int .i64 0, .slice none 0 0] 26 (0, 0))).alloc (.cells #[.int .i64 0, .int .i64 0] 43 (0, 0))).alloc (.cells #[.slice a len cap, .int .i64 0, .int .u64 0] 94 (0, 0))) R [.int .i64 0, .int .i64 0, .int .i64 0, .slice none 0 0]) := Lib.hid (((BxV.new' hR _ _).al _).al _)
  have HQ0 : Hid (BxV (((w.alloc (.cells #[.int .i64 0, .int .i64 0, .int .i64 0, .slice none 0 0] 26 (0, 0))).alloc (.cells #[.int .i64 0, .int .i64 0] 43 (0, 0))).alloc (.cells #[.slice a len cap, .int .i64 0, .int .u64 0] 94 (0, 0))) Q [.int .i64 0, .int .i64 0]) := Lib.hid ((BxV.new' hsq _ _).al _)
  have HS1 := Lib.hid hs1
  have HS0 := Lib.hid hs0
  clear h hcur hs0 hs1 hsq
  have HRE := Lib.hid hR
  have HQE := Lib.hid hQ
  have HBE := Lib.hid hB
  clear hR hB hQ
  go_enter Try.func20, Try.ntmps20
  go_upto_region 2 with fail
  try rw [HRE.out]
  try rw [HQE.out]
  try rw [HBE.out]
  generalize hW1 : ((w.alloc (.cells #[.int .i64 0, .int .i64 0, .int .i64 0, .slice none 0 0] 26 (0, 0))).alloc (.cells #[.int .i64 0, .int .i64 0] 43 (0, 0))).alloc (.cells #[.slice a len cap, .int .i64 0, .int .u64 0] 94 (0, 0)) = W1 at *
  have HW1 := Lib.hid hW1
  clear hW1
  go_wp2_with fail
  refine (record_any B 0 12 _ HD0.out.cur (by omega) (by unfold inI; omega)).mono ?_
  rintro e w2 ⟨⟨id, se, ma, xs⟩, g, c, rfl, hok, hma, hxl, he, hc, hg⟩
  rw [HS1.out] at he
  (try dsimp only at hok hma hxl he)
  (try dsimp only)
  obtain ⟨iid, ise, ima⟩ := hok
  have HD2 := Lib.hid (HD0.out.step hc hg)
  have HR2 := Lib.hid (HR0.out.grown hg (by simp; omega))
  have HE2 := Lib.hid he
  have hB2 : B < w2.heap.size := hc.lt
  have HQ2 := Lib.hid (HQ0.out.grown hg (by simp; omega))
  clear hc hg he HD0 HR0 HQ0
  obtain ⟨F, hF⟩ : ∃ F, w2.heap.size = F := ⟨_, rfl⟩
  have hBF : B < F := by omega
  have HB3 : Hid (BxV (w2.alloc (.cells #[.int .i64 id, .int .i64 se, .int .i64 ma, .slice (some ⟨g, 0, none⟩) xs.length c] 26 (0, 0))) F [.int .i64 id, .int .i64 se, .int .i64 ma, .slice (some ⟨g, 0, none⟩) xs.length c]) := Lib.hid (BxV.new' hF _ _)
  have HD3 := Lib.hid (HD2.out.al (.cells #[.int .i64 id, .int .i64 se, .int .i64 ma, .slice (some ⟨g, 0, none⟩) xs.length c] 26 (0, 0)))
  have HR3 := Lib.hid (HR2.out.al (.cells #[.int .i64 id, .int .i64 se, .int .i64 ma, .slice (some ⟨g, 0, none⟩) xs.length c] 26 (0, 0)))
  have HQ3 := Lib.hid (HQ2.out.al (.cells #[.int .i64 id, .int .i64 se, .int .i64 ma, .slice (some ⟨g, 0, none⟩) xs.length c] 26 (0, 0)))
  have HE3 : Hid (EvsO (B + 1) F (w2.alloc (.cells #[.int .i64 id, .int .i64 se, .int .i64 ma, .slice (some ⟨g, 0, none⟩) xs.length c] 26 (0, 0))) (.slice (some ⟨g, 0, none⟩) xs.length c) xs) := Lib.hid (by have := HE2.out.alloc (.cells #[.int .i64 id, .int .i64 se, .int .i64 ma, .slice (some ⟨g, 0, none⟩) xs.length c] 26 (0, 0)); rwa [hF] at this)
  go_upto_region 3 with fail
  try rw [hF]
  have HFE := Lib.hid hF
  clear hF HD2 HR2 HE2 hB2 HQ2
  generalize hW3 : w2.alloc (.cells #[.int .i64 id, .int .i64 se, .int .i64 ma, .slice (some ⟨g, 0, none⟩) xs.length c] 26 (0, 0)) = W3 at *
  have HW3 := Lib.hid hW3
  clear hW3
  have c0 := HB3.out.cell 0
  have c1 := HB3.out.cell 1
  have c2 := HB3.out.cell 2
  have c3 := HB3.out.cell 3
  simp at c0 c1 c2 c3
  go_wp2_with fail
  refine (suited_any B 60 (B + 1) F id se ma g c xs _ HD3.out.cur (by omega) HE3.out (by omega) (by have := HB3.out.lt; omega) ise (by omega)).mono ?_
  rintro e w4 ⟨v, t, rfl, htl, hr, hc, hg⟩
  have HD4 := Lib.hid (HD3.out.step hc hg)
  have HR4 := Lib.hid (HR3.out.grown hg (by simp; omega))
  have HQ4 := Lib.hid (HQ3.out.grown hg (by simp; omega))
  have HB4 := Lib.hid (HB3.out.grown hg (by simp; omega))
  have HE4 := Lib.hid (HE3.out.grown hg (by omega))
  have HU4 : Hid (RusO F w4.heap.size w4 v t) := Lib.hid (hr.wide (by have := HB3.out.lt; omega) (Nat.le_refl _))
  have hs4 := hg.size
  have hs3 := HB3.out.lt
  replace c0 := HB4.out.cell 0
  replace c1 := HB4.out.cell 1
  replace c2 := HB4.out.cell 2
  replace c3 := HB4.out.cell 3
  simp at c0 c1 c2 c3
  clear hc hg hr HD3 HR3 HQ3 HB3 HE3
  go_upto_region 4 with fail
  go_region_held3 (fun w' => w'.cell? ⟨F, 0, none⟩ = some (.int .i64 id) ∧ w'.cell? ⟨F, 1, none⟩ = some (.int .i64 se) ∧ w'.cell? ⟨F, 2, none⟩ = some (.int .i64 ma) ∧ w'.cell? ⟨F, 3, none⟩ = some (.slice (some ⟨g, 0, none⟩) xs.length c)) (first | with_reducible exact ⟨c0, c1, c2, c3⟩ | with_reducible exact ⟨cell_drew c0, cell_drew c1, cell_drew c2, cell_drew c3⟩ | (refine ⟨?_, ?_, ?_, ?_⟩ <;> (repeat rw [World.cell?_setCell_far _ _ _ _ (by simp; omega)]) <;> first | assumption | go_keep)) (first | (go_at_call 75; refine (event_any B 560 ma _ HD4.out.drew.cur (by omega) (by omega)).mono ?_; rintro e w5 ⟨⟨uk, ud⟩, rfl, huo, hc, hg⟩; have HD5 := Lib.hid (HD4.out.drew.step hc hg); have HR5 := Lib.hid (HR4.out.drew.grown hg (by simp; omega)); have HQ5 := Lib.hid (HQ4.out.drew.grown hg (by simp; omega)); have HB5 := Lib.hid (HB4.out.drew.grown hg (by simp; omega)); have HE5 := Lib.hid ((HE4.out.below (Below.refl _ _).drew).grown hg (by omega)); have HU5 := Lib.hid ((HU4.out.below (Below.refl _ _).drew).grown hg (by omega)); have HO5 := Lib.hid huo; replace c0 := HB5.out.cell 0; replace c1 := HB5.out.cell 1; replace c2 := HB5.out.cell 2; replace c3 := HB5.out.cell 3; simp at c0 c1 c2 c3; have r0 := HR5.out.cell 0; have r1 := HR5.out.cell 1; have r2 := HR5.out.cell 2; have r3 := HR5.out.cell 3; simp at r0 r1 r2 r3; have q0 := HR5.out.frozen 0; have q1 := HR5.out.frozen 1; have q2 := HR5.out.frozen 2; have q3 := HR5.out.frozen 3; have s0 := HQ5.out.cell 0; have s1 := HQ5.out.cell 1; simp at s0 s1; have p0 := HQ5.out.frozen 0; have p1 := HQ5.out.frozen 1; have hs5 := hg.size; clear hc hg huo))
  all_goals
    go_wp2_with fail
    refine bodyPost_ret (v := .tuple #[.agg #[.int .i64 id, .int .i64 se, .int .i64 ma, .slice (some ⟨g, 0, none⟩) xs.length c], v, .agg #[.int .i64 uk, .int .i64 ud]]) (by simp [results, Try.results20, go_sem, r0, r1, r2, r3, s0, s1]) rfl ?_
    have hne : ∀ k, Value.ownBlock (.slice (some ⟨g, 0, none⟩) xs.length c) = some k → k ≠ R := fun k hk => by have := HE5.out.1.ge g rfl; simp [Value.ownBlock] at hk; omega
    have hne2 : ∀ k, Value.ownBlock (.slice (some ⟨g, 0, none⟩) xs.length c) = some k → k ≠ Q := fun k hk => by have := HE5.out.1.ge g rfl; simp [Value.ownBlock] at hk; omega
    have hnu : ∀ k, Value.ownBlock v = some k → k ≠ R := fun k hk => by have := HU5.out.1.ge k hk; omega
    have hnu2 : ∀ k, Value.ownBlock v = some k → k ≠ Q := fun k hk => by have := HU5.out.1.ge k hk; omega
    have hE := ((((((HE5.out.setOther (G := R) (j := 0) (x := .int .i64 id) hne).setOther (G := R) (j := 1) (x := .int .i64 se) hne).setOther (G := R) (j := 2) (x := .int .i64 ma) hne).setOther (G := R) (j := 3) (x := .slice (some ⟨g, 0, none⟩) xs.length c) hne).setOther (G := Q) (j := 0) (x := .int .i64 uk) hne2).setOther (G := Q) (j := 1) (x := .int .i64 ud) hne2)
    have hU := ((((((HU5.out.setOther (G := R) (j := 0) (x := .int .i64 id) hnu).setOther (G := R) (j := 1) (x := .int .i64 se) hnu).setOther (G := R) (j := 2) (x := .int .i64 ma) hnu).setOther (G := R) (j := 3) (x := .slice (some ⟨g, 0, none⟩) xs.length c) hnu).setOther (G := Q) (j := 0) (x := .int .i64 uk) hnu2).setOther (G := Q) (j := 1) (x := .int .i64 ud) hnu2)
    have hb5 : Below w.heap.size w w5 := below_of_grownBy HD5.out.gr (Nat.le_refl _) (fun k e => by cases e; omega)
    have hb := (((((hb5.setCell (p := ⟨R, 0, none⟩) hwR (.int .i64 id)).setCell (p := ⟨R, 1, none⟩) hwR (.int .i64 se)).setCell (p := ⟨R, 2, none⟩) hwR (.int .i64 ma)).setCell (p := ⟨R, 3, none⟩) hwR (.slice (some ⟨g, 0, none⟩) xs.length c)).setCell (p := ⟨Q, 0, none⟩) hwQ (.int .i64 uk)).setCell (p := ⟨Q, 1, none⟩) hwQ (.int .i64 ud)
    have hs5' : w4.heap.size ≤ w5.heap.size := hs5
    exact ⟨⟨id, se, ma, xs⟩, g, c, v, t, ⟨uk, ud⟩, rfl, ⟨iid, ise, ima⟩, hxl, hE.wide (by omega) (by simp; omega), htl, hU.wide (by omega) (by simp; omega), HO5.out, hb⟩
end Go.Proofs.Ytnfcfinecjgakaa

namespace Go.Proofs.Ytnfcfinecjgakaa
set_option linter.unusedVariables false
open Go.RowKit Go.Sort

theorem ints_rowS {lo n : Nat} {w : World} {v : Value} {xs : List Int} (h : w.ownsRow lo 3 1 v n (xs.map vI)) (hn : n = xs.length) : IntsO lo w.heap.size w v xs := ⟨by rw [← hn]; exact h, fun g hg => (h.lt g hg).2⟩
theorem ints_new (w : World) : IntsO w.heap.size (w.alloc (.cells #[] 3 (0, 0))).heap.size (w.alloc (.cells #[] 3 (0, 0))) (.slice (some ⟨w.heap.size, 0, none⟩) 0 0) [] := ints_rowS (World.ownsRow_made w #[] 0 (Nat.le_refl _) (Nat.zero_le _) rfl) rfl

structure OutS (g : Nat) (w2 wr : World) (o : Value) (xs : List Int) : Prop where
  own : wr.ownsRow g 3 1 o xs.length (xs.map vI)
  at_ : ∀ k, o.ownBlock = some k → k = g ∨ w2.heap.size ≤ k
  only : Only g (g + 1) w2 wr
  lt : g < w2.heap.size
theorem OutS.start {g : Nat} {w2 : World} (h : w2.ownsRow g 3 1 (.slice (some ⟨g, 0, none⟩) 0 0) 0 []) (hl : g < w2.heap.size) : OutS g w2 w2 (.slice (some ⟨g, 0, none⟩) 0 0) [] :=
  ⟨h, fun k hk => .inl (by simpa [Value.ownBlock] using hk.symm), Only.refl _ _ _, hl⟩
theorem OutS.below {g : Nat} {w2 wr w' : World} {o : Value} {xs : List Int} (h : OutS g w2 wr o xs) (hb : Below wr.heap.size wr w') : OutS g w2 w' o xs :=
  ⟨ownsRow_below h.own hb, h.at_, h.only.trans (Only.of_below hb), h.lt⟩
theorem OutS.app {g : Nat} {w2 w5 w7 : World} {o v' : Value} {xs : List Int} {x : Int} (h : OutS g w2 w5 o xs) (hown : w7.ownsRow g 3 1 v' (xs.length + 1) (xs.map vI ++ [.int .i64 x])) (hg : w5.grownBy w7 o.ownBlock) (hat : v'.ownBlock = o.ownBlock ∨ v'.ownBlock = some w5.heap.size) : OutS g w2 w7 v' (xs ++ [x]) := by
  have hs := h.only.size
  refine ⟨by simpa [vI] using hown, fun k hk => ?_, ⟨hg.os.trans h.only.os, hg.tape.trans h.only.tape, hg.output.trans h.only.output, Nat.le_trans hs hg.size, fun k hk hn => ?_⟩, h.lt⟩
  · rcases hat with e | e
    · exact h.at_ k (by rw [← e]; exact hk)
    · rw [e] at hk; cases hk; exact .inr hs
  · refine (hg.block k (by omega) (fun e => ?_)).trans (h.only.block k hk hn)
    rcases h.at_ k e.symm with h1 | h1 <;> omega
theorem OutS.cell {g b j : Nat} {w2 wr : World} {o v : Value} {xs : List Int} (h : OutS g w2 wr o xs) (hc : w2.cell? ⟨b, j, none⟩ = some v) (hb : b ≠ g) : wr.cell? ⟨b, j, none⟩ = some v :=
  (World.cell?_of_block (h.only.block b (World.block_lt_of_cell? _ _ hc) (by omega))).trans hc
theorem OutS.bel {g n : Nat} {w2 wr : World} {o : Value} {xs : List Int} (h : OutS g w2 wr o xs) (hn : n ≤ g) : Below n w2 wr := (h.only.below (Nat.le_of_lt h.lt)).mono hn

theorem specDueDay_any (v v1 : Value) (r : Rec) (t : List Ru) (w : World) (h : RecV w v r) (h1 : RowR 4 rRu w v1 t) (d : Int) (b : Bool) (hres : dueRes r t = (d, b)) :
    Calls Try.prog 13 #[v, v1] w fun e w' => e = .returned (.tuple #[.int .i64 d, .bool b]) ∧ Below w.heap.size w w' := by
  obtain ⟨s, rfl, h0, hok⟩ := h
  have HV := Lib.hid (show ∀ W, Below w.heap.size w W → RecV W (.agg #[.int .i64 r.id, .int .i64 r.series, .int .i64 r.made, s]) r from fun W hb => ⟨s, rfl, h0.below rEv_stable hb, hok⟩)
  have H1 := Lib.hid h1
  obtain ⟨ba, ha⟩ : ∃ b, askB r t = b := ⟨_, rfl⟩
  have HA := Lib.hid ha
  have b0 := below_al (Below.refl w.heap.size w) (RBOX r s 26)
  have HC0 := Lib.hid (Box4.new w r s 26)
  obtain ⟨Q, D, hdec⟩ : ∃ q d, decR r (forRu t r.series) = (q, d) := ⟨_, _, rfl⟩
  have hrf : ruleF r t = Q := by unfold ruleF; rw [hdec]
  have hdf : dueF r t = D := by unfold dueF; rw [hdec]
  have HDEC := Lib.hid hdec
  have HRF := Lib.hid hrf
  have HDF := Lib.hid hdf
  unfold dueRes at hres
  cases ba
  · rw [setF_no (.inl ha)] at hres
    obtain ⟨rfl, rfl⟩ := Prod.mk.inj hres
    clear h0 hok h1 ha hdec hrf hdf
    go_enter Try.func13, Try.ntmps13
    go_wp2_with (first | (go_at_call 68; refine (l6Asked_any _ _ r t _ (HV.out _ b0) (H1.out.below rRu_stable b0)).mono ?_; rw [HA.out]; rintro e w1 ⟨rfl, b1⟩; replace b1 := below_chain b0 b1))
    go_ret2
    exact ⟨rfl, b1⟩
  · by_cases hD : D < 0
    · rw [setF_no (.inr (by rw [hdf]; exact hD))] at hres
      obtain ⟨rfl, rfl⟩ := Prod.mk.inj hres
      clear h0 hok h1 ha hdec hrf hdf
      go_enter Try.func13, Try.ntmps13
      go_wp2_with (first | (go_at_call 68; refine (l6Asked_any _ _ r t _ (HV.out _ b0) (H1.out.below rRu_stable b0)).mono ?_; rw [HA.out]; rintro e w1 ⟨rfl, b1⟩; obtain ⟨c0, c1, c2, c3⟩ := HC0.out.kept b1; replace b1 := below_chain b0 b1) | (go_at_call 72; refine (l6Deciding_any _ _ r t _ (HV.out _ b1) (H1.out.below rRu_stable b1) (ask_iff.1 HA.out).1 (ask_iff.1 HA.out).2 _ _ HDEC.out).mono ?_; rintro e w2 ⟨rfl, b2⟩; replace b2 := below_chain b1 b2; simp only))
      go_ret2
      exact ⟨rfl, below_al b2 _⟩
    · rw [setF_yes ha (by rw [hdf]; omega), hrf, hdf] at hres
      obtain ⟨rfl, rfl⟩ := Prod.mk.inj hres
      clear h0 hok h1 ha hdec hrf hdf
      go_enter Try.func13, Try.ntmps13
      go_wp2_with (first | (go_at_call 68; refine (l6Asked_any _ _ r t _ (HV.out _ b0) (H1.out.below rRu_stable b0)).mono ?_; rw [HA.out]; rintro e w1 ⟨rfl, b1⟩; obtain ⟨c0, c1, c2, c3⟩ := HC0.out.kept b1; replace b1 := below_chain b0 b1) | (go_at_call 72; refine (l6Deciding_any _ _ r t _ (HV.out _ b1) (H1.out.below rRu_stable b1) (ask_iff.1 HA.out).1 (ask_iff.1 HA.out).2 _ _ HDEC.out).mono ?_; rintro e w2 ⟨rfl, b2⟩; replace b2 := below_chain b1 b2; simp only))
      go_ret2
      exact ⟨rfl, below_al b2 _⟩

theorem specDecidingRule_any (v v1 : Value) (r : Rec) (t : List Ru) (w : World) (h : RecV w v r) (h1 : RowR 4 rRu w v1 t) (q : Ru) (b : Bool) (hres : decRes r t = (q, b)) :
    Calls Try.prog 17 #[v, v1] w fun e w' => e = .returned (.tuple #[.agg #[.int .i64 q.series, .int .i64 q.event, .int .i64 q.days, .int .i64 q.act], .bool b]) ∧ Below w.heap.size w w' := by
  obtain ⟨s, rfl, h0, hok⟩ := h
  have HV := Lib.hid (show ∀ W, Below w.heap.size w W → RecV W (.agg #[.int .i64 r.id, .int .i64 r.series, .int .i64 r.made, s]) r from fun W hb => ⟨s, rfl, h0.below rEv_stable hb, hok⟩)
  have H1 := Lib.hid h1
  obtain ⟨ba, ha⟩ : ∃ b, askB r t = b := ⟨_, rfl⟩
  have HA := Lib.hid ha
  have b0 := below_al (below_al (Below.refl w.heap.size w) (RBOX r s 26)) (.cells #[.int .i64 0, .int .i64 0, .int .i64 0, .int .i64 0] 37 (0, 0))
  have HC0 : Hid (Box4 ((w.alloc (RBOX r s 26)).alloc (.cells #[.int .i64 0, .int .i64 0, .int .i64 0, .int .i64 0] 37 (0, 0))) w.heap.size r s) := Lib.hid ((Box4.new w r s 26).kept (below_al (Below.refl _ _) _))
  have HX0 : Hid (UBox ((w.alloc (RBOX r s 26)).alloc (.cells #[.int .i64 0, .int .i64 0, .int .i64 0, .int .i64 0] 37 (0, 0))) (w.heap.size + 1) ruD) := Lib.hid (by rw [← (show (w.alloc (RBOX r s 26)).heap.size = w.heap.size + 1 by simp)]; exact UBox.new (w.alloc (RBOX r s 26)) ruD 37)
  obtain ⟨Q, D, hdec⟩ : ∃ q d, decR r (forRu t r.series) = (q, d) := ⟨_, _, rfl⟩
  have hrf : ruleF r t = Q := by unfold ruleF; rw [hdec]
  have hdf : dueF r t = D := by unfold dueF; rw [hdec]
  have HDEC := Lib.hid hdec
  have HRF := Lib.hid hrf
  have HDF := Lib.hid hdf
  unfold decRes at hres
  cases ba
  · rw [setF_no (.inl ha)] at hres
    obtain ⟨rfl, rfl⟩ := Prod.mk.inj hres
    clear h0 hok h1 ha hdec hrf hdf
    go_enter Try.func17, Try.ntmps17
    go_wp2_with (first | (go_at_call 68; refine (l6Asked_any _ _ r t _ (HV.out _ b0) (H1.out.below rRu_stable b0)).mono ?_; rw [HA.out]; rintro e w1 ⟨rfl, b1⟩; have HX1 := Lib.hid (HX0.out.kept b1); obtain ⟨z0, z1, z2, z3, y0, y1, y2, y3⟩ := HX1.out; simp only [ruD] at z0 z1 z2 z3; replace b1 := below_chain b0 b1))
    refine bodyPost_ret (v := .tuple #[.agg #[.int .i64 0, .int .i64 0, .int .i64 0, .int .i64 0], .bool false]) (by simp [results, Try.results17 , go_sem, z0, z1, z2, z3]) rfl ⟨rfl, ?_⟩
    exact below_putU b1 (by omega) ruD
  · have hres2 : q = Q ∧ b = decide (0 ≤ D) := by
      by_cases hD : D < 0
      · rw [setF_no (.inr (by rw [hdf]; exact hD))] at hres
        obtain ⟨rfl, rfl⟩ := Prod.mk.inj hres
        have := decF_last (r := r) (forRu t r.series) ruD (-1)
        refine ⟨?_, (decide_eq_false (by omega)).symm⟩
        have h2 : ¬ 0 ≤ (decR r (forRu t r.series)).2 := by rw [hdec]; simp only; omega
        rw [dec_told] at h2
        rcases hus : forRu t r.series with _ | ⟨u, us⟩
        · rw [hus] at hdec
          exact (Prod.mk.inj hdec).1
        · have h3 : ∃ u ∈ forRu t r.series, endR r u < 0 := by
            rcases Classical.em (∃ u ∈ forRu t r.series, endR r u < 0) with h | h
            · exact h
            · exact absurd ⟨by rw [hus]; simp, fun u hu hl => h ⟨u, hu, hl⟩⟩ h2
          unfold decR at hdec
          rw [decF_open _ _ _ h3] at hdec
          exact (Prod.mk.inj hdec).1
      · rw [setF_yes ha (by rw [hdf]; omega), hrf, hdf] at hres
        obtain ⟨rfl, rfl⟩ := Prod.mk.inj hres
        exact ⟨rfl, (decide_eq_true (by omega)).symm⟩
    obtain ⟨rfl, rfl⟩ := hres2
    clear h0 hok h1 ha hdec hrf hdf hres
    obtain ⟨x0, x1, x2, x3⟩ := q
    go_enter Try.func17, Try.ntmps17
    go_wp2_with (first | (go_at_call 68; refine (l6Asked_any _ _ r t _ (HV.out _ b0) (H1.out.below rRu_stable b0)).mono ?_; rw [HA.out]; rintro e w1 ⟨rfl, b1⟩; obtain ⟨c0, c1, c2, c3⟩ := HC0.out.kept b1; have HX1 := Lib.hid (HX0.out.kept b1); replace b1 := below_chain b0 b1) | (go_at_call 72; refine (l6Deciding_any _ _ r t _ (HV.out _ b1) (H1.out.below rRu_stable b1) (ask_iff.1 HA.out).1 (ask_iff.1 HA.out).2 _ _ HDEC.out).mono ?_; rintro e w2 ⟨rfl, b2⟩; have HX3 := Lib.hid ((HX1.out.kept b2).al (.cells #[.int .i64 x0, .int .i64 x1, .int .i64 x2, .int .i64 x3] 37 (0, 0))); obtain ⟨z0, z1, z2, z3, y0, y1, y2, y3⟩ := HX3.out; simp only [ruD] at z0 z1 z2 z3; replace b2 := below_chain b1 b2; simp only))
    refine bodyPost_ret (v := .tuple #[.agg #[.int .i64 x0, .int .i64 x1, .int .i64 x2, .int .i64 x3], .bool (decide (0 ≤ D))]) (by simp [results, Try.results17 , go_sem, z0, z1, z2, z3]) rfl ⟨rfl, ?_⟩
    exact below_putU (below_al b2 _) (by omega) ⟨x0, x1, x2, x3⟩

theorem l6Due_any (v v1 : Value) (r : Rec) (t : List Ru) (dy : Int) (w : World) (h : RecV w v r) (h1 : RowR 4 rRu w v1 t) (ha' : askB r t = true) :
    Calls Try.prog 85 #[v, v1, .int .i64 dy] w fun e w' => e = .returned (.bool (decide (0 ≤ dueF r t ∧ dueF r t ≤ dy))) ∧ Below w.heap.size w w' := by
  obtain ⟨s, rfl, h0, hok⟩ := h
  have HV := Lib.hid (show ∀ W, Below w.heap.size w W → RecV W (.agg #[.int .i64 r.id, .int .i64 r.series, .int .i64 r.made, s]) r from fun W hb => ⟨s, rfl, h0.below rEv_stable hb, hok⟩)
  have H1 := Lib.hid h1
  obtain ⟨ba, ha⟩ : ∃ b, askB r t = b := ⟨_, rfl⟩
  have HA := Lib.hid ha
  have b1 := below_al (Below.refl w.heap.size w) (RBOX r s 26)
  obtain ⟨Q, D, hdec⟩ : ∃ q d, decR r (forRu t r.series) = (q, d) := ⟨_, _, rfl⟩
  have hrf : ruleF r t = Q := by unfold ruleF; rw [hdec]
  have hdf : dueF r t = D := by unfold dueF; rw [hdec]
  have HDEC := Lib.hid hdec
  have HRF := Lib.hid hrf
  have HDF := Lib.hid hdf
  rw [hdf]
  obtain rfl : ba = true := ha.symm.trans ha'
  clear h0 hok h1 ha hdec hrf hdf
  go_enter Try.func85, Try.ntmps85
  go_wp2_with (first | (go_at_call 72; refine (l6Deciding_any _ _ r t _ (HV.out _ b1) (H1.out.below rRu_stable b1) (ask_iff.1 HA.out).1 (ask_iff.1 HA.out).2 _ _ HDEC.out).mono ?_; rintro e w2 ⟨rfl, b2⟩; replace b2 := below_chain b1 b2; simp only) | (go_at_call 92; refine (l1In_any _ _ _ _).mono ?_; rintro e w3 ⟨rfl, h3⟩; subst w3))
  go_ret
  exact ⟨ret_bool (by first | rfl | simp), below_al b2 _⟩

theorem specIsDue_any (v v1 : Value) (r : Rec) (t : List Ru) (dy : Int) (w : World) (h : RecV w v r) (h1 : RowR 4 rRu w v1 t) (a b : Bool) (hres : isdRes r t dy = (a, b)) :
    Calls Try.prog 25 #[v, v1, .int .i64 dy] w fun e w' => e = .returned (.tuple #[.bool a, .bool b]) ∧ Below w.heap.size w w' := by
  obtain ⟨s, rfl, h0, hok⟩ := h
  have HV := Lib.hid (show ∀ W, Below w.heap.size w W → RecV W (.agg #[.int .i64 r.id, .int .i64 r.series, .int .i64 r.made, s]) r from fun W hb => ⟨s, rfl, h0.below rEv_stable hb, hok⟩)
  have H1 := Lib.hid h1
  obtain ⟨ba, ha⟩ : ∃ b, askB r t = b := ⟨_, rfl⟩
  have HA := Lib.hid ha
  have b0 := below_al (Below.refl w.heap.size w) (RBOX r s 26)
  have HC0 := Lib.hid (Box4.new w r s 26)
  obtain ⟨bd, hd⟩ : ∃ b, decide (0 ≤ dy ∧ dy ≤ 20000) = b := ⟨_, rfl⟩
  have HD := Lib.hid hd
  unfold isdRes at hres
  cases ba
  · rw [if_neg (by rw [ha]; simp)] at hres
    obtain ⟨rfl, rfl⟩ := Prod.mk.inj hres
    clear h0 hok h1 ha hd
    go_enter Try.func25, Try.ntmps25
    go_wp2_with (first | (go_at_call 68; refine (l6Asked_any _ _ r t _ (HV.out _ b0) (H1.out.below rRu_stable b0)).mono ?_; rw [HA.out]; rintro e w1 ⟨rfl, b1⟩; replace b1 := below_chain b0 b1))
    go_ret2
    exact ⟨rfl, b1⟩
  · cases bd
    · rw [if_neg (fun h => of_decide_eq_false hd h.2)] at hres
      obtain ⟨rfl, rfl⟩ := Prod.mk.inj hres
      clear h0 hok h1 ha hd
      go_enter Try.func25, Try.ntmps25
      go_wp2_with (first | (go_at_call 68; refine (l6Asked_any _ _ r t _ (HV.out _ b0) (H1.out.below rRu_stable b0)).mono ?_; rw [HA.out]; rintro e w1 ⟨rfl, b1⟩; obtain ⟨c0, c1, c2, c3⟩ := HC0.out.kept b1; replace b1 := below_chain b0 b1) | (go_at_call 79; refine (l2Day_any _ _).mono ?_; rw [HD.out]; rintro e w3 ⟨rfl, h3⟩; subst w3))
      go_ret2
      exact ⟨rfl, b1⟩
    · rw [if_pos ⟨ha, of_decide_eq_true hd⟩] at hres
      obtain ⟨hA, rfl⟩ := Prod.mk.inj hres
      have HAA := Lib.hid hA
      clear h0 hok h1 ha hd hres hA
      go_enter Try.func25, Try.ntmps25
      go_wp2_with (first | (go_at_call 68; refine (l6Asked_any _ _ r t _ (HV.out _ b0) (H1.out.below rRu_stable b0)).mono ?_; rw [HA.out]; rintro e w1 ⟨rfl, b1⟩; obtain ⟨c0, c1, c2, c3⟩ := HC0.out.kept b1; replace b1 := below_chain b0 b1) | (go_at_call 79; refine (l2Day_any _ _).mono ?_; rw [HD.out]; rintro e w3 ⟨rfl, h3⟩; subst w3) | (go_at_call 85; refine (l6Due_any _ _ r t dy _ (HV.out _ b1) (H1.out.below rRu_stable b1) HA.out).mono ?_; rw [HAA.out]; rintro e w4 ⟨rfl, b4⟩; replace b4 := below_chain b1 b4))
      go_ret2
      exact ⟨rfl, b4⟩

set_option maxRecDepth 20000 in
set_option maxHeartbeats 4000000 in
theorem specEndsOf_any (v v1 : Value) (r : Rec) (t : List Ru) (w : World) (h : RecV w v r) (h1 : RowR 4 rRu w v1 t) (xs : List Int) (b : Bool) (hres : endsRes r t = (xs, b)) :
    Calls Try.prog 10 #[v, v1] w fun e w' => ∃ v', e = .returned (.tuple #[v', .bool b]) ∧ IntsO w.heap.size w'.heap.size w' v' xs ∧ Below w.heap.size w w' := by
  obtain ⟨i0, hi, hz0, hz1, hz2⟩ := info_parts Try.info_intI
  obtain ⟨s, rfl, h0, hok⟩ := h
  have HV := Lib.hid (show ∀ W, Below w.heap.size w W → RecV W (.agg #[.int .i64 r.id, .int .i64 r.series, .int .i64 r.made, s]) r from fun W hb => ⟨s, rfl, h0.below rEv_stable hb, hok⟩)
  have H1 := Lib.hid h1
  obtain ⟨ba, ha⟩ : ∃ b, askB r t = b := ⟨_, rfl⟩
  have HA := Lib.hid ha
  have HC0 : Hid (Box4 ((w.alloc (RBOX r s 26)).alloc (.cells #[] 3 (0, 0))) w.heap.size r s) := Lib.hid ((Box4.new w r s 26).kept (below_al (Below.refl _ _) _))
  have he0 : (w.alloc (RBOX r s 26)).heap.size = w.heap.size + 1 := by simp
  have HI0 : Hid (IntsO (w.heap.size + 1) ((w.alloc (RBOX r s 26)).alloc (.cells #[] 3 (0, 0))).heap.size ((w.alloc (RBOX r s 26)).alloc (.cells #[] 3 (0, 0))) (.slice (some ⟨w.heap.size + 1, 0, none⟩) 0 0) []) := Lib.hid (by have := ints_new (w.alloc (RBOX r s 26)); rwa [he0] at this)
  clear he0
  have b0 := below_al (below_al (Below.refl w.heap.size w) (RBOX r s 26)) (.cells #[] 3 (0, 0))
  cases ba
  · obtain ⟨rfl, rfl⟩ := endsRes_no hres ha
    clear h0 hok h1 ha hres
    go_enter Try.func10, Try.ntmps10
    go_wp2_with (first | (go_at_call 68; refine (l6Asked_any _ _ r t _ (HV.out _ b0) (H1.out.below rRu_stable b0)).mono ?_; rw [HA.out]; rintro e w1 ⟨rfl, b1⟩; have HC1 := Lib.hid (HC0.out.kept b1); obtain ⟨c0, c1, c2, c3⟩ := HC1.out; have HI1 := Lib.hid ((HI0.out.below b1).wide (Nat.le_refl _) b1.size); replace b1 := below_chain b0 b1))
    go_ret2
    exact ⟨_, rfl, HI1.out.wide (Nat.le_succ _) (Nat.le_refl _), b1⟩
  · obtain ⟨rfl, rfl⟩ := endsRes_yes hres ha
    have hask := ask_iff.1 ha
    have HIR := Lib.hid hask.1
    obtain ⟨R, hR⟩ : ∃ R, forRu t r.series = R := ⟨_, rfl⟩
    have hn8 := sch_len hask.2
    have hRl : R.length ≤ 8 := by rw [← hR]; exact Nat.le_trans (forRu_len t r.series) hn8
    have HRU := Lib.hid (show ∀ u ∈ R, isRu u = true by rw [← hR]; exact forRu_ok hask.2 r.series)
    have HXS := Lib.hid (show endsF r t = R.map (endR r) by rw [show endsF r t = (forRu t r.series).map (endR r) from rfl, hR])
    have HRR := Lib.hid hR
    clear h0 hok h1 ha hres hask hR
    go_enter Try.func10, Try.ntmps10
    go_wp2_with (first | (go_at_call 68; refine (l6Asked_any _ _ r t _ (HV.out _ b0) (H1.out.below rRu_stable b0)).mono ?_; rw [HA.out]; rintro e w1 ⟨rfl, b1⟩; have HC1 := Lib.hid (HC0.out.kept b1); obtain ⟨c0, c1, c2, c3⟩ := HC1.out; have HI1 := Lib.hid ((HI0.out.below b1).wide (Nat.le_refl _) b1.size); have hw1 : w.heap.size + 2 ≤ w1.heap.size := (by have := b1.size; simp at this; omega); replace b1 := below_chain b0 b1) | (go_at_call 69; refine (l4For_any _ t r.series _ (H1.out.below rRu_stable b1) (by omega)).mono ?_; rw [HRR.out]; rintro e w2 ⟨v2, rfl, ho2, b2⟩; have hge : ∀ g, v2.ownBlock = some g → w.heap.size + 2 ≤ g := (fun g hg => by have := ho2.1.ge g hg; have := hw1; omega); obtain ⟨a1, cp1, hv, hl1, hm1, r2⟩ := ho2.row.rus; subst hv; unfold maxLen at hm1; have R2 := Lib.hid r2; have HC2 := Lib.hid (HC1.out.kept b2); have HI2 := Lib.hid (HI1.out.below b2); have hgl : w.heap.size + 1 < w2.heap.size := (by have := b2.size; omega); replace b2 := below_chain b1 b2; clear ho2 r2))
    have s2 := b2.size
    have HS0 := Lib.hid (OutS.start HI2.out.1 hgl)
    go_loopw [6, 8] (fun o i wr => ∃ k : Nat, k ≤ R.length ∧ i = .int .i64 k ∧ Hid (OutS (w.heap.size + 1) w2 wr o ((R.take k).map (endR r)))) (fun _ i _ => R.length - (intOf i).toNat)
    case atStart => exact ⟨0, Nat.zero_le _, rfl, HS0⟩
    case round =>
      clear HS0
      obtain ⟨k, hk, rfl, HS⟩ := hrel
      have hbw := b2.trans (HS.out.bel (Nat.le_succ _))
      by_cases hlt : k < R.length
      · obtain ⟨bb, o1, hb1, rfl, e1⟩ := R2.out.resolve_left (fun e => by rw [e] at hlt; simp at hlt)
        obtain ⟨q0, q1, q2, q3, hok⟩ := e1 k hlt
        obtain ⟨⟨x0, x1, x2, x3⟩, hx⟩ : ∃ s, R.getD k ruD = s := ⟨_, rfl⟩
        rw [hx] at q0 q1 q2 q3
        simp only at q0 q1 q2 q3
        have hxu : isRu ⟨x0, x1, x2, x3⟩ = true := by rw [← hx, getRu_lt hlt]; exact HRU.out _ (List.getElem_mem hlt)
        obtain ⟨E, hE⟩ : ∃ E, endR r ⟨x0, x1, x2, x3⟩ = E := ⟨_, rfl⟩
        have hbb : w.heap.size + 2 ≤ bb := hge bb (by simp [Value.ownBlock])
        have F0 := Lib.hid q0
        have F1 := Lib.hid q1
        have F2 := Lib.hid q2
        have F3 := Lib.hid q3
        have f0 := HS.out.cell q0 (by omega)
        have f1 := HS.out.cell q1 (by omega)
        have f2 := HS.out.cell q2 (by omega)
        have f3 := HS.out.cell q3 (by omega)
        have C0 := Lib.hid HC2.out.1
        have C1 := Lib.hid HC2.out.2.1
        have C2 := Lib.hid HC2.out.2.2.1
        have C3 := Lib.hid HC2.out.2.2.2
        have c0 := HS.out.cell C0.out (by omega)
        have c1 := HS.out.cell C1.out (by omega)
        have c2 := HS.out.cell C2.out (by omega)
        have c3 := HS.out.cell C3.out (by omega)
        have g0 : (0 : Int) ≤ (k : Int) := by omega
        have g1 : (k : Int) < (R.length : Int) := by omega
        have htake := ends_take (r := r) hlt
        rw [hx, hE] at htake
        obtain ⟨Pp, hP⟩ : ∃ P, (R.take k).map (endR r) = P := ⟨_, rfl⟩
        have hPl : Pp.length ≤ 8 := by rw [← hP, List.length_map, List.length_take]; omega
        rw [hP] at htake HS
        have HTK := Lib.hid htake
        have hcall : Hid (∀ W, Below wr.heap.size wr W → Calls Try.prog 70 #[.agg #[.int .i64 r.id, .int .i64 r.series, .int .i64 r.made, s], .agg #[.int .i64 x0, .int .i64 x1, .int .i64 x2, .int .i64 x3]] W fun e w' => e = .returned (.int .i64 E) ∧ Below W.heap.size W w') := Lib.hid (fun W hW => by
          have := l6End_any (.agg #[.int .i64 r.id, .int .i64 r.series, .int .i64 r.made, s]) r ⟨x0, x1, x2, x3⟩ W (HV.out _ (hbw.trans (hW.mono hbw.size))) HIR.out hxu
          rw [hE] at this
          exact this)
        clear q0 q1 q2 q3 hx e1 htake hP hE hxu hok
        go_wp2_with fail
        go_region_held3 (fun w' => w'.cell? ⟨w.heap.size, 0, none⟩ = some (.int .i64 r.id) ∧ w'.cell? ⟨w.heap.size, 1, none⟩ = some (.int .i64 r.series) ∧ w'.cell? ⟨w.heap.size, 2, none⟩ = some (.int .i64 r.made) ∧ w'.cell? ⟨w.heap.size, 3, none⟩ = some s ∧ w'.cell? ⟨bb, o1 + k * 4, none⟩ = some (.int .i64 x0) ∧ w'.cell? ⟨bb, o1 + k * 4 + 1, none⟩ = some (.int .i64 x1) ∧ w'.cell? ⟨bb, o1 + k * 4 + 2, none⟩ = some (.int .i64 x2) ∧ w'.cell? ⟨bb, o1 + k * 4 + 3, none⟩ = some (.int .i64 x3))
          (first | exact ⟨c0, c1, c2, c3, f0, f1, f2, f3⟩ | exact ⟨below_al_cell c0 _, below_al_cell c1 _, below_al_cell c2 _, below_al_cell c3 _, below_al_cell f0 _, below_al_cell f1 _, below_al_cell f2 _, below_al_cell f3 _⟩ | go_keep)
          (first | (go_at_call 70; refine (hcall.out _ (Below.refl _ _).drew).mono ?_; rintro e w5 ⟨rfl, b5⟩; have HS5 := Lib.hid (HS.out.below ((Below.refl _ _).drew.trans b5)); have hs5 := b5.size; replace c0 := HS5.out.cell C0.out (by omega); replace c1 := HS5.out.cell C1.out (by omega); replace c2 := HS5.out.cell C2.out (by omega); replace c3 := HS5.out.cell C3.out (by omega); replace f0 := HS5.out.cell F0.out (by omega); replace f1 := HS5.out.cell F1.out (by omega); replace f2 := HS5.out.cell F2.out (by omega); replace f3 := HS5.out.cell F3.out (by omega)) | (rw [if_pos (by rfl)]; refine wp_append_at _ _ _ _ rfl (w.heap.size + 1) 3 i0 (.int .i64 0) 1 8 Try.underlying30 hi hz0 hz1 hz2 rfl (by decide) u6 Pp.length (Pp.map vI) (by rfl) (by exact (HS5.out.below (below_al (Below.refl _ _) _)).own) ⟨w5.heap.size, 0, none⟩ 1 1 [.int .i64 E] (by rfl) rfl (by exact cell_oneI _ _ _ rfl) (by simp [Value.oneCell']) (by unfold maxLen; omega) (by omega) (by have := HS5.out.lt; have := HS5.out.only.size; simp; omega) ?_; intro v' w7 hown' hgrow hat; have HS7 := Lib.hid ((HS5.out.below (below_al (Below.refl _ _) _)).app hown' hgrow hat); replace c0 := HS7.out.cell C0.out (by omega); replace c1 := HS7.out.cell C1.out (by omega); replace c2 := HS7.out.cell C2.out (by omega); replace c3 := HS7.out.cell C3.out (by omega); replace f0 := HS7.out.cell F0.out (by omega); replace f1 := HS7.out.cell F1.out (by omega); replace f2 := HS7.out.cell F2.out (by omega); replace f3 := HS7.out.cell F3.out (by omega); clear hown' hgrow hat))
        go_wp2_with fail
        go_roundw
        case rel => exact ⟨k + 1, by omega, by go_num, (by rw [HTK.out]; exact HS7)⟩
        case measure => simp [intOf]; omega
      · obtain rfl : k = R.length := by omega
        rw [List.take_length] at HS
        have HO := Lib.hid HS.out.own
        go_wp2_with fail
        go_ret2
        exact ⟨_, rfl, by rw [HXS.out]; exact (ints_rowS HO.out rfl).wide (Nat.le_succ _) (Nat.le_refl _), hbw⟩

set_option maxRecDepth 20000 in
set_option maxHeartbeats 4000000 in
theorem specWaitsFor_any (v v1 : Value) (r : Rec) (t : List Ru) (w : World) (h : RecV w v r) (h1 : RowR 4 rRu w v1 t) (xs : List Int) (b : Bool) (hres : waitRes r t = (xs, b)) :
    Calls Try.prog 15 #[v, v1] w fun e w' => ∃ v', e = .returned (.tuple #[v', .bool b]) ∧ IntsO w.heap.size w'.heap.size w' v' xs ∧ Below w.heap.size w w' := by
  obtain ⟨i0, hi, hz0, hz1, hz2⟩ := info_parts Try.info_intI
  obtain ⟨s, rfl, h0, hok⟩ := h
  have HV := Lib.hid (show ∀ W, Below w.heap.size w W → RecV W (.agg #[.int .i64 r.id, .int .i64 r.series, .int .i64 r.made, s]) r from fun W hb => ⟨s, rfl, h0.below rEv_stable hb, hok⟩)
  have H1 := Lib.hid h1
  obtain ⟨ba, ha⟩ : ∃ b, askB r t = b := ⟨_, rfl⟩
  have HA := Lib.hid ha
  have HC0 : Hid (Box4 ((w.alloc (RBOX r s 26)).alloc (.cells #[] 3 (0, 0))) w.heap.size r s) := Lib.hid ((Box4.new w r s 26).kept (below_al (Below.refl _ _) _))
  have he0 : (w.alloc (RBOX r s 26)).heap.size = w.heap.size + 1 := by simp
  have HI0 : Hid (IntsO (w.heap.size + 1) ((w.alloc (RBOX r s 26)).alloc (.cells #[] 3 (0, 0))).heap.size ((w.alloc (RBOX r s 26)).alloc (.cells #[] 3 (0, 0))) (.slice (some ⟨w.heap.size + 1, 0, none⟩) 0 0) []) := Lib.hid (by have := ints_new (w.alloc (RBOX r s 26)); rwa [he0] at this)
  clear he0
  have b0 := below_al (below_al (Below.refl w.heap.size w) (RBOX r s 26)) (.cells #[] 3 (0, 0))
  cases ba
  · obtain ⟨rfl, rfl⟩ := waitRes_no hres ha
    clear h0 hok h1 ha hres
    go_enter Try.func15, Try.ntmps15
    go_wp2_with (first | (go_at_call 68; refine (l6Asked_any _ _ r t _ (HV.out _ b0) (H1.out.below rRu_stable b0)).mono ?_; rw [HA.out]; rintro e w1 ⟨rfl, b1⟩; have HC1 := Lib.hid (HC0.out.kept b1); obtain ⟨c0, c1, c2, c3⟩ := HC1.out; have HI1 := Lib.hid ((HI0.out.below b1).wide (Nat.le_refl _) b1.size); replace b1 := below_chain b0 b1))
    go_ret2
    exact ⟨_, rfl, HI1.out.wide (Nat.le_succ _) (Nat.le_refl _), b1⟩
  · obtain ⟨rfl, rfl⟩ := waitRes_yes hres ha
    have hask := ask_iff.1 ha
    have HIR := Lib.hid hask.1
    obtain ⟨R, hR⟩ : ∃ R, forRu t r.series = R := ⟨_, rfl⟩
    have hn8 := sch_len hask.2
    have hRl : R.length ≤ 8 := by rw [← hR]; exact Nat.le_trans (forRu_len t r.series) hn8
    have HRU := Lib.hid (show ∀ u ∈ R, isRu u = true by rw [← hR]; exact forRu_ok hask.2 r.series)
    have HXS := Lib.hid (show waitF r t = waitU r R by rw [waitF_u, hR])
    have HRR := Lib.hid hR
    clear h0 hok h1 ha hres hask hR
    go_enter Try.func15, Try.ntmps15
    go_wp2_with (first | (go_at_call 68; refine (l6Asked_any _ _ r t _ (HV.out _ b0) (H1.out.below rRu_stable b0)).mono ?_; rw [HA.out]; rintro e w1 ⟨rfl, b1⟩; have HC1 := Lib.hid (HC0.out.kept b1); obtain ⟨c0, c1, c2, c3⟩ := HC1.out; have HI1 := Lib.hid ((HI0.out.below b1).wide (Nat.le_refl _) b1.size); have hw1 : w.heap.size + 2 ≤ w1.heap.size := (by have := b1.size; simp at this; omega); replace b1 := below_chain b0 b1) | (go_at_call 69; refine (l4For_any _ t r.series _ (H1.out.below rRu_stable b1) (by omega)).mono ?_; rw [HRR.out]; rintro e w2 ⟨v2, rfl, ho2, b2⟩; have hge : ∀ g, v2.ownBlock = some g → w.heap.size + 2 ≤ g := (fun g hg => by have := ho2.1.ge g hg; have := hw1; omega); obtain ⟨a1, cp1, hv, hl1, hm1, r2⟩ := ho2.row.rus; subst hv; unfold maxLen at hm1; have R2 := Lib.hid r2; have HC2 := Lib.hid (HC1.out.kept b2); have HI2 := Lib.hid (HI1.out.below b2); have hgl : w.heap.size + 1 < w2.heap.size := (by have := b2.size; omega); replace b2 := below_chain b1 b2; clear ho2 r2))
    have HS0 := Lib.hid (OutS.start HI2.out.1 hgl)
    go_loopw [6, 8] (fun o i wr => ∃ k : Nat, k ≤ R.length ∧ i = .int .i64 k ∧ Hid (OutS (w.heap.size + 1) w2 wr o (waitU r (R.take k)))) (fun _ i _ => R.length - (intOf i).toNat)
    case atStart => exact ⟨0, Nat.zero_le _, rfl, HS0⟩
    case round =>
      clear HS0
      obtain ⟨k, hk, rfl, HS⟩ := hrel
      have hbw := b2.trans (HS.out.bel (Nat.le_succ _))
      by_cases hlt : k < R.length
      · obtain ⟨bb, o1, hb1, rfl, e1⟩ := R2.out.resolve_left (fun e => by rw [e] at hlt; simp at hlt)
        obtain ⟨q0, q1, q2, q3, hok⟩ := e1 k hlt
        obtain ⟨⟨x0, x1, x2, x3⟩, hx⟩ : ∃ s, R.getD k ruD = s := ⟨_, rfl⟩
        rw [hx] at q0 q1 q2 q3
        simp only at q0 q1 q2 q3
        have hxu : isRu ⟨x0, x1, x2, x3⟩ = true := by rw [← hx, getRu_lt hlt]; exact HRU.out _ (List.getElem_mem hlt)
        obtain ⟨E, hE⟩ : ∃ E, endR r ⟨x0, x1, x2, x3⟩ = E := ⟨_, rfl⟩
        have hbb : w.heap.size + 2 ≤ bb := hge bb (by simp [Value.ownBlock])
        have F0 := Lib.hid q0
        have F1 := Lib.hid q1
        have F2 := Lib.hid q2
        have F3 := Lib.hid q3
        have f0 := HS.out.cell q0 (by omega)
        have f1 := HS.out.cell q1 (by omega)
        have f2 := HS.out.cell q2 (by omega)
        have f3 := HS.out.cell q3 (by omega)
        have C0 := Lib.hid HC2.out.1
        have C1 := Lib.hid HC2.out.2.1
        have C2 := Lib.hid HC2.out.2.2.1
        have C3 := Lib.hid HC2.out.2.2.2
        have c0 := HS.out.cell C0.out (by omega)
        have c1 := HS.out.cell C1.out (by omega)
        have c2 := HS.out.cell C2.out (by omega)
        have c3 := HS.out.cell C3.out (by omega)
        have g0 : (0 : Int) ≤ (k : Int) := by omega
        have g1 : (k : Int) < (R.length : Int) := by omega
        have htake := wait_take (r := r) hlt
        rw [hx, hE] at htake
        obtain ⟨Pp, hP⟩ : ∃ P, waitU r (R.take k) = P := ⟨_, rfl⟩
        have hPl : Pp.length ≤ 8 := by rw [← hP]; have := waitU_len r (R.take k); rw [List.length_take] at this; omega
        rw [hP] at htake HS
        have HTK := Lib.hid htake
        have k0 := cell_regrown f0
        have k1 := cell_regrown f1
        have k2 := cell_regrown f2
        have k3 := cell_regrown f3
        have m0 := cell_regrown c0
        have m1 := cell_regrown c1
        have m2 := cell_regrown c2
        have m3 := cell_regrown c3
        have hc := l6End_grown (.agg #[.int .i64 r.id, .int .i64 r.series, .int .i64 r.made, s]) r ⟨x0, x1, x2, x3⟩ E hE wr (fun W hW => HV.out W (hbw.trans (hW.mono hbw.size))) HIR.out hxu
        simp only at hc
        clear q0 q1 q2 q3 hx e1 htake hP hE hxu hok
        by_cases hEn : E < 0
        · have hEd : decide (E < 0) = true := decide_eq_true hEn
          have HTK2 := Lib.hid (HTK.out.trans (if_pos hEn))
          go_wp2_with fail
          refine wp_region_quiet_below (by kernel_rfl) (by kernel_rfl) ?_
          repeat (go_big_quiet_step (first | exact hc _ _))
          refine wpQuiet_nil ?_
          intro _ hw'
          obtain ⟨⟨dq, osq⟩, hw''⟩ := hw'
          subst hw''
          have bq := below_regrown wr dq osq
          have HSq := Lib.hid (HS.out.below bq)
          have j0 := cell_kept f0 bq
          have j1 := cell_kept f1 bq
          have j2 := cell_kept f2 bq
          have j3 := cell_kept f3 bq
          generalize grow (redrawn wr dq) osq = wz at *
          clear k0 k1 k2 k3 m0 m1 m2 m3 hc c0 c1 c2 c3 f0 f1 f2 f3 HS bq C0 C1 C2 C3 F0 F1 F2 F3 hbw
          clear hEn
          go_wp2_with (first | (at_builtin; refine wpList_append_own_at _ rfl _ _ 30 rfl (w.heap.size + 1) 3 i0 (.int .i64 0) 1 8 Try.underlying30 hi hz0 hz1 hz2 rfl (by decide) _ _ _ rfl ((HSq.out.below (below_al (Below.refl _ _) _)).own) ⟨wz.heap.size, 0, none⟩ 1 1 [.int .i64 x1] rfl rfl (cell_oneI _ _ _ (by simp)) (by simp [Value.oneCell']) (by unfold maxLen; omega) (by omega) (by have := HSq.out.lt; have := HSq.out.only.size; simp; omega) ?_; intro v' w7 hown' hgrow _ hat; have HS7 := Lib.hid ((HSq.out.below (below_al (Below.refl _ _) _)).app hown' hgrow hat); clear hown' hgrow hat))
          go_wp2_with fail
          go_roundw
          case rel => exact ⟨k + 1, by omega, by go_num, (by rw [HTK2.out]; exact HS7)⟩
          case measure => simp [intOf]; omega
        · have hEd : decide (E < 0) = false := decide_eq_false hEn
          have HTK2 := Lib.hid (HTK.out.trans (if_neg hEn))
          go_wp2_with fail
          refine wp_region_quiet_below (by kernel_rfl) (by kernel_rfl) ?_
          repeat (go_big_quiet_step (first | exact hc _ _))
          refine wpQuiet_nil ?_
          intro _ hw'
          obtain ⟨⟨dq, osq⟩, hw''⟩ := hw'
          subst hw''
          have bq := below_regrown wr dq osq
          have HSq := Lib.hid (HS.out.below bq)
          have j0 := cell_kept f0 bq
          have j1 := cell_kept f1 bq
          have j2 := cell_kept f2 bq
          have j3 := cell_kept f3 bq
          generalize grow (redrawn wr dq) osq = wz at *
          clear k0 k1 k2 k3 m0 m1 m2 m3 hc c0 c1 c2 c3 f0 f1 f2 f3 HS bq C0 C1 C2 C3 F0 F1 F2 F3 hbw
          clear hEn
          go_wp2_with fail
          go_roundw
          case rel => exact ⟨k + 1, by omega, by go_num, (by rw [HTK2.out]; exact HSq)⟩
          case measure => simp [intOf]; omega
      · obtain rfl : k = R.length := by omega
        rw [List.take_length] at HS
        have HO := Lib.hid HS.out.own
        go_wp2_with fail
        go_ret2
        exact ⟨_, rfl, by rw [HXS.out]; exact (ints_rowS HO.out rfl).wide (Nat.le_succ _) (Nat.le_refl _), hbw⟩

set_option maxRecDepth 20000 in
set_option maxHeartbeats 4000000 in
theorem specDueRecords_any (v v1 : Value) (rs : List Rec) (t : List Ru) (dy ac : Int) (w : World) (h : RowR 4 rRec w v rs) (h1 : RowR 4 rRu w v1 t) (xs : List Int) (b : Bool) (hres : drecRes rs t dy ac = (xs, b)) :
    Calls Try.prog 28 #[v, v1, .int .i64 dy, .int .i64 ac] w fun e w' => ∃ v', e = .returned (.tuple #[v', .bool b]) ∧ IntsO w.heap.size w'.heap.size w' v' xs ∧ Below w.heap.size w w' := by
  obtain ⟨i0, hi, hz0, hz1, hz2⟩ := info_parts Try.info_intI
  have H := Lib.hid h
  have H1 := Lib.hid h1
  obtain ⟨a1, c1, rfl, hl1, hm1, r1⟩ := h.recs
  have R1 := Lib.hid r1
  unfold maxLen at hm1
  obtain ⟨br, hr⟩ : ∃ b, areRecs rs = b := ⟨_, rfl⟩
  obtain ⟨bs, hs⟩ : ∃ b, isSch t = b := ⟨_, rfl⟩
  have HR := Lib.hid hr
  have HS := Lib.hid hs
  have HI0 := Lib.hid (ints_new w)
  have b0 := below_al (Below.refl w.heap.size w) (.cells #[] 3 (0, 0))
  obtain ⟨bd, hd⟩ : ∃ b, decide (0 ≤ dy ∧ dy ≤ 20000) = b := ⟨_, rfl⟩
  obtain ⟨bac, hac⟩ : ∃ b, decide (1 ≤ ac ∧ ac ≤ 3) = b := ⟨_, rfl⟩
  have HD := Lib.hid hd
  have HAC := Lib.hid hac
  have NO := Lib.hid (fun hn => drecRes_no hres hn)
  have YES := Lib.hid (fun hn => drecRes_yes hres hn)
  clear h h1 r1 hr hs hd hac hres
  cases br
  · obtain ⟨rfl, rfl⟩ := NO.out (fun h => by rw [HR.out] at h; exact absurd h.1 (by simp))
    go_enter Try.func28, Try.ntmps28
    go_wp2_with (first | (go_at_call 91; refine (l2Records_any _ rs _ (H.out.below rRec_stable b0)).mono ?_; rw [HR.out]; rintro e w1 ⟨rfl, b1⟩; have HI1 := Lib.hid ((HI0.out.below b1).wide (Nat.le_refl _) b1.size); replace b1 := below_chain b0 b1; clear HI0 b0))
    go_ret2
    exact ⟨_, rfl, HI1.out, b1⟩
  · cases bs
    · obtain ⟨rfl, rfl⟩ := NO.out (fun h => by rw [HS.out] at h; exact absurd h.2.1 (by simp))
      go_enter Try.func28, Try.ntmps28
      go_wp2_with (first | (go_at_call 91; refine (l2Records_any _ rs _ (H.out.below rRec_stable b0)).mono ?_; rw [HR.out]; rintro e w1 ⟨rfl, b1⟩; have HI1 := Lib.hid ((HI0.out.below b1).wide (Nat.le_refl _) b1.size); replace b1 := below_chain b0 b1; clear HI0 b0) | (go_at_call 78; refine (l4Good_any _ t _ (H1.out.below rRu_stable b1)).mono ?_; rw [HS.out]; rintro e w2 ⟨rfl, b2⟩; have HI2 := Lib.hid ((HI1.out.below b2).wide (Nat.le_refl _) b2.size); replace b2 := below_chain b1 b2; clear HI1 b1))
      go_ret2
      exact ⟨_, rfl, HI2.out, b2⟩
    · cases bd
      · obtain ⟨rfl, rfl⟩ := NO.out (fun h => of_decide_eq_false HD.out h.2.2.1)
        go_enter Try.func28, Try.ntmps28
        go_wp2_with (first | (go_at_call 91; refine (l2Records_any _ rs _ (H.out.below rRec_stable b0)).mono ?_; rw [HR.out]; rintro e w1 ⟨rfl, b1⟩; have HI1 := Lib.hid ((HI0.out.below b1).wide (Nat.le_refl _) b1.size); replace b1 := below_chain b0 b1; clear HI0 b0) | (go_at_call 78; refine (l4Good_any _ t _ (H1.out.below rRu_stable b1)).mono ?_; rw [HS.out]; rintro e w2 ⟨rfl, b2⟩; have HI2 := Lib.hid ((HI1.out.below b2).wide (Nat.le_refl _) b2.size); replace b2 := below_chain b1 b2; clear HI1 b1) | (go_at_call 79; refine (l2Day_any _ _).mono ?_; rw [HD.out]; rintro e w3 ⟨rfl, h3⟩; subst w3))
        go_ret2
        exact ⟨_, rfl, HI2.out, b2⟩
      · cases bac
        · obtain ⟨rfl, rfl⟩ := NO.out (fun h => of_decide_eq_false HAC.out h.2.2.2)
          go_enter Try.func28, Try.ntmps28
          go_wp2_with (first | (go_at_call 91; refine (l2Records_any _ rs _ (H.out.below rRec_stable b0)).mono ?_; rw [HR.out]; rintro e w1 ⟨rfl, b1⟩; have HI1 := Lib.hid ((HI0.out.below b1).wide (Nat.le_refl _) b1.size); replace b1 := below_chain b0 b1; clear HI0 b0) | (go_at_call 78; refine (l4Good_any _ t _ (H1.out.below rRu_stable b1)).mono ?_; rw [HS.out]; rintro e w2 ⟨rfl, b2⟩; have HI2 := Lib.hid ((HI1.out.below b2).wide (Nat.le_refl _) b2.size); replace b2 := below_chain b1 b2; clear HI1 b1) | (go_at_call 79; refine (l2Day_any _ _).mono ?_; rw [HD.out]; rintro e w3 ⟨rfl, h3⟩; subst w3) | (go_at_call 92; refine (l1In_any _ _ _ _).mono ?_; rw [HAC.out]; rintro e w3 ⟨rfl, h3⟩; subst w3))
          go_ret2
          exact ⟨_, rfl, HI2.out, b2⟩
        · obtain ⟨rfl, rfl⟩ := YES.out ⟨HR.out, HS.out, of_decide_eq_true HD.out, of_decide_eq_true HAC.out⟩
          have hten := recs_ten HR.out
          clear NO YES
          go_enter Try.func28, Try.ntmps28
          go_wp2_with (first | (go_at_call 91; refine (l2Records_any _ rs _ (H.out.below rRec_stable b0)).mono ?_; rw [HR.out]; rintro e w1 ⟨rfl, b1⟩; have HI1 := Lib.hid ((HI0.out.below b1).wide (Nat.le_refl _) b1.size); replace b1 := below_chain b0 b1; clear HI0 b0) | (go_at_call 78; refine (l4Good_any _ t _ (H1.out.below rRu_stable b1)).mono ?_; rw [HS.out]; rintro e w2 ⟨rfl, b2⟩; have HI2 := Lib.hid ((HI1.out.below b2).wide (Nat.le_refl _) b2.size); replace b2 := below_chain b1 b2; clear HI1 b1) | (go_at_call 79; refine (l2Day_any _ _).mono ?_; rw [HD.out]; rintro e w3 ⟨rfl, h3⟩; subst w3) | (go_at_call 92; refine (l1In_any _ _ _ _).mono ?_; rw [HAC.out]; rintro e w3 ⟨rfl, h3⟩; subst w3))
          go_loopw [10, 11] (fun o i wr => ∃ k : Nat, k ≤ rs.length ∧ i = .int .i64 k ∧ wr.ownsRow w.heap.size 3 1 o (hitF t dy ac (rs.take k)).length ((hitF t dy ac (rs.take k)).map vI) ∧ Below w.heap.size w wr) (fun _ i _ => rs.length - (intOf i).toNat)
          case atStart => exact ⟨0, Nat.zero_le _, rfl, by simpa [hitF] using HI2.out.1, b2⟩
          case round =>
            clear b2 HI2
            obtain ⟨k, hk, rfl, hO, hb⟩ := hrel
            by_cases hlt : k < rs.length
            · obtain ⟨bR, oR, hbR, rfl, e1⟩ := R1.out.resolve_left (fun e => by rw [e] at hlt; simp at hlt)
              obtain ⟨sv, q0, q1, q2, q3, hrow, hok⟩ := e1 k hlt
              obtain ⟨r, hx⟩ : ∃ s, rs.getD k recD = s := ⟨_, rfl⟩
              have hri : isRec r = true := by rw [← hx]; exact recs_at HR.out hlt
              rw [hx] at q0 q1 q2 hrow hok
              have hr0 := hrow
              obtain ⟨sa, sc, rfl, _⟩ := hr0
              have f0 := cell_kept q0 hb
              have f1 := cell_kept q1 hb
              have f2 := cell_kept q2 hb
              have f3 := cell_kept q3 hb
              have HV := Lib.hid (show ∀ W, Below w.heap.size w W → RecV W (.agg #[.int .i64 r.id, .int .i64 r.series, .int .i64 r.made, .slice sa r.evs.length sc]) r from fun W hb => ⟨_, rfl, hrow.below rEv_stable hb, hok⟩)
              have g0 : (0 : Int) ≤ (k : Int) := by omega
              have g1 : (k : Int) < (rs.length : Int) := by omega
              have hsz := hb.size
              obtain ⟨⟨y0, y1, y2, y3⟩, D, hdec⟩ : ∃ q d, decR r (forRu t r.series) = (q, d) := ⟨_, _, rfl⟩
              have hsucc := hit_succ (t := t) (d := dy) (a := ac) hlt
              have hlen := hit_len t dy ac (rs.take k)
              rw [List.length_take] at hlen
              have hhit : hitB t dy ac r = decide (y3 = ac ∧ (0 ≤ D ∧ D ≤ dy)) := by unfold hitB ruleF dueF; rw [hdec]
              have hdue : dueF r t = D := by unfold dueF; rw [hdec]
              rw [hx, hhit] at hsucc
              obtain ⟨Pp, hP⟩ : ∃ P, hitF t dy ac (rs.take k) = P := ⟨_, rfl⟩
              rw [hP] at hO hlen hsucc
              have HSU := Lib.hid hsucc
              have HDEC := Lib.hid hdec
              have HDU := Lib.hid hdue
              have HO := Lib.hid hO
              have f0' : ∀ W, Below wr.heap.size wr W → ∀ o, (W.alloc o).cell? ⟨bR, oR + k * 4, none⟩ = some (.int .i64 r.id) := fun W hW o => below_al_cell (cell_kept f0 hW) o
              have HFK := Lib.hid (show ∀ W, Below wr.heap.size wr W → W.cell? ⟨bR, oR + k * 4, none⟩ = some (.int .i64 r.id) ∧ W.cell? ⟨bR, oR + k * 4 + 1, none⟩ = some (.int .i64 r.series) ∧ W.cell? ⟨bR, oR + k * 4 + 2, none⟩ = some (.int .i64 r.made) ∧ W.cell? ⟨bR, oR + k * 4 + 3, none⟩ = some (.slice sa r.evs.length sc) from fun W hW => ⟨cell_kept f0 hW, cell_kept f1 hW, cell_kept f2 hW, cell_kept f3 hW⟩)
              clear q0 q1 q2 q3 hrow hx e1 hsucc hP hok hdec hdue hhit hO f0'
              by_cases hact : y3 = ac
              · have hactd : (y3 == ac) = true := by simp [hact]
                obtain ⟨bq, hbq⟩ : ∃ b, decide (0 ≤ D ∧ D ≤ dy) = b := ⟨_, rfl⟩
                have HBQ := Lib.hid hbq
                have HAQ := Lib.hid hact
                clear hact hbq
                cases bq
                · have HSU2 := Lib.hid (HSU.out.trans (if_neg (by rw [decide_eq_true_eq]; exact fun h => of_decide_eq_false HBQ.out h.2)))
                  go_wp2_with (first | (go_at_call 72; refine (l6Deciding_any _ _ r t _ (HV.out _ hb) (H1.out.below rRu_stable hb) hri HS.out _ _ HDEC.out).mono ?_; rintro e w5 ⟨rfl, b5⟩; obtain ⟨f0, f1, f2, f3⟩ := HFK.out _ (below_al b5 (.cells #[.int .i64 y0, .int .i64 y1, .int .i64 y2, .int .i64 y3] 37 (0, 0))); have bx5 := below_al b5 (.cells #[.int .i64 y0, .int .i64 y1, .int .i64 y2, .int .i64 y3] 37 (0, 0)); have HO5 := Lib.hid (ownsRow_below HO.out bx5); have bz5 := bx5; replace b5 := below_chain hb bx5; simp only) | (go_at_call 85; refine (l6Due_any _ _ r t dy _ (HV.out _ b5) (H1.out.below rRu_stable b5) (ask_iff.2 ⟨hri, HS.out⟩)).mono ?_; rw [HDU.out, HBQ.out]; rintro e w6 ⟨rfl, b6⟩; replace f0 := cell_kept f0 b6; have HO6 := Lib.hid (ownsRow_below HO5.out b6); replace b6 := below_chain b5 b6; have hs6 := b6.size))
                  go_roundw
                  case rel => exact ⟨k + 1, by omega, by go_num, (by rw [HSU2.out]; exact HO6.out), b6⟩
                  case measure => simp [intOf]; omega
                · have HSU2 := Lib.hid (HSU.out.trans (if_pos (by rw [decide_eq_true_eq]; exact ⟨HAQ.out, of_decide_eq_true HBQ.out⟩)))
                  go_wp2_with (first | (go_at_call 72; refine (l6Deciding_any _ _ r t _ (HV.out _ hb) (H1.out.below rRu_stable hb) hri HS.out _ _ HDEC.out).mono ?_; rintro e w5 ⟨rfl, b5⟩; obtain ⟨f0, f1, f2, f3⟩ := HFK.out _ (below_al b5 (.cells #[.int .i64 y0, .int .i64 y1, .int .i64 y2, .int .i64 y3] 37 (0, 0))); have bx5 := below_al b5 (.cells #[.int .i64 y0, .int .i64 y1, .int .i64 y2, .int .i64 y3] 37 (0, 0)); have HO5 := Lib.hid (ownsRow_below HO.out bx5); have bz5 := bx5; replace b5 := below_chain hb bx5; simp only) | (go_at_call 85; refine (l6Due_any _ _ r t dy _ (HV.out _ b5) (H1.out.below rRu_stable b5) (ask_iff.2 ⟨hri, HS.out⟩)).mono ?_; rw [HDU.out, HBQ.out]; rintro e w6 ⟨rfl, b6⟩; replace f0 := cell_kept f0 b6; have HO6 := Lib.hid (ownsRow_below HO5.out b6); replace b6 := below_chain b5 b6; have hs6 := b6.size) | (at_builtin; refine wpList_append_own _ rfl _ _ 30 rfl w.heap.size 3 i0 (.int .i64 0) 1 8 Try.underlying30 hi hz0 hz1 hz2 rfl (by decide) _ _ _ rfl (HO6.out.alloc _) ⟨w6.heap.size, 0, none⟩ 1 1 [.int .i64 r.id] rfl rfl (cell_oneI _ _ _ (by simp)) (by simp [Value.oneCell']) (by unfold maxLen; omega) (by omega) (by simp; omega) ?_; intro v' w7 hown' hgrow _))
                  have HOWN := Lib.hid hown'
                  have HB := Lib.hid (below_app b6 (Nat.le_refl _) HO6.out hgrow)
                  clear hown' hgrow
                  go_wp2_with fail
                  go_roundw
                  case rel => exact ⟨k + 1, by omega, by go_num, (by rw [HSU2.out]; simpa [vI] using HOWN.out), HB.out⟩
                  case measure => simp [intOf]; omega
              · have hactd : (y3 == ac) = false := by simp [hact]
                have HSU2 := Lib.hid (HSU.out.trans (if_neg (by rw [decide_eq_true_eq]; exact fun h => hact h.1)))
                clear hact
                go_wp2_with (first | (go_at_call 72; refine (l6Deciding_any _ _ r t _ (HV.out _ hb) (H1.out.below rRu_stable hb) hri HS.out _ _ HDEC.out).mono ?_; rintro e w5 ⟨rfl, b5⟩; obtain ⟨f0, f1, f2, f3⟩ := HFK.out _ (below_al b5 (.cells #[.int .i64 y0, .int .i64 y1, .int .i64 y2, .int .i64 y3] 37 (0, 0))); have bx5 := below_al b5 (.cells #[.int .i64 y0, .int .i64 y1, .int .i64 y2, .int .i64 y3] 37 (0, 0)); have HO5 := Lib.hid (ownsRow_below HO.out bx5); have bz5 := bx5; replace b5 := below_chain hb bx5; simp only))
                go_roundw
                case rel => exact ⟨k + 1, by omega, by go_num, (by rw [HSU2.out]; exact HO5.out), b5⟩
                case measure => simp [intOf]; omega
            · obtain rfl : k = rs.length := by omega
              rw [List.take_length] at hO
              have HO := Lib.hid hO
              clear hO
              go_wp2_with fail
              go_ret2
              exact ⟨_, rfl, ints_rowS HO.out rfl, hb⟩

set_option maxRecDepth 20000 in
set_option maxHeartbeats 4000000 in
theorem specNotScheduled_any (v v1 : Value) (rs : List Rec) (t : List Ru) (w : World) (h : RowR 4 rRec w v rs) (h1 : RowR 4 rRu w v1 t) (xs : List Int) (b : Bool) (hres : notsRes rs t = (xs, b)) :
    Calls Try.prog 34 #[v, v1] w fun e w' => ∃ v', e = .returned (.tuple #[v', .bool b]) ∧ IntsO w.heap.size w'.heap.size w' v' xs ∧ Below w.heap.size w w' := by
  obtain ⟨i0, hi, hz0, hz1, hz2⟩ := info_parts Try.info_intI
  have H := Lib.hid h
  have H1 := Lib.hid h1
  obtain ⟨a1, c1, rfl, hl1, hm1, r1⟩ := h.recs
  have R1 := Lib.hid r1
  unfold maxLen at hm1
  obtain ⟨br, hr⟩ : ∃ b, areRecs rs = b := ⟨_, rfl⟩
  obtain ⟨bs, hs⟩ : ∃ b, isSch t = b := ⟨_, rfl⟩
  have HR := Lib.hid hr
  have HS := Lib.hid hs
  have HI0 := Lib.hid (ints_new w)
  have b0 := below_al (Below.refl w.heap.size w) (.cells #[] 3 (0, 0))
  have NO := Lib.hid (fun hn => notsRes_no hres hn)
  have YES := Lib.hid (fun hn => notsRes_yes hres hn)
  clear h h1 r1 hr hs hres
  cases br
  · obtain ⟨rfl, rfl⟩ := NO.out (fun h => by rw [HR.out] at h; exact absurd h.1 (by simp))
    go_enter Try.func34, Try.ntmps34
    go_wp2_with (first | (go_at_call 91; refine (l2Records_any _ rs _ (H.out.below rRec_stable b0)).mono ?_; rw [HR.out]; rintro e w1 ⟨rfl, b1⟩; have HI1 := Lib.hid ((HI0.out.below b1).wide (Nat.le_refl _) b1.size); replace b1 := below_chain b0 b1; clear HI0 b0))
    go_ret2
    exact ⟨_, rfl, HI1.out, b1⟩
  · cases bs
    · obtain ⟨rfl, rfl⟩ := NO.out (fun h => by rw [HS.out] at h; exact absurd h.2 (by simp))
      go_enter Try.func34, Try.ntmps34
      go_wp2_with (first | (go_at_call 91; refine (l2Records_any _ rs _ (H.out.below rRec_stable b0)).mono ?_; rw [HR.out]; rintro e w1 ⟨rfl, b1⟩; have HI1 := Lib.hid ((HI0.out.below b1).wide (Nat.le_refl _) b1.size); replace b1 := below_chain b0 b1; clear HI0 b0) | (go_at_call 78; refine (l4Good_any _ t _ (H1.out.below rRu_stable b1)).mono ?_; rw [HS.out]; rintro e w2 ⟨rfl, b2⟩; have HI2 := Lib.hid ((HI1.out.below b2).wide (Nat.le_refl _) b2.size); replace b2 := below_chain b1 b2; clear HI1 b1))
      go_ret2
      exact ⟨_, rfl, HI2.out, b2⟩
    · obtain ⟨rfl, rfl⟩ := YES.out ⟨HR.out, HS.out⟩
      have hten := recs_ten HR.out
      have hn8 := sch_len HS.out
      clear NO YES
      go_enter Try.func34, Try.ntmps34
      go_wp2_with (first | (go_at_call 91; refine (l2Records_any _ rs _ (H.out.below rRec_stable b0)).mono ?_; rw [HR.out]; rintro e w1 ⟨rfl, b1⟩; have HI1 := Lib.hid ((HI0.out.below b1).wide (Nat.le_refl _) b1.size); replace b1 := below_chain b0 b1; clear HI0 b0) | (go_at_call 78; refine (l4Good_any _ t _ (H1.out.below rRu_stable b1)).mono ?_; rw [HS.out]; rintro e w2 ⟨rfl, b2⟩; have HI2 := Lib.hid ((HI1.out.below b2).wide (Nat.le_refl _) b2.size); replace b2 := below_chain b1 b2; clear HI1 b1))
      go_loopw [6, 7] (fun o i wr => ∃ k : Nat, k ≤ rs.length ∧ i = .int .i64 k ∧ wr.ownsRow w.heap.size 3 1 o (noneF t (rs.take k)).length ((noneF t (rs.take k)).map vI) ∧ Below w.heap.size w wr) (fun _ i _ => rs.length - (intOf i).toNat)
      case atStart => exact ⟨0, Nat.zero_le _, rfl, by simpa [noneF] using HI2.out.1, b2⟩
      case round =>
        clear b2 HI2
        obtain ⟨k, hk, rfl, hO, hb⟩ := hrel
        by_cases hlt : k < rs.length
        · obtain ⟨bR, oR, hbR, rfl, e1⟩ := R1.out.resolve_left (fun e => by rw [e] at hlt; simp at hlt)
          obtain ⟨sv, q0, q1, q2, q3, hrow, hok⟩ := e1 k hlt
          obtain ⟨r, hx⟩ : ∃ s, rs.getD k recD = s := ⟨_, rfl⟩
          have hri : isRec r = true := by rw [← hx]; exact recs_at HR.out hlt
          rw [hx] at q0 q1 q2 hrow hok
          have hr0 := hrow
          obtain ⟨sa, sc, rfl, _⟩ := hr0
          have f0 := cell_kept q0 hb
          have f1 := cell_kept q1 hb
          have f2 := cell_kept q2 hb
          have f3 := cell_kept q3 hb
          have HV := Lib.hid (show ∀ W, Below w.heap.size w W → RecV W (.agg #[.int .i64 r.id, .int .i64 r.series, .int .i64 r.made, .slice sa r.evs.length sc]) r from fun W hb => ⟨_, rfl, hrow.below rEv_stable hb, hok⟩)
          have g0 : (0 : Int) ≤ (k : Int) := by omega
          have g1 : (k : Int) < (rs.length : Int) := by omega
          have hsz := hb.size
          have hsucc := none_succ (t := t) hlt
          have hlen := none_len t (rs.take k)
          rw [List.length_take] at hlen
          rw [hx] at hsucc
          obtain ⟨F, hF⟩ : ∃ F, forRu t r.series = F := ⟨_, rfl⟩
          have hnb : noneB t r = decide (F.length = 0) := by unfold noneB; rw [hF]
          rw [hnb] at hsucc
          obtain ⟨Pp, hP⟩ : ∃ P, noneF t (rs.take k) = P := ⟨_, rfl⟩
          rw [hP] at hO hlen hsucc
          have HSU := Lib.hid hsucc
          have HF := Lib.hid hF
          have HO := Lib.hid hO
          have HF0 := Lib.hid f0
          clear q0 q1 q2 q3 hrow hx e1 hsucc hP hok hF hnb hO HV hri
          by_cases hz : F.length = 0
          · have hzd : ((F.length : Int) == 0) = true := by simp [hz]
            have hzd2 : decide ((F.length : Int) = 0) = true := decide_eq_true (by omega)
            have hzd3 : decide (F.length = 0) = true := decide_eq_true hz
            have HSU2 := Lib.hid (HSU.out.trans (if_pos (decide_eq_true hz)))
            clear hz
            go_wp2_with (first | (go_at_call 69; refine (l4For_any _ t r.series _ (H1.out.below rRu_stable hb) (by omega)).mono ?_; rw [HF.out]; rintro e w6 ⟨v6, rfl, ho6, b6⟩; obtain ⟨a6, c6, hv6, hl6, hm6, r6⟩ := ho6.row.rus; subst hv6; unfold maxLen at hm6; replace f0 := cell_kept HF0.out b6; have HO6 := Lib.hid (ownsRow_below HO.out b6); replace b6 := below_chain hb b6; have hs6 := b6.size; clear ho6 r6) | (at_builtin; refine wpList_append_own _ rfl _ _ 30 rfl w.heap.size 3 i0 (.int .i64 0) 1 8 Try.underlying30 hi hz0 hz1 hz2 rfl (by decide) _ _ _ rfl (HO6.out.alloc _) ⟨w6.heap.size, 0, none⟩ 1 1 [.int .i64 r.id] rfl rfl (cell_oneI _ _ _ (by simp)) (by simp [Value.oneCell']) (by unfold maxLen; omega) (by omega) (by simp; omega) ?_; intro v' w7 hown' hgrow _))
            have HOWN := Lib.hid hown'
            have HB := Lib.hid (below_app b6 (Nat.le_refl _) HO6.out hgrow)
            clear hown' hgrow
            go_wp2_with fail
            go_roundw
            case rel => exact ⟨k + 1, by omega, by go_num, (by rw [HSU2.out]; simpa [vI] using HOWN.out), HB.out⟩
            case measure => simp [intOf]; omega
          · have hzd : ((F.length : Int) == 0) = false := by simp [hz]
            have hzd2 : decide ((F.length : Int) = 0) = false := decide_eq_false (by omega)
            have hzd3 : decide (F.length = 0) = false := decide_eq_false hz
            have HSU2 := Lib.hid (HSU.out.trans (if_neg (by rw [decide_eq_true_eq]; exact hz)))
            clear hz
            go_wp2_with (first | (go_at_call 69; refine (l4For_any _ t r.series _ (H1.out.below rRu_stable hb) (by omega)).mono ?_; rw [HF.out]; rintro e w6 ⟨v6, rfl, ho6, b6⟩; obtain ⟨a6, c6, hv6, hl6, hm6, r6⟩ := ho6.row.rus; subst hv6; unfold maxLen at hm6; replace f0 := cell_kept HF0.out b6; have HO6 := Lib.hid (ownsRow_below HO.out b6); replace b6 := below_chain hb b6; have hs6 := b6.size; clear ho6 r6))
            go_roundw
            case rel => exact ⟨k + 1, by omega, by go_num, (by rw [HSU2.out]; exact HO6.out), b6⟩
            case measure => simp [intOf]; omega
        · obtain rfl : k = rs.length := by omega
          rw [List.take_length] at hO
          have HO := Lib.hid hO
          clear hO
          go_wp2_with fail
          go_ret2
          exact ⟨_, rfl, ints_rowS HO.out rfl, hb⟩

set_option maxRecDepth 20000 in
set_option maxHeartbeats 4000000 in
theorem specNextDue_any (v v1 : Value) (rs : List Rec) (t : List Ru) (dy : Int) (w : World) (h : RowR 4 rRec w v rs) (h1 : RowR 4 rRu w v1 t) (x y : Int) (b : Bool) (hres : nextRes rs t dy = (x, y, b)) :
    Calls Try.prog 31 #[v, v1, .int .i64 dy] w fun e w' => e = .returned (.tuple #[.int .i64 x, .int .i64 y, .bool b]) ∧ Below w.heap.size w w' := by
  have H := Lib.hid h
  have H1 := Lib.hid h1
  obtain ⟨a1, c1, rfl, hl1, hm1, r1⟩ := h.recs
  have R1 := Lib.hid r1
  unfold maxLen at hm1
  obtain ⟨br, hr⟩ : ∃ b, areRecs rs = b := ⟨_, rfl⟩
  obtain ⟨bs, hs⟩ : ∃ b, isSch t = b := ⟨_, rfl⟩
  obtain ⟨bd, hd⟩ : ∃ b, decide (0 ≤ dy ∧ dy ≤ 20000) = b := ⟨_, rfl⟩
  have HR := Lib.hid hr
  have HS := Lib.hid hs
  have HD := Lib.hid hd
  have NO := Lib.hid (fun hn => nextRes_no hres hn)
  have HRES := Lib.hid hres
  clear h h1 r1 hr hs hd hres
  cases br
  · obtain ⟨rfl, rfl, rfl⟩ := NO.out (fun h => by rw [HR.out] at h; exact absurd h.1 (by simp))
    go_enter Try.func31, Try.ntmps31
    go_wp2_with (first | (go_at_call 91; refine (l2Records_any _ rs _ H.out).mono ?_; rw [HR.out]; rintro e w1 ⟨rfl, b1⟩))
    go_ret3
    exact ⟨rfl, b1⟩
  · cases bs
    · obtain ⟨rfl, rfl, rfl⟩ := NO.out (fun h => by rw [HS.out] at h; exact absurd h.2.1 (by simp))
      go_enter Try.func31, Try.ntmps31
      go_wp2_with (first | (go_at_call 91; refine (l2Records_any _ rs _ H.out).mono ?_; rw [HR.out]; rintro e w1 ⟨rfl, b1⟩) | (go_at_call 78; refine (l4Good_any _ t _ (H1.out.below rRu_stable b1)).mono ?_; rw [HS.out]; rintro e w2 ⟨rfl, b2⟩; replace b2 := below_chain b1 b2))
      go_ret3
      exact ⟨rfl, b2⟩
    · cases bd
      · obtain ⟨rfl, rfl, rfl⟩ := NO.out (fun h => of_decide_eq_false HD.out h.2.2.1)
        go_enter Try.func31, Try.ntmps31
        go_wp2_with (first | (go_at_call 91; refine (l2Records_any _ rs _ H.out).mono ?_; rw [HR.out]; rintro e w1 ⟨rfl, b1⟩) | (go_at_call 78; refine (l4Good_any _ t _ (H1.out.below rRu_stable b1)).mono ?_; rw [HS.out]; rintro e w2 ⟨rfl, b2⟩; replace b2 := below_chain b1 b2) | (go_at_call 79; refine (l2Day_any _ _).mono ?_; rw [HD.out]; rintro e w3 ⟨rfl, h3⟩; subst w3))
        go_ret3
        exact ⟨rfl, b2⟩
      · have hten := recs_ten HR.out
        have hdy := of_decide_eq_true HD.out
        go_enter Try.func31, Try.ntmps31
        go_wp2_with (first | (go_at_call 91; refine (l2Records_any _ rs _ H.out).mono ?_; rw [HR.out]; rintro e w1 ⟨rfl, b1⟩) | (go_at_call 78; refine (l4Good_any _ t _ (H1.out.below rRu_stable b1)).mono ?_; rw [HS.out]; rintro e w2 ⟨rfl, b2⟩; replace b2 := below_chain b1 b2) | (go_at_call 79; refine (l2Day_any _ _).mono ?_; rw [HD.out]; rintro e w3 ⟨rfl, h3⟩; subst w3))
        go_loopw [9, 10, 11] (fun bst lst i wr => ∃ (k : Nat) (p l : Int), k ≤ rs.length ∧ i = .int .i64 k ∧ bst = .int .i64 p ∧ lst = .int .i64 l ∧ Hid (nextF t dy (rs.drop k) p l = nextF t dy rs 0 (-1)) ∧ Below w.heap.size w wr) (fun _ _ i _ => rs.length - (intOf i).toNat)
        case atStart => exact ⟨0, 0, -1, Nat.zero_le _, rfl, rfl, rfl, Lib.hid rfl, b2⟩
        case round =>
          clear b2
          obtain ⟨k, p, l, hk, rfl, rfl, rfl, HF, hb⟩ := hrel
          by_cases hlt : k < rs.length
          · obtain ⟨bR, oR, hbR, rfl, e1⟩ := R1.out.resolve_left (fun e => by rw [e] at hlt; simp at hlt)
            obtain ⟨sv, q0, q1, q2, q3, hrow, hok⟩ := e1 k hlt
            obtain ⟨r, hx⟩ : ∃ s, rs.getD k recD = s := ⟨_, rfl⟩
            have hri : isRec r = true := by rw [← hx]; exact recs_at HR.out hlt
            rw [hx] at q0 q1 q2 hrow hok
            have hr0 := hrow
            obtain ⟨sa, sc, rfl, _⟩ := hr0
            have f0 := cell_kept q0 hb
            have f1 := cell_kept q1 hb
            have f2 := cell_kept q2 hb
            have f3 := cell_kept q3 hb
            have HV := Lib.hid (show ∀ W, Below w.heap.size w W → RecV W (.agg #[.int .i64 r.id, .int .i64 r.series, .int .i64 r.made, .slice sa r.evs.length sc]) r from fun W hb => ⟨_, rfl, hrow.below rEv_stable hb, hok⟩)
            have g0 : (0 : Int) ≤ (k : Int) := by omega
            have g1 : (k : Int) < (rs.length : Int) := by omega
            have hsz := hb.size
            obtain ⟨⟨y0, y1, y2, y3⟩, D, hdec⟩ : ∃ q d, decR r (forRu t r.series) = (q, d) := ⟨_, _, rfl⟩
            have hdue : dueF r t = D := by unfold dueF; rw [hdec]
            have hdrop := drop_rec hlt
            rw [hx] at hdrop
            have HFF := Lib.hid (by rw [hdrop, next_cons] at HF; exact HF.out : (if dy < dueF r t ∧ (l < 0 ∨ dueF r t < l) then nextF t dy (rs.drop (k + 1)) r.id (dueF r t) else nextF t dy (rs.drop (k + 1)) p l) = nextF t dy rs 0 (-1))
            rw [hdue] at HFF
            have HDEC := Lib.hid hdec
            have HFK := Lib.hid (show ∀ W, Below wr.heap.size wr W → W.cell? ⟨bR, oR + k * 4, none⟩ = some (.int .i64 r.id) from fun W hW => cell_kept f0 hW)
            clear q0 q1 q2 q3 hrow hx e1 hok hdec hdue hdrop HF
            by_cases hgt : dy < D
            · have hgd : decide (dy < D) = true := decide_eq_true hgt
              by_cases hl0 : l < 0
              · have hld : decide (l < 0) = true := decide_eq_true hl0
                have HZ := Lib.hid HFF.out
                rw [if_pos ⟨hgt, .inl hl0⟩] at HZ
                go_wp2_with (first | (go_at_call 72; refine (l6Deciding_any _ _ r t _ (HV.out _ hb) (H1.out.below rRu_stable hb) hri HS.out _ _ HDEC.out).mono ?_; rintro e w5 ⟨rfl, b5⟩; have f0 := HFK.out _ (below_al b5 (.cells #[.int .i64 y0, .int .i64 y1, .int .i64 y2, .int .i64 y3] 37 (0, 0))); replace b5 := below_chain hb (below_al b5 (.cells #[.int .i64 y0, .int .i64 y1, .int .i64 y2, .int .i64 y3] 37 (0, 0))); simp only))
                go_roundw
                case rel => exact ⟨k + 1, r.id, D, by omega, by go_num, rfl, rfl, HZ, b5⟩
                case measure => simp [intOf]; omega
              · have hld : decide (l < 0) = false := decide_eq_false hl0
                by_cases hls : D < l
                · have hlsd : decide (D < l) = true := decide_eq_true hls
                  have HZ := Lib.hid HFF.out
                  rw [if_pos ⟨hgt, .inr hls⟩] at HZ
                  go_wp2_with (first | (go_at_call 72; refine (l6Deciding_any _ _ r t _ (HV.out _ hb) (H1.out.below rRu_stable hb) hri HS.out _ _ HDEC.out).mono ?_; rintro e w5 ⟨rfl, b5⟩; have f0 := HFK.out _ (below_al b5 (.cells #[.int .i64 y0, .int .i64 y1, .int .i64 y2, .int .i64 y3] 37 (0, 0))); replace b5 := below_chain hb (below_al b5 (.cells #[.int .i64 y0, .int .i64 y1, .int .i64 y2, .int .i64 y3] 37 (0, 0))); simp only))
                  go_roundw
                  case rel => exact ⟨k + 1, r.id, D, by omega, by go_num, rfl, rfl, HZ, b5⟩
                  case measure => simp [intOf]; omega
                · have hlsd : decide (D < l) = false := decide_eq_false hls
                  have HZ := Lib.hid HFF.out
                  rw [if_neg (by rintro ⟨_, h | h⟩; exact hl0 h; exact hls h)] at HZ
                  go_wp2_with (first | (go_at_call 72; refine (l6Deciding_any _ _ r t _ (HV.out _ hb) (H1.out.below rRu_stable hb) hri HS.out _ _ HDEC.out).mono ?_; rintro e w5 ⟨rfl, b5⟩; have f0 := HFK.out _ (below_al b5 (.cells #[.int .i64 y0, .int .i64 y1, .int .i64 y2, .int .i64 y3] 37 (0, 0))); replace b5 := below_chain hb (below_al b5 (.cells #[.int .i64 y0, .int .i64 y1, .int .i64 y2, .int .i64 y3] 37 (0, 0))); simp only))
                  go_roundw
                  case rel => exact ⟨k + 1, p, l, by omega, by go_num, rfl, rfl, HZ, b5⟩
                  case measure => simp [intOf]; omega
            · have hgd : decide (dy < D) = false := decide_eq_false hgt
              have HZ := Lib.hid HFF.out
              rw [if_neg (fun h => hgt h.1)] at HZ
              go_wp2_with (first | (go_at_call 72; refine (l6Deciding_any _ _ r t _ (HV.out _ hb) (H1.out.below rRu_stable hb) hri HS.out _ _ HDEC.out).mono ?_; rintro e w5 ⟨rfl, b5⟩; have f0 := HFK.out _ (below_al b5 (.cells #[.int .i64 y0, .int .i64 y1, .int .i64 y2, .int .i64 y3] 37 (0, 0))); replace b5 := below_chain hb (below_al b5 (.cells #[.int .i64 y0, .int .i64 y1, .int .i64 y2, .int .i64 y3] 37 (0, 0))); simp only))
              go_roundw
              case rel => exact ⟨k + 1, p, l, by omega, by go_num, rfl, rfl, HZ, b5⟩
              case measure => simp [intOf]; omega
          · obtain rfl : k = rs.length := by omega
            have hfin := HF.out
            rw [List.drop_length] at hfin
            have hfin2 : nextF t dy rs 0 (-1) = (p, l) := hfin.symm
            by_cases hl0 : l < 0
            · obtain ⟨rfl, rfl, rfl⟩ := NO.out (fun h => by have := h.2.2.2; rw [hfin2] at this; simp only at this; omega)
              clear hfin hfin2
              go_wp2_with fail
              go_ret3
              exact ⟨rfl, hb⟩
            · have hq := HRES.out
              unfold nextRes at hq
              rw [if_pos ⟨HR.out, HS.out, hdy, by rw [hfin2]; simp only; omega⟩, hfin2] at hq
              obtain ⟨rfl, e2⟩ := Prod.mk.inj hq
              obtain ⟨rfl, rfl⟩ := Prod.mk.inj e2
              clear hfin hfin2 hq e2
              go_wp2_with fail
              go_ret3
              exact ⟨rfl, hb⟩

theorem specDueAfter_any (v v1 : Value) (r : Rec) (t : List Ru) (e : Ev) (w : World) (h : RecV w v r) (hsome : ∃ x0 x1 x2 g c, v = .agg #[x0, x1, x2, .slice (some ⟨g, 0, none⟩) r.evs.length c]) (he : e.ok) (h1 : RowR 4 rRu w v1 t) (d : Int) (b : Bool) (hres : aftRes r t e = (d, b)) :
    Calls Try.prog 22 #[v, v1, .agg #[.int .i64 e.kind, .int .i64 e.day]] w fun e w' => e = .returned (.tuple #[.int .i64 d, .bool b]) ∧ Below w.heap.size w w' := by
  obtain ⟨s, rfl, hs, hok⟩ := h
  have H1 := Lib.hid h1
  have HSO := Lib.hid hsome
  have b0 := below_al (below_al (Below.refl w.heap.size w) (RBOX r s 26)) (.cells #[.int .i64 e.kind, .int .i64 e.day] 43 (0, 0))
  have HV := Lib.hid (show ∀ W, Below w.heap.size w W → RecV W (.agg #[.int .i64 r.id, .int .i64 r.series, .int .i64 r.made, s]) r from fun W hb => ⟨s, rfl, hs.below rEv_stable hb, hok⟩)
  obtain ⟨q, k, hq⟩ : ∃ q k, addRes r e = (q, k) := ⟨_, _, rfl⟩
  have HQ := Lib.hid hq
  have HRES := Lib.hid hres
  clear hs hok h1 hres hq hsome
  cases k
  · have hd : d = 0 ∧ b = false := by
      have h2 := HRES.out
      have h3 := HQ.out
      unfold addRes at h3
      split at h3
      · cases h3
      · rename_i hc
        unfold aftRes at h2
        rw [if_neg hc] at h2
        cases h2
        exact ⟨rfl, rfl⟩
    obtain ⟨rfl, rfl⟩ := hd
    go_enter Try.func22, Try.ntmps22
    go_wp2_with (first | (go_at_call 77; refine (specAddEvent_any _ r e _ (HV.out _ b0) HSO.out he q false HQ.out).mono ?_; rintro en w1 ⟨v', rfl, ho, b1⟩; replace b1 := below_chain b0 b1; obtain ⟨sx, rfl, hox, _⟩ := ho; obtain ⟨sa, sn, sc, rfl⟩ := hox.1.slice; clear hox))
    go_ret2
    exact ⟨rfl, below_al b1 _⟩
  · have hdd : dueRes q t = (d, b) ∧ isRec q = true := by
      have h2 := HRES.out
      have h3 := HQ.out
      unfold addRes at h3
      split at h3
      · rename_i hc
        unfold aftRes at h2
        rw [if_pos hc] at h2
        cases h3
        exact ⟨h2, hc.2⟩
      · cases h3
    obtain ⟨hdd, hqr⟩ := hdd
    unfold dueRes at hdd
    obtain ⟨Q, D, hdec⟩ : ∃ a b, decR q (forRu t q.series) = (a, b) := ⟨_, _, rfl⟩
    have hdf : dueF q t = D := by unfold dueF; rw [hdec]
    obtain ⟨bs, hbs⟩ : ∃ b, isSch t = b := ⟨_, rfl⟩
    have HS := Lib.hid hbs
    have HQR := Lib.hid hqr
    have HDEC := Lib.hid hdec
    cases bs
    · rw [setF_no (.inl (by unfold askB; rw [hbs]; simp))] at hdd
      obtain ⟨rfl, rfl⟩ := Prod.mk.inj hdd
      clear hbs hqr hdec hdf hdd
      go_enter Try.func22, Try.ntmps22
      go_wp2_with (first | (go_at_call 77; refine (specAddEvent_any _ r e _ (HV.out _ b0) HSO.out he q true HQ.out).mono ?_; rintro en w1 ⟨v', rfl, ho, b1⟩; replace b1 := below_chain b0 b1; obtain ⟨sx, rfl, hox, hokx⟩ := ho; obtain ⟨sa, sn, sc, rfl⟩ := hox.1.slice; have HRX := Lib.hid (show ∀ W, Below w1.heap.size w1 W → RecV W (.agg #[.int .i64 q.id, .int .i64 q.series, .int .i64 q.made, .slice sa sn sc]) q from (fun W hW => ⟨_, rfl, hox.row.below rEv_stable hW, hokx⟩)); have HB4 := Lib.hid (Box4.new w1 q (.slice sa sn sc) 26); have bb1 := below_al (Below.refl w1.heap.size w1) (RBOX q (.slice sa sn sc) 26); replace b1 := below_al b1 (RBOX q (.slice sa sn sc) 26); clear hox hokx) | (go_at_call 78; refine (l4Good_any _ t _ (H1.out.below rRu_stable b1)).mono ?_; rw [HS.out]; rintro en w2 ⟨rfl, b2⟩; obtain ⟨c0, c1, c2, c3⟩ := HB4.out.kept b2; replace bb1 := below_chain bb1 b2; replace b2 := below_chain b1 b2))
      go_ret2
      exact ⟨rfl, b2⟩
    · by_cases hD : D < 0
      · rw [setF_no (.inr (by rw [hdf]; exact hD))] at hdd
        obtain ⟨rfl, rfl⟩ := Prod.mk.inj hdd
        clear hbs hqr hdec hdf hdd
        go_enter Try.func22, Try.ntmps22
        go_wp2_with (first | (go_at_call 77; refine (specAddEvent_any _ r e _ (HV.out _ b0) HSO.out he q true HQ.out).mono ?_; rintro en w1 ⟨v', rfl, ho, b1⟩; replace b1 := below_chain b0 b1; obtain ⟨sx, rfl, hox, hokx⟩ := ho; obtain ⟨sa, sn, sc, rfl⟩ := hox.1.slice; have HRX := Lib.hid (show ∀ W, Below w1.heap.size w1 W → RecV W (.agg #[.int .i64 q.id, .int .i64 q.series, .int .i64 q.made, .slice sa sn sc]) q from (fun W hW => ⟨_, rfl, hox.row.below rEv_stable hW, hokx⟩)); have HB4 := Lib.hid (Box4.new w1 q (.slice sa sn sc) 26); have bb1 := below_al (Below.refl w1.heap.size w1) (RBOX q (.slice sa sn sc) 26); replace b1 := below_al b1 (RBOX q (.slice sa sn sc) 26); clear hox hokx) | (go_at_call 78; refine (l4Good_any _ t _ (H1.out.below rRu_stable b1)).mono ?_; rw [HS.out]; rintro en w2 ⟨rfl, b2⟩; obtain ⟨c0, c1, c2, c3⟩ := HB4.out.kept b2; replace bb1 := below_chain bb1 b2; replace b2 := below_chain b1 b2) | (go_at_call 72; refine (l6Deciding_any _ _ q t _ (HRX.out _ bb1) (H1.out.below rRu_stable b2) HQR.out HS.out _ _ HDEC.out).mono ?_; rintro en w3 ⟨rfl, b3⟩; replace b3 := below_chain b2 b3; simp only))
        go_ret2
        exact ⟨rfl, below_al b3 _⟩
      · rw [setF_yes (ask_iff.2 ⟨hqr, hbs⟩) (by rw [hdf]; omega), hdf] at hdd
        obtain ⟨rfl, rfl⟩ := Prod.mk.inj hdd
        clear hbs hqr hdec hdf hdd
        go_enter Try.func22, Try.ntmps22
        go_wp2_with (first | (go_at_call 77; refine (specAddEvent_any _ r e _ (HV.out _ b0) HSO.out he q true HQ.out).mono ?_; rintro en w1 ⟨v', rfl, ho, b1⟩; replace b1 := below_chain b0 b1; obtain ⟨sx, rfl, hox, hokx⟩ := ho; obtain ⟨sa, sn, sc, rfl⟩ := hox.1.slice; have HRX := Lib.hid (show ∀ W, Below w1.heap.size w1 W → RecV W (.agg #[.int .i64 q.id, .int .i64 q.series, .int .i64 q.made, .slice sa sn sc]) q from (fun W hW => ⟨_, rfl, hox.row.below rEv_stable hW, hokx⟩)); have HB4 := Lib.hid (Box4.new w1 q (.slice sa sn sc) 26); have bb1 := below_al (Below.refl w1.heap.size w1) (RBOX q (.slice sa sn sc) 26); replace b1 := below_al b1 (RBOX q (.slice sa sn sc) 26); clear hox hokx) | (go_at_call 78; refine (l4Good_any _ t _ (H1.out.below rRu_stable b1)).mono ?_; rw [HS.out]; rintro en w2 ⟨rfl, b2⟩; obtain ⟨c0, c1, c2, c3⟩ := HB4.out.kept b2; replace bb1 := below_chain bb1 b2; replace b2 := below_chain b1 b2) | (go_at_call 72; refine (l6Deciding_any _ _ q t _ (HRX.out _ bb1) (H1.out.below rRu_stable b2) HQR.out HS.out _ _ HDEC.out).mono ?_; rintro en w3 ⟨rfl, b3⟩; replace b3 := below_chain b2 b3; simp only))
        go_ret2
        exact ⟨rfl, below_al b3 _⟩
end Go.Proofs.Ytnfcfinecjgakaa

namespace Go.Proofs.Ytnfcfinecjgakaa
set_option linter.unusedVariables false
open Go.RowKit Go.Sort Go.ChangeShapes Go.WideShapes Go.ChangeAt

structure PSt (W wx : World) (F : Nat) (id se ma : Int) (g c : Nat) (xs : List Ev) (v1 : Value) (t : List Ru) (a : Option Addr) (len cap : Nat) (zs : List Int) : Prop where
  box : BxV wx F [.int .i64 id, .int .i64 se, .int .i64 ma, .slice (some ⟨g, 0, none⟩) xs.length c]
  evs : RowR 2 rEv wx (.slice (some ⟨g, 0, none⟩) xs.length c) xs
  sch : RowR 4 rRu wx v1 t
  bel : Below W.heap.size W wx
  row : IsRow .u8 wx a len cap zs
theorem per_after {r : Rec} {t : List Ru} {e : Ev} {d2 d3 : Int} (h : aftRes r t e = (d2, true)) (h3 : dueRes r t = (d3, true)) : d2 = d3 := by
  unfold aftRes at h
  split at h
  · rename_i hc
    obtain ⟨h1, h2⟩ := hc
    obtain ⟨he, hd⟩ := ins_ok h1 h2
    have hk : e.kind ≠ 0 := by have := isEv_iff.1 he; omega
    have hn : ∀ x ∈ r.evs, x.kind ≠ e.kind := by
      intro x hx heq
      unfold dayOf at hd
      rw [if_neg hk] at hd
      cases hf : r.evs.find? (fun e' => decide (e'.kind = e.kind)) with
      | none => have := List.find?_eq_none.1 hf x hx; simp [heq] at this
      | some y =>
        rw [hf] at hd
        obtain ⟨i, hi, rfl⟩ := List.getElem_of_mem (List.mem_of_find?_eq_some hf)
        have h5 := (isRec_ev h1 i hi).2
        have h6 := (isRec_iff.1 h1).2.2.1
        simp [List.getD, hi] at h5
        simp at hd
        omega
    have hs : ∀ q : Rec, ∀ d, dueRes q t = (d, true) → d = dueF q t ∧ 0 ≤ dueF q t := by
      intro q d hq
      unfold dueRes setF at hq
      split at hq
      · rename_i hc; simp at hq; exact ⟨hq.symm, hc.2⟩
      · simp at hq
    obtain ⟨a1, a2⟩ := hs _ _ h
    obtain ⟨a3, a4⟩ := hs _ _ h3
    rw [a1, a3]
    exact due_after (placeK r.evs e.kind) hk hn a4
  · simp at h
section
variable {W wx w9 : World} {F : Nat} {id se ma : Int} {g c : Nat} {xs : List Ev} {v1 : Value} {t : List Ru} {a : Option Addr} {len cap : Nat} {zs : List Int}
theorem PSt.below (h : PSt W wx F id se ma g c xs v1 t a len cap zs) (hb : Below wx.heap.size wx w9) : PSt W w9 F id se ma g c xs v1 t a len cap zs := ⟨h.box.below hb, h.evs.below rEv_stable hb, h.sch.below rRu_stable hb, h.bel.trans (hb.mono h.bel.size), isRow_after6 h.row hb⟩
theorem PSt.al (h : PSt W wx F id se ma g c xs v1 t a len cap zs) (o : Obj) : PSt W (wx.alloc o) F id se ma g c xs v1 t a len cap zs := h.below (below_al (Below.refl _ _) o)
theorem PSt.recV (h : PSt W wx F id se ma g c xs v1 t a len cap zs) (hok : (⟨id, se, ma, xs⟩ : Rec).ok) : RecV wx (.agg #[.int .i64 id, .int .i64 se, .int .i64 ma, .slice (some ⟨g, 0, none⟩) xs.length c]) ⟨id, se, ma, xs⟩ := ⟨_, rfl, h.evs, hok⟩
theorem PSt.cells (h : PSt W wx F id se ma g c xs v1 t a len cap zs) : wx.cell? ⟨F, 0, none⟩ = some (.int .i64 id) ∧ wx.cell? ⟨F, 1, none⟩ = some (.int .i64 se) ∧ wx.cell? ⟨F, 2, none⟩ = some (.int .i64 ma) ∧ wx.cell? ⟨F, 3, none⟩ = some (.slice (some ⟨g, 0, none⟩) xs.length c) := by
  have c0 := h.box.cell 0
  have c1 := h.box.cell 1
  have c2 := h.box.cell 2
  have c3 := h.box.cell 3
  simp at c0 c1 c2 c3
  exact ⟨c0, c1, c2, c3⟩
end
theorem per_four (r : Rec) (t : List Ru) : ∃ (E Wt : List Int) (ok told : Bool) (d : Int) (q : Ru), endsRes r t = (E, ok) ∧ waitRes r t = (Wt, ok) ∧ dueRes r t = (d, told) ∧ decRes r t = (q, told) ∧ told = (ok && (decide (0 < E.length) && decide (Wt.length = 0))) ∧
    (told = true → (∀ x ∈ E, x ≤ d) ∧ d ∈ E ∧ q.series = r.series ∧ dayRes r q.event = (dayOf r q.event, true) ∧ dayOf r q.event + q.days = d ∧ (0 ≤ q.event ∧ q.event ≤ 9) ∧ (-1 ≤ d ∧ d ≤ 40000)) := by
  by_cases h : askB r t = true
  · by_cases h2 : 0 ≤ dueF r t
    · refine ⟨endsF r t, waitF r t, true, true, dueF r t, ruleF r t, by simp [endsRes, h], by simp [waitRes, h], by simp [dueRes, setF, h, h2], by simp [decRes, setF, h, h2], ?_, fun _ => ?_⟩
      · obtain ⟨h3, h4⟩ := due_told.1 h2
        simp [h4, List.length_pos_iff.2 h3]
      · obtain ⟨hr, hs⟩ := ask_iff.1 h
        obtain ⟨m1, m2⟩ := due_max h2
        obtain ⟨m3, m4, m5⟩ := due_rule h2
        have m6 := (isRu_iff.1 (forRu_ok hs r.series (ruleF r t) (dec_best (us := forRu t r.series) h2).2.1)).2.1
        exact ⟨m1, m2, m3, by unfold dayRes; rw [if_pos ⟨hr, by omega⟩], m5, m6, due_top hr hs⟩
    · refine ⟨endsF r t, waitF r t, true, false, 0, ruD, by simp [endsRes, h], by simp [waitRes, h], by simp [dueRes, setF, h2], by simp [decRes, setF, h2], ?_, fun h => by cases h⟩
      have h5 : ¬ (endsF r t ≠ [] ∧ waitF r t = []) := fun h => h2 (due_told.2 h)
      by_cases h6 : endsF r t = []
      · simp [h6]
      · have h7 : waitF r t ≠ [] := fun h8 => h5 ⟨h6, h8⟩
        simp [h7]
  · exact ⟨[], [], false, false, 0, ruD, by simp [endsRes, h], by simp [waitRes, h], by simp [dueRes, setF, h], by simp [decRes, setF, h], by simp, fun h => by cases h⟩
set_option maxRecDepth 20000 in
set_option maxHeartbeats 8000000 in
theorem walkPeriods0 (a : Option Addr) (len cap : Nat) (zs : List Int) (W : World) (h : IsRow .u8 W a len cap zs) :
    Calls Try.prog 3 #[.slice a len cap] W fun e w' => e = .returned (.bool true) ∧ Below W.heap.size W w' := by
  have hlen := isRow_len h
  have H := Lib.hid h
  clear h
  obtain ⟨big, hbig⟩ : ∃ b, decide ((65536 : Int) < (len : Int)) = b := ⟨_, rfl⟩
  have HBIG := Lib.hid hbig
  clear hbig
  go_enter Try.func3, Try.ntmps3
  go_wp2_with fail
  refine (vBig_any a len cap _ big HBIG.out hlen).mono ?_
  rintro e w0 ⟨rfl, h0⟩
  subst h0
  cases big
  case true =>
    go_wp2_with fail
    go_ret
    exact ⟨rfl, Below.refl _ _⟩
  case false =>
    have hl : len ≤ 65536 := by have := of_decide_eq_false HBIG.out; omega
    go_wp2_with fail
    refine (drawEndsOf_any a len cap zs _ H.out (by omega)).mono ?_
    rintro e w1 ⟨⟨id, se, ma, xs⟩, g, c, v1, t, rfl, hok, hxl, he, htl, hu, b0⟩
    (try dsimp only at hok hxl he)
    (try dsimp only)
    have HOK := Lib.hid hok
    obtain ⟨F, hF⟩ : ∃ F, w1.heap.size = F := ⟨_, rfl⟩
    have HP : Hid (PSt W (w1.alloc (.cells #[.int .i64 id, .int .i64 se, .int .i64 ma, .slice (some ⟨g, 0, none⟩) xs.length c] 26 (0, 0))) F id se ma g c xs v1 t a len cap zs) := Lib.hid ⟨BxV.new' hF _ _, he.row.below rEv_stable (below_al (Below.refl _ _) _), hu.row.below rRu_stable (below_al (Below.refl _ _) _), b0.alloc b0.size _, isRow_after6 (isRow_after6 H.out b0) (below_al (Below.refl _ _) _)⟩
    clear hok he hu b0
    obtain ⟨E, Wt, ok, told, d, ⟨q0, q1, q2, q3⟩, hE, hWt, hd, hq, htold, hmath⟩ := per_four ⟨id, se, ma, xs⟩ t
    have HE := Lib.hid hE
    have HW := Lib.hid hWt
    have HD := Lib.hid hd
    have HQ := Lib.hid hq
    have HT := Lib.hid htold
    have HM := Lib.hid hmath
    clear hE hWt hd hq htold hmath
    go_upto_region 4 with fail
    try rw [hF]
    have HFE := Lib.hid hF
    clear hF
    generalize hW1 : w1.alloc (.cells #[.int .i64 id, .int .i64 se, .int .i64 ma, .slice (some ⟨g, 0, none⟩) xs.length c] 26 (0, 0)) = W1 at *
    have HW1 := Lib.hid hW1
    clear hW1
    obtain ⟨c0, c1, c2, c3⟩ := HP.out.cells
    go_wp2_with fail
    refine (implEndsOf_any _ v1 ⟨id, se, ma, xs⟩ t _ (HP.out.recV HOK.out) HP.out.sch (by omega) E ok HE.out).mono ?_
    rintro e w2 ⟨v5, rfl, h5, b1⟩
    replace HP := Lib.hid (HP.out.below b1)
    clear b1 c0 c1 c2 c3
    have H5 := Lib.hid h5
    clear h5
    obtain ⟨aH5, cH5, hvH5, _⟩ := H5.out.row
    subst hvH5
    obtain ⟨c0, c1, c2, c3⟩ := HP.out.cells
    go_wp2_with fail
    refine (specEndsOf_any _ v1 ⟨id, se, ma, xs⟩ t _ (HP.out.recV HOK.out) HP.out.sch E ok HE.out).mono ?_
    rintro e w3 ⟨v7, rfl, h7, b2⟩
    replace HP := Lib.hid (HP.out.below b2)
    replace H5 := Lib.hid (H5.out.below b2)
    clear b2 c0 c1 c2 c3
    have H7 := Lib.hid h7
    clear h7
    obtain ⟨aH7, cH7, hvH7, _⟩ := H7.out.row
    subst hvH7
    obtain ⟨c0, c1, c2, c3⟩ := HP.out.cells
    go_wp2_with fail
    refine (vInts_same _ _ E _ H5.out.row H7.out.row).mono ?_
    rintro e w4 ⟨rfl, b3⟩
    replace HP := Lib.hid (HP.out.below b3)
    replace H5 := Lib.hid (H5.out.below b3)
    replace H7 := Lib.hid (H7.out.below b3)
    clear b3 c0 c1 c2 c3
    obtain ⟨c0, c1, c2, c3⟩ := HP.out.cells
    go_wp2_with fail
    refine (implDueDay_any _ v1 ⟨id, se, ma, xs⟩ t _ (HP.out.recV HOK.out) HP.out.sch (by omega) d told HD.out).mono ?_
    rintro e w5 ⟨rfl, b4⟩
    replace HP := Lib.hid (HP.out.below b4)
    replace H5 := Lib.hid (H5.out.below b4)
    replace H7 := Lib.hid (H7.out.below b4)
    clear b4 c0 c1 c2 c3
    obtain ⟨c0, c1, c2, c3⟩ := HP.out.cells
    go_wp2_with fail
    refine (specDueDay_any _ v1 ⟨id, se, ma, xs⟩ t _ (HP.out.recV HOK.out) HP.out.sch d told HD.out).mono ?_
    rintro e w6 ⟨rfl, b5⟩
    replace HP := Lib.hid (HP.out.below b5)
    replace H5 := Lib.hid (H5.out.below b5)
    replace H7 := Lib.hid (H7.out.below b5)
    clear b5 c0 c1 c2 c3
    obtain ⟨c0, c1, c2, c3⟩ := HP.out.cells
    go_wp2_with fail
    refine (implWaitsFor_any _ v1 ⟨id, se, ma, xs⟩ t _ (HP.out.recV HOK.out) HP.out.sch (by omega) Wt ok HW.out).mono ?_
    rintro e w7 ⟨v13, rfl, h13, b6⟩
    replace HP := Lib.hid (HP.out.below b6)
    replace H5 := Lib.hid (H5.out.below b6)
    replace H7 := Lib.hid (H7.out.below b6)
    clear b6 c0 c1 c2 c3
    have H13 := Lib.hid h13
    clear h13
    obtain ⟨aH13, cH13, hvH13, _⟩ := H13.out.row
    subst hvH13
    obtain ⟨c0, c1, c2, c3⟩ := HP.out.cells
    go_wp2_with fail
    refine (specWaitsFor_any _ v1 ⟨id, se, ma, xs⟩ t _ (HP.out.recV HOK.out) HP.out.sch Wt ok HW.out).mono ?_
    rintro e w8 ⟨v15, rfl, h15, b7⟩
    replace HP := Lib.hid (HP.out.below b7)
    replace H5 := Lib.hid (H5.out.below b7)
    replace H7 := Lib.hid (H7.out.below b7)
    replace H13 := Lib.hid (H13.out.below b7)
    clear b7 c0 c1 c2 c3
    have H15 := Lib.hid h15
    clear h15
    obtain ⟨aH15, cH15, hvH15, _⟩ := H15.out.row
    subst hvH15
    obtain ⟨c0, c1, c2, c3⟩ := HP.out.cells
    go_wp2_with fail
    refine (vInts_same _ _ Wt _ H13.out.row H15.out.row).mono ?_
    rintro e w9 ⟨rfl, b8⟩
    replace HP := Lib.hid (HP.out.below b8)
    replace H5 := Lib.hid (H5.out.below b8)
    replace H7 := Lib.hid (H7.out.below b8)
    replace H13 := Lib.hid (H13.out.below b8)
    replace H15 := Lib.hid (H15.out.below b8)
    clear b8 c0 c1 c2 c3
    obtain ⟨c0, c1, c2, c3⟩ := HP.out.cells
    cases ok
    case false =>
      obtain rfl : told = false := by rw [HT.out]; rfl
      clear c0 c1 c2 c3
      obtain ⟨c0, c1, c2, c3⟩ := HP.out.cells
      go_wp2_with fail
      refine (implDecidingRule_any _ v1 ⟨id, se, ma, xs⟩ t _ (HP.out.recV HOK.out) HP.out.sch (by omega) ⟨q0, q1, q2, q3⟩ false HQ.out).mono ?_
      rintro e w10 ⟨rfl, b9⟩
      replace HP := Lib.hid (HP.out.below b9)
      replace H5 := Lib.hid (H5.out.below b9)
      replace H7 := Lib.hid (H7.out.below b9)
      replace H13 := Lib.hid (H13.out.below b9)
      replace H15 := Lib.hid (H15.out.below b9)
      clear b9 c0 c1 c2 c3
      obtain ⟨c0, c1, c2, c3⟩ := HP.out.cells
      (try dsimp only)
      obtain ⟨G1, hG1⟩ : ∃ x, w10.heap.size = x := ⟨_, rfl⟩
      have HG1 : Hid (BxV (w10.alloc (.cells #[.int .i64 q0, .int .i64 q1, .int .i64 q2, .int .i64 q3] 37 (0, 0))) G1 [.int .i64 q0, .int .i64 q1, .int .i64 q2, .int .i64 q3]) := Lib.hid (BxV.new' hG1 _ _)
      replace HP := Lib.hid (HP.out.below (below_al (Below.refl _ _) (.cells #[.int .i64 q0, .int .i64 q1, .int .i64 q2, .int .i64 q3] 37 (0, 0))))
      replace H5 := Lib.hid (H5.out.below (below_al (Below.refl _ _) (.cells #[.int .i64 q0, .int .i64 q1, .int .i64 q2, .int .i64 q3] 37 (0, 0))))
      replace H7 := Lib.hid (H7.out.below (below_al (Below.refl _ _) (.cells #[.int .i64 q0, .int .i64 q1, .int .i64 q2, .int .i64 q3] 37 (0, 0))))
      replace H13 := Lib.hid (H13.out.below (below_al (Below.refl _ _) (.cells #[.int .i64 q0, .int .i64 q1, .int .i64 q2, .int .i64 q3] 37 (0, 0))))
      replace H15 := Lib.hid (H15.out.below (below_al (Below.refl _ _) (.cells #[.int .i64 q0, .int .i64 q1, .int .i64 q2, .int .i64 q3] 37 (0, 0))))
      clear c0 c1 c2 c3
      go_upto_region 17 with fail
      try rw [hG1]
      have HEG1 := Lib.hid hG1
      clear hG1
      generalize hV9 : w10.alloc (.cells #[.int .i64 q0, .int .i64 q1, .int .i64 q2, .int .i64 q3] 37 (0, 0)) = V9 at *
      have HV9 := Lib.hid hV9
      clear hV9
      obtain ⟨c0, c1, c2, c3⟩ := HP.out.cells
      go_wp2_with fail
      refine (specDecidingRule_any _ v1 ⟨id, se, ma, xs⟩ t _ (HP.out.recV HOK.out) HP.out.sch ⟨q0, q1, q2, q3⟩ false HQ.out).mono ?_
      rintro e w11 ⟨rfl, b10⟩
      replace HP := Lib.hid (HP.out.below b10)
      replace H5 := Lib.hid (H5.out.below b10)
      replace H7 := Lib.hid (H7.out.below b10)
      replace H13 := Lib.hid (H13.out.below b10)
      replace H15 := Lib.hid (H15.out.below b10)
      replace HG1 := Lib.hid (HG1.out.below b10)
      clear b10 c0 c1 c2 c3
      obtain ⟨c0, c1, c2, c3⟩ := HP.out.cells
      (try dsimp only)
      obtain ⟨G2, hG2⟩ : ∃ x, w11.heap.size = x := ⟨_, rfl⟩
      have HG2 : Hid (BxV (w11.alloc (.cells #[.int .i64 q0, .int .i64 q1, .int .i64 q2, .int .i64 q3] 37 (0, 0))) G2 [.int .i64 q0, .int .i64 q1, .int .i64 q2, .int .i64 q3]) := Lib.hid (BxV.new' hG2 _ _)
      replace HP := Lib.hid (HP.out.below (below_al (Below.refl _ _) (.cells #[.int .i64 q0, .int .i64 q1, .int .i64 q2, .int .i64 q3] 37 (0, 0))))
      replace H5 := Lib.hid (H5.out.below (below_al (Below.refl _ _) (.cells #[.int .i64 q0, .int .i64 q1, .int .i64 q2, .int .i64 q3] 37 (0, 0))))
      replace H7 := Lib.hid (H7.out.below (below_al (Below.refl _ _) (.cells #[.int .i64 q0, .int .i64 q1, .int .i64 q2, .int .i64 q3] 37 (0, 0))))
      replace H13 := Lib.hid (H13.out.below (below_al (Below.refl _ _) (.cells #[.int .i64 q0, .int .i64 q1, .int .i64 q2, .int .i64 q3] 37 (0, 0))))
      replace H15 := Lib.hid (H15.out.below (below_al (Below.refl _ _) (.cells #[.int .i64 q0, .int .i64 q1, .int .i64 q2, .int .i64 q3] 37 (0, 0))))
      replace HG1 := Lib.hid (HG1.out.below (below_al (Below.refl _ _) (.cells #[.int .i64 q0, .int .i64 q1, .int .i64 q2, .int .i64 q3] 37 (0, 0))))
      clear c0 c1 c2 c3
      go_upto_region 18 with fail
      try rw [hG2]
      have HEG2 := Lib.hid hG2
      clear hG2
      generalize hV10 : w11.alloc (.cells #[.int .i64 q0, .int .i64 q1, .int .i64 q2, .int .i64 q3] 37 (0, 0)) = V10 at *
      have HV10 := Lib.hid hV10
      clear hV10
      obtain ⟨c0, c1, c2, c3⟩ := HP.out.cells
      have d10 := HG1.out.cell 0
      have d11 := HG1.out.cell 1
      have d12 := HG1.out.cell 2
      have d13 := HG1.out.cell 3
      have d20 := HG2.out.cell 0
      have d21 := HG2.out.cell 1
      have d22 := HG2.out.cell 2
      have d23 := HG2.out.cell 3
      simp at d10 d11 d12 d13 d20 d21 d22 d23
      go_upto_region 29 with fail
      clear d10 d11 d12 d13 d20 d21 d22 d23 c0 c1 c2 c3
      go_wp2_with fail
      refine (drawDueAfter_any a len cap zs _ HP.out.row (by omega)).mono ?_
      rintro e y1 ⟨⟨id2, se2, ma2, ys⟩, g2, k2, z1, t2, ⟨uk, ud⟩, rfl, hok2, hyl, he2, htl2, hu2, huo, bA⟩
      (try dsimp only at hok2 hyl he2)
      (try dsimp only)
      go_upto_region 30 with fail
      obtain ⟨G24, hG24⟩ : ∃ x, y1.heap.size = x := ⟨_, rfl⟩
      obtain ⟨G26, hG26⟩ : ∃ x, G24 + 1 = x := ⟨_, rfl⟩
      have hs26 : (y1.alloc (.cells #[.int .i64 id2, .int .i64 se2, .int .i64 ma2, .slice (some ⟨g2, 0, none⟩) ys.length k2] 26 (0, 0))).heap.size = G26 := by simp; omega
      have HX : Hid (BxV ((y1.alloc (.cells #[.int .i64 id2, .int .i64 se2, .int .i64 ma2, .slice (some ⟨g2, 0, none⟩) ys.length k2] 26 (0, 0))).alloc (.cells #[.int .i64 uk, .int .i64 ud] 43 (0, 0))) G24 [.int .i64 id2, .int .i64 se2, .int .i64 ma2, .slice (some ⟨g2, 0, none⟩) ys.length k2]) := Lib.hid ((BxV.new' hG24 _ _).al _)
      have HY : Hid (BxV ((y1.alloc (.cells #[.int .i64 id2, .int .i64 se2, .int .i64 ma2, .slice (some ⟨g2, 0, none⟩) ys.length k2] 26 (0, 0))).alloc (.cells #[.int .i64 uk, .int .i64 ud] 43 (0, 0))) G26 [.int .i64 uk, .int .i64 ud]) := Lib.hid (BxV.new' hs26 _ _)
      have HEV : Hid (EvsO V10.heap.size y1.heap.size ((y1.alloc (.cells #[.int .i64 id2, .int .i64 se2, .int .i64 ma2, .slice (some ⟨g2, 0, none⟩) ys.length k2] 26 (0, 0))).alloc (.cells #[.int .i64 uk, .int .i64 ud] 43 (0, 0))) (.slice (some ⟨g2, 0, none⟩) ys.length k2) ys) := Lib.hid ((he2.alloc _).alloc _)
      have HSC : Hid (RowR 4 rRu ((y1.alloc (.cells #[.int .i64 id2, .int .i64 se2, .int .i64 ma2, .slice (some ⟨g2, 0, none⟩) ys.length k2] 26 (0, 0))).alloc (.cells #[.int .i64 uk, .int .i64 ud] 43 (0, 0))) z1 t2) := Lib.hid (hu2.row.below rRu_stable (below_al (below_al (Below.refl _ _) _) _))
      have HBL : Hid (Below W.heap.size W ((y1.alloc (.cells #[.int .i64 id2, .int .i64 se2, .int .i64 ma2, .slice (some ⟨g2, 0, none⟩) ys.length k2] 26 (0, 0))).alloc (.cells #[.int .i64 uk, .int .i64 ud] 43 (0, 0)))) := Lib.hid (HP.out.bel.trans ((below_al (below_al bA _) _).mono HP.out.bel.size))
      have HO2 := Lib.hid hok2
      have HUO := Lib.hid huo
      obtain ⟨dA, bB, hA⟩ : ∃ x y, aftRes ⟨id2, se2, ma2, ys⟩ t2 ⟨uk, ud⟩ = (x, y) := ⟨_, _, rfl⟩
      have HA := Lib.hid hA
      obtain ⟨dD, bD, hD⟩ : ∃ x y, dueRes ⟨id2, se2, ma2, ys⟩ t2 = (x, y) := ⟨_, _, rfl⟩
      have HDD := Lib.hid hD
      clear hok2 huo hA hD he2 hu2 bA HP hs26 H5 H7 H13 H15 HG1 HG2
      try rw [hG24]
      try rw [hG26]
      have HG24 := Lib.hid hG24
      have HG26 := Lib.hid hG26
      clear hG24 hG26
      generalize hY2 : (y1.alloc (.cells #[.int .i64 id2, .int .i64 se2, .int .i64 ma2, .slice (some ⟨g2, 0, none⟩) ys.length k2] 26 (0, 0))).alloc (.cells #[.int .i64 uk, .int .i64 ud] 43 (0, 0)) = y2 at *
      have HY2 := Lib.hid hY2
      clear hY2
      have x0 := HX.out.cell 0
      have x1 := HX.out.cell 1
      have x2 := HX.out.cell 2
      have x3 := HX.out.cell 3
      have u0 := HY.out.cell 0
      have u1 := HY.out.cell 1
      simp at x0 x1 x2 x3 u0 u1
      go_wp2_with fail
      refine (implDueAfter_any _ z1 ⟨id2, se2, ma2, ys⟩ t2 ⟨uk, ud⟩ _ _ _ ⟨_, rfl, HEV.out, HO2.out⟩ HUO.out HSC.out (by omega) dA bB HA.out).mono ?_
      rintro e y3 ⟨rfl, bb⟩
      replace HX := Lib.hid (HX.out.below bb)
      replace HY := Lib.hid (HY.out.below bb)
      replace HEV := Lib.hid (HEV.out.below bb)
      replace HSC := Lib.hid (HSC.out.below rRu_stable bb)
      replace HBL := Lib.hid (HBL.out.trans (bb.mono HBL.out.size))
      clear bb x0 x1 x2 x3 u0 u1
      have x0 := HX.out.cell 0
      have x1 := HX.out.cell 1
      have x2 := HX.out.cell 2
      have x3 := HX.out.cell 3
      have u0 := HY.out.cell 0
      have u1 := HY.out.cell 1
      simp at x0 x1 x2 x3 u0 u1
      go_wp2_with fail
      refine (specDueAfter_any _ z1 ⟨id2, se2, ma2, ys⟩ t2 ⟨uk, ud⟩ _ ⟨_, rfl, HEV.out.row, HO2.out⟩ ⟨_, _, _, _, _, rfl⟩ HUO.out HSC.out dA bB HA.out).mono ?_
      rintro e y4 ⟨rfl, bb⟩
      replace HX := Lib.hid (HX.out.below bb)
      replace HY := Lib.hid (HY.out.below bb)
      replace HEV := Lib.hid (HEV.out.below bb)
      replace HSC := Lib.hid (HSC.out.below rRu_stable bb)
      replace HBL := Lib.hid (HBL.out.trans (bb.mono HBL.out.size))
      clear bb x0 x1 x2 x3 u0 u1
      have x0 := HX.out.cell 0
      have x1 := HX.out.cell 1
      have x2 := HX.out.cell 2
      have x3 := HX.out.cell 3
      have u0 := HY.out.cell 0
      have u1 := HY.out.cell 1
      simp at x0 x1 x2 x3 u0 u1
      cases bB
      · go_wp2_with fail
        go_ret
        exact ⟨rfl, HBL.out⟩
      · go_wp2_with fail
        refine (implDueDay_any _ z1 ⟨id2, se2, ma2, ys⟩ t2 _ ⟨_, rfl, HEV.out.row, HO2.out⟩ HSC.out (by omega) dD bD HDD.out).mono ?_
        rintro e y5 ⟨rfl, bb⟩
        replace HX := Lib.hid (HX.out.below bb)
        replace HY := Lib.hid (HY.out.below bb)
        replace HEV := Lib.hid (HEV.out.below bb)
        replace HSC := Lib.hid (HSC.out.below rRu_stable bb)
        replace HBL := Lib.hid (HBL.out.trans (bb.mono HBL.out.size))
        clear bb x0 x1 x2 x3 u0 u1
        cases bD
        · go_wp2_with fail
          go_ret
          exact ⟨rfl, HBL.out⟩
        · have hlt : decide (dA < dD) = false := decide_eq_false (by have := per_after HA.out HDD.out; omega)
          have hlt2 : ¬ dA < dD := by have := per_after HA.out HDD.out; omega
          go_wp2_with fail
          go_ret
          exact ⟨rfl, HBL.out⟩
    case true =>
      by_cases hE0 : 0 < E.length
      · have hE1 : (0 : Int) < (E.length : Int) := by omega
        have hE2 : decide ((0 : Int) < (E.length : Int)) = true := decide_eq_true hE1
        by_cases hW0 : Wt.length = 0
        · have hW1 : ((Wt.length : Int) == 0) = true := by simp [hW0]
          obtain rfl : told = true := by rw [HT.out, decide_eq_true hE0, decide_eq_true hW0]; rfl
          clear hW0 c0 c1 c2 c3
          obtain ⟨c0, c1, c2, c3⟩ := HP.out.cells
          go_wp2_with fail
          refine (implDecidingRule_any _ v1 ⟨id, se, ma, xs⟩ t _ (HP.out.recV HOK.out) HP.out.sch (by omega) ⟨q0, q1, q2, q3⟩ true HQ.out).mono ?_
          rintro e w10 ⟨rfl, b9⟩
          replace HP := Lib.hid (HP.out.below b9)
          replace H5 := Lib.hid (H5.out.below b9)
          replace H7 := Lib.hid (H7.out.below b9)
          replace H13 := Lib.hid (H13.out.below b9)
          replace H15 := Lib.hid (H15.out.below b9)
          clear b9 c0 c1 c2 c3
          obtain ⟨c0, c1, c2, c3⟩ := HP.out.cells
          (try dsimp only)
          obtain ⟨G1, hG1⟩ : ∃ x, w10.heap.size = x := ⟨_, rfl⟩
          have HG1 : Hid (BxV (w10.alloc (.cells #[.int .i64 q0, .int .i64 q1, .int .i64 q2, .int .i64 q3] 37 (0, 0))) G1 [.int .i64 q0, .int .i64 q1, .int .i64 q2, .int .i64 q3]) := Lib.hid (BxV.new' hG1 _ _)
          replace HP := Lib.hid (HP.out.below (below_al (Below.refl _ _) (.cells #[.int .i64 q0, .int .i64 q1, .int .i64 q2, .int .i64 q3] 37 (0, 0))))
          replace H5 := Lib.hid (H5.out.below (below_al (Below.refl _ _) (.cells #[.int .i64 q0, .int .i64 q1, .int .i64 q2, .int .i64 q3] 37 (0, 0))))
          replace H7 := Lib.hid (H7.out.below (below_al (Below.refl _ _) (.cells #[.int .i64 q0, .int .i64 q1, .int .i64 q2, .int .i64 q3] 37 (0, 0))))
          replace H13 := Lib.hid (H13.out.below (below_al (Below.refl _ _) (.cells #[.int .i64 q0, .int .i64 q1, .int .i64 q2, .int .i64 q3] 37 (0, 0))))
          replace H15 := Lib.hid (H15.out.below (below_al (Below.refl _ _) (.cells #[.int .i64 q0, .int .i64 q1, .int .i64 q2, .int .i64 q3] 37 (0, 0))))
          clear c0 c1 c2 c3
          go_upto_region 17 with fail
          try rw [hG1]
          have HEG1 := Lib.hid hG1
          clear hG1
          generalize hV9 : w10.alloc (.cells #[.int .i64 q0, .int .i64 q1, .int .i64 q2, .int .i64 q3] 37 (0, 0)) = V9 at *
          have HV9 := Lib.hid hV9
          clear hV9
          obtain ⟨c0, c1, c2, c3⟩ := HP.out.cells
          go_wp2_with fail
          refine (specDecidingRule_any _ v1 ⟨id, se, ma, xs⟩ t _ (HP.out.recV HOK.out) HP.out.sch ⟨q0, q1, q2, q3⟩ true HQ.out).mono ?_
          rintro e w11 ⟨rfl, b10⟩
          replace HP := Lib.hid (HP.out.below b10)
          replace H5 := Lib.hid (H5.out.below b10)
          replace H7 := Lib.hid (H7.out.below b10)
          replace H13 := Lib.hid (H13.out.below b10)
          replace H15 := Lib.hid (H15.out.below b10)
          replace HG1 := Lib.hid (HG1.out.below b10)
          clear b10 c0 c1 c2 c3
          obtain ⟨c0, c1, c2, c3⟩ := HP.out.cells
          (try dsimp only)
          obtain ⟨G2, hG2⟩ : ∃ x, w11.heap.size = x := ⟨_, rfl⟩
          have HG2 : Hid (BxV (w11.alloc (.cells #[.int .i64 q0, .int .i64 q1, .int .i64 q2, .int .i64 q3] 37 (0, 0))) G2 [.int .i64 q0, .int .i64 q1, .int .i64 q2, .int .i64 q3]) := Lib.hid (BxV.new' hG2 _ _)
          replace HP := Lib.hid (HP.out.below (below_al (Below.refl _ _) (.cells #[.int .i64 q0, .int .i64 q1, .int .i64 q2, .int .i64 q3] 37 (0, 0))))
          replace H5 := Lib.hid (H5.out.below (below_al (Below.refl _ _) (.cells #[.int .i64 q0, .int .i64 q1, .int .i64 q2, .int .i64 q3] 37 (0, 0))))
          replace H7 := Lib.hid (H7.out.below (below_al (Below.refl _ _) (.cells #[.int .i64 q0, .int .i64 q1, .int .i64 q2, .int .i64 q3] 37 (0, 0))))
          replace H13 := Lib.hid (H13.out.below (below_al (Below.refl _ _) (.cells #[.int .i64 q0, .int .i64 q1, .int .i64 q2, .int .i64 q3] 37 (0, 0))))
          replace H15 := Lib.hid (H15.out.below (below_al (Below.refl _ _) (.cells #[.int .i64 q0, .int .i64 q1, .int .i64 q2, .int .i64 q3] 37 (0, 0))))
          replace HG1 := Lib.hid (HG1.out.below (below_al (Below.refl _ _) (.cells #[.int .i64 q0, .int .i64 q1, .int .i64 q2, .int .i64 q3] 37 (0, 0))))
          clear c0 c1 c2 c3
          go_upto_region 18 with fail
          try rw [hG2]
          have HEG2 := Lib.hid hG2
          clear hG2
          generalize hV10 : w11.alloc (.cells #[.int .i64 q0, .int .i64 q1, .int .i64 q2, .int .i64 q3] 37 (0, 0)) = V10 at *
          have HV10 := Lib.hid hV10
          clear hV10
          obtain ⟨c0, c1, c2, c3⟩ := HP.out.cells
          have d10 := HG1.out.cell 0
          have d11 := HG1.out.cell 1
          have d12 := HG1.out.cell 2
          have d13 := HG1.out.cell 3
          have d20 := HG2.out.cell 0
          have d21 := HG2.out.cell 1
          have d22 := HG2.out.cell 2
          have d23 := HG2.out.cell 3
          simp at d10 d11 d12 d13 d20 d21 d22 d23
          obtain ⟨m1, m2, m3, m4, m5, m6, m7⟩ := HM.out (by trivial)
          (try dsimp only at m1 m2 m3 m4 m5 m6 m7)
          obtain ⟨n, hn⟩ : ∃ n, dayOf ⟨id, se, ma, xs⟩ q1 = n := ⟨_, rfl⟩
          rw [hn] at m4 m5
          have HM1 := Lib.hid m1
          have HMEM := Lib.hid (decide_eq_true m2)
          have HDY := Lib.hid m4
          have hsr : (q0 != se) = false := by simp [m3]
          have hwr : IntKind.i64.wrap (n + q2) = d := by rw [m5]; exact Go.IntWalk.i64_in _ (by omega)
          clear m1 m2 m3 m4 m5 hn
          go_wp2_with fail
          refine (implDayOf_any _ ⟨id, se, ma, xs⟩ q1 _ (HP.out.recV HOK.out) n true (by unfold inI; omega) (by simp only; omega) HDY.out).mono ?_
          rintro e w12 ⟨rfl, b11⟩
          replace HP := Lib.hid (HP.out.below b11)
          replace H5 := Lib.hid (H5.out.below b11)
          replace H7 := Lib.hid (H7.out.below b11)
          replace H13 := Lib.hid (H13.out.below b11)
          replace H15 := Lib.hid (H15.out.below b11)
          replace HG1 := Lib.hid (HG1.out.below b11)
          replace HG2 := Lib.hid (HG2.out.below b11)
          clear b11 c0 c1 c2 c3
          obtain ⟨c0, c1, c2, c3⟩ := HP.out.cells
          replace d10 := HG1.out.cell 0
          replace d11 := HG1.out.cell 1
          replace d12 := HG1.out.cell 2
          replace d13 := HG1.out.cell 3
          replace d20 := HG2.out.cell 0
          replace d21 := HG2.out.cell 1
          replace d22 := HG2.out.cell 2
          replace d23 := HG2.out.cell 3
          simp at d10 d11 d12 d13 d20 d21 d22 d23
          go_wp2_with fail
          refine ((vHas_any _ E d _ H5.out.row).mono (fun e w' h => (by rw [HMEM.out] at h; exact h : e = .returned (.bool true) ∧ Below _ _ w'))).mono ?_
          rintro e w13 ⟨rfl, b12⟩
          replace HP := Lib.hid (HP.out.below b12)
          replace H5 := Lib.hid (H5.out.below b12)
          replace H7 := Lib.hid (H7.out.below b12)
          replace H13 := Lib.hid (H13.out.below b12)
          replace H15 := Lib.hid (H15.out.below b12)
          replace HG1 := Lib.hid (HG1.out.below b12)
          replace HG2 := Lib.hid (HG2.out.below b12)
          clear b12 c0 c1 c2 c3
          obtain ⟨c0, c1, c2, c3⟩ := HP.out.cells
          replace d10 := HG1.out.cell 0
          replace d11 := HG1.out.cell 1
          replace d12 := HG1.out.cell 2
          replace d13 := HG1.out.cell 3
          replace d20 := HG2.out.cell 0
          replace d21 := HG2.out.cell 1
          replace d22 := HG2.out.cell 2
          replace d23 := HG2.out.cell 3
          simp at d10 d11 d12 d13 d20 d21 d22 d23
          go_upto_region 24 with fail
          clear hsr hwr hE2 hW1 d10 d11 d12 d13 d20 d21 d22 d23
          go_wp2_with fail
          go_loopw [23] (fun i wr => ∃ k : Nat, k ≤ E.length ∧ i = .int .i64 k ∧ wr = w13) (fun i _ => E.length - (intOf i).toNat)
          case atStart => exact ⟨0, Nat.zero_le _, rfl, rfl⟩
          case round =>
            obtain ⟨k, hk, rfl, hw⟩ := hrel
            subst hw
            have hE16 : E.length ≤ 16 := by have := endsRes_len HE.out; omega
            have hkp : IntKind.i64.wrap ((k : Int) + 1) = (k : Int) + 1 := Go.IntWalk.i64_in _ (by omega)
            by_cases hlt : k < E.length
            · obtain ⟨ae, ce, hve, hel, hem, r5⟩ := H5.out.row
              simp at hve
              obtain ⟨rfl, rfl⟩ := hve
              obtain ⟨b5, o5, hb5, rfl, e5⟩ := r5.resolve_left (fun e => by rw [e] at hlt; simp at hlt)
              obtain ⟨x, hx⟩ : ∃ s, E[k] = s := ⟨_, rfl⟩
              have f5 := e5 k hlt
              rw [hx] at f5
              simp only [vI] at f5
              have hle : x ≤ d := by rw [← hx]; exact HM1.out _ (List.getElem_mem hlt)
              have hgt : decide (d < x) = false := decide_eq_false (by omega)
              have hgt2 : ¬ d < x := by omega
              have g0 : (0 : Int) ≤ (k : Int) := by omega
              have g1 : (k : Int) < (E.length : Int) := by omega
              clear hx e5 r5
              go_wp2_with fail
              go_roundw
              case rel => exact ⟨k + 1, by omega, by go_num, by first | rfl | trivial⟩
              case measure => simp [intOf]; omega
            · have hk1 : ¬ (k : Int) < (E.length : Int) := by omega
              have hk2 : decide ((k : Int) < (E.length : Int)) = false := decide_eq_false hk1
              go_upto_region 29 with fail
              clear c0 c1 c2 c3
              go_wp2_with fail
              refine (drawDueAfter_any a len cap zs _ HP.out.row (by omega)).mono ?_
              rintro e y1 ⟨⟨id2, se2, ma2, ys⟩, g2, k2, z1, t2, ⟨uk, ud⟩, rfl, hok2, hyl, he2, htl2, hu2, huo, bA⟩
              (try dsimp only at hok2 hyl he2)
              (try dsimp only)
              go_upto_region 30 with fail
              obtain ⟨G24, hG24⟩ : ∃ x, y1.heap.size = x := ⟨_, rfl⟩
              obtain ⟨G26, hG26⟩ : ∃ x, G24 + 1 = x := ⟨_, rfl⟩
              have hs26 : (y1.alloc (.cells #[.int .i64 id2, .int .i64 se2, .int .i64 ma2, .slice (some ⟨g2, 0, none⟩) ys.length k2] 26 (0, 0))).heap.size = G26 := by simp; omega
              have HX : Hid (BxV ((y1.alloc (.cells #[.int .i64 id2, .int .i64 se2, .int .i64 ma2, .slice (some ⟨g2, 0, none⟩) ys.length k2] 26 (0, 0))).alloc (.cells #[.int .i64 uk, .int .i64 ud] 43 (0, 0))) G24 [.int .i64 id2, .int .i64 se2, .int .i64 ma2, .slice (some ⟨g2, 0, none⟩) ys.length k2]) := Lib.hid ((BxV.new' hG24 _ _).al _)
              have HY : Hid (BxV ((y1.alloc (.cells #[.int .i64 id2, .int .i64 se2, .int .i64 ma2, .slice (some ⟨g2, 0, none⟩) ys.length k2] 26 (0, 0))).alloc (.cells #[.int .i64 uk, .int .i64 ud] 43 (0, 0))) G26 [.int .i64 uk, .int .i64 ud]) := Lib.hid (BxV.new' hs26 _ _)
              have HEV : Hid (EvsO wr.heap.size y1.heap.size ((y1.alloc (.cells #[.int .i64 id2, .int .i64 se2, .int .i64 ma2, .slice (some ⟨g2, 0, none⟩) ys.length k2] 26 (0, 0))).alloc (.cells #[.int .i64 uk, .int .i64 ud] 43 (0, 0))) (.slice (some ⟨g2, 0, none⟩) ys.length k2) ys) := Lib.hid ((he2.alloc _).alloc _)
              have HSC : Hid (RowR 4 rRu ((y1.alloc (.cells #[.int .i64 id2, .int .i64 se2, .int .i64 ma2, .slice (some ⟨g2, 0, none⟩) ys.length k2] 26 (0, 0))).alloc (.cells #[.int .i64 uk, .int .i64 ud] 43 (0, 0))) z1 t2) := Lib.hid (hu2.row.below rRu_stable (below_al (below_al (Below.refl _ _) _) _))
              have HBL : Hid (Below W.heap.size W ((y1.alloc (.cells #[.int .i64 id2, .int .i64 se2, .int .i64 ma2, .slice (some ⟨g2, 0, none⟩) ys.length k2] 26 (0, 0))).alloc (.cells #[.int .i64 uk, .int .i64 ud] 43 (0, 0)))) := Lib.hid (HP.out.bel.trans ((below_al (below_al bA _) _).mono HP.out.bel.size))
              have HO2 := Lib.hid hok2
              have HUO := Lib.hid huo
              obtain ⟨dA, bB, hA⟩ : ∃ x y, aftRes ⟨id2, se2, ma2, ys⟩ t2 ⟨uk, ud⟩ = (x, y) := ⟨_, _, rfl⟩
              have HA := Lib.hid hA
              obtain ⟨dD, bD, hD⟩ : ∃ x y, dueRes ⟨id2, se2, ma2, ys⟩ t2 = (x, y) := ⟨_, _, rfl⟩
              have HDD := Lib.hid hD
              clear hok2 huo hA hD he2 hu2 bA HP hs26 H5 H7 H13 H15 HG1 HG2
              try rw [hG24]
              try rw [hG26]
              have HG24 := Lib.hid hG24
              have HG26 := Lib.hid hG26
              clear hG24 hG26
              generalize hY2 : (y1.alloc (.cells #[.int .i64 id2, .int .i64 se2, .int .i64 ma2, .slice (some ⟨g2, 0, none⟩) ys.length k2] 26 (0, 0))).alloc (.cells #[.int .i64 uk, .int .i64 ud] 43 (0, 0)) = y2 at *
              have HY2 := Lib.hid hY2
              clear hY2
              have x0 := HX.out.cell 0
              have x1 := HX.out.cell 1
              have x2 := HX.out.cell 2
              have x3 := HX.out.cell 3
              have u0 := HY.out.cell 0
              have u1 := HY.out.cell 1
              simp at x0 x1 x2 x3 u0 u1
              go_wp2_with fail
              refine (implDueAfter_any _ z1 ⟨id2, se2, ma2, ys⟩ t2 ⟨uk, ud⟩ _ _ _ ⟨_, rfl, HEV.out, HO2.out⟩ HUO.out HSC.out (by omega) dA bB HA.out).mono ?_
              rintro e y3 ⟨rfl, bb⟩
              replace HX := Lib.hid (HX.out.below bb)
              replace HY := Lib.hid (HY.out.below bb)
              replace HEV := Lib.hid (HEV.out.below bb)
              replace HSC := Lib.hid (HSC.out.below rRu_stable bb)
              replace HBL := Lib.hid (HBL.out.trans (bb.mono HBL.out.size))
              clear bb x0 x1 x2 x3 u0 u1
              have x0 := HX.out.cell 0
              have x1 := HX.out.cell 1
              have x2 := HX.out.cell 2
              have x3 := HX.out.cell 3
              have u0 := HY.out.cell 0
              have u1 := HY.out.cell 1
              simp at x0 x1 x2 x3 u0 u1
              go_wp2_with fail
              refine (specDueAfter_any _ z1 ⟨id2, se2, ma2, ys⟩ t2 ⟨uk, ud⟩ _ ⟨_, rfl, HEV.out.row, HO2.out⟩ ⟨_, _, _, _, _, rfl⟩ HUO.out HSC.out dA bB HA.out).mono ?_
              rintro e y4 ⟨rfl, bb⟩
              replace HX := Lib.hid (HX.out.below bb)
              replace HY := Lib.hid (HY.out.below bb)
              replace HEV := Lib.hid (HEV.out.below bb)
              replace HSC := Lib.hid (HSC.out.below rRu_stable bb)
              replace HBL := Lib.hid (HBL.out.trans (bb.mono HBL.out.size))
              clear bb x0 x1 x2 x3 u0 u1
              have x0 := HX.out.cell 0
              have x1 := HX.out.cell 1
              have x2 := HX.out.cell 2
              have x3 := HX.out.cell 3
              have u0 := HY.out.cell 0
              have u1 := HY.out.cell 1
              simp at x0 x1 x2 x3 u0 u1
              cases bB
              · go_wp2_with fail
                go_ret
                exact ⟨rfl, HBL.out⟩
              · go_wp2_with fail
                refine (implDueDay_any _ z1 ⟨id2, se2, ma2, ys⟩ t2 _ ⟨_, rfl, HEV.out.row, HO2.out⟩ HSC.out (by omega) dD bD HDD.out).mono ?_
                rintro e y5 ⟨rfl, bb⟩
                replace HX := Lib.hid (HX.out.below bb)
                replace HY := Lib.hid (HY.out.below bb)
                replace HEV := Lib.hid (HEV.out.below bb)
                replace HSC := Lib.hid (HSC.out.below rRu_stable bb)
                replace HBL := Lib.hid (HBL.out.trans (bb.mono HBL.out.size))
                clear bb x0 x1 x2 x3 u0 u1
                cases bD
                · go_wp2_with fail
                  go_ret
                  exact ⟨rfl, HBL.out⟩
                · have hlt : decide (dA < dD) = false := decide_eq_false (by have := per_after HA.out HDD.out; omega)
                  have hlt2 : ¬ dA < dD := by have := per_after HA.out HDD.out; omega
                  go_wp2_with fail
                  go_ret
                  exact ⟨rfl, HBL.out⟩
        · have hW1 : ((Wt.length : Int) == 0) = false := beq_eq_false_iff_ne.2 (by omega)
          obtain rfl : told = false := by rw [HT.out, decide_eq_true hE0, decide_eq_false hW0]; rfl
          clear hW0 c0 c1 c2 c3
          obtain ⟨c0, c1, c2, c3⟩ := HP.out.cells
          go_wp2_with fail
          refine (implDecidingRule_any _ v1 ⟨id, se, ma, xs⟩ t _ (HP.out.recV HOK.out) HP.out.sch (by omega) ⟨q0, q1, q2, q3⟩ false HQ.out).mono ?_
          rintro e w10 ⟨rfl, b9⟩
          replace HP := Lib.hid (HP.out.below b9)
          replace H5 := Lib.hid (H5.out.below b9)
          replace H7 := Lib.hid (H7.out.below b9)
          replace H13 := Lib.hid (H13.out.below b9)
          replace H15 := Lib.hid (H15.out.below b9)
          clear b9 c0 c1 c2 c3
          obtain ⟨c0, c1, c2, c3⟩ := HP.out.cells
          (try dsimp only)
          obtain ⟨G1, hG1⟩ : ∃ x, w10.heap.size = x := ⟨_, rfl⟩
          have HG1 : Hid (BxV (w10.alloc (.cells #[.int .i64 q0, .int .i64 q1, .int .i64 q2, .int .i64 q3] 37 (0, 0))) G1 [.int .i64 q0, .int .i64 q1, .int .i64 q2, .int .i64 q3]) := Lib.hid (BxV.new' hG1 _ _)
          replace HP := Lib.hid (HP.out.below (below_al (Below.refl _ _) (.cells #[.int .i64 q0, .int .i64 q1, .int .i64 q2, .int .i64 q3] 37 (0, 0))))
          replace H5 := Lib.hid (H5.out.below (below_al (Below.refl _ _) (.cells #[.int .i64 q0, .int .i64 q1, .int .i64 q2, .int .i64 q3] 37 (0, 0))))
          replace H7 := Lib.hid (H7.out.below (below_al (Below.refl _ _) (.cells #[.int .i64 q0, .int .i64 q1, .int .i64 q2, .int .i64 q3] 37 (0, 0))))
          replace H13 := Lib.hid (H13.out.below (below_al (Below.refl _ _) (.cells #[.int .i64 q0, .int .i64 q1, .int .i64 q2, .int .i64 q3] 37 (0, 0))))
          replace H15 := Lib.hid (H15.out.below (below_al (Below.refl _ _) (.cells #[.int .i64 q0, .int .i64 q1, .int .i64 q2, .int .i64 q3] 37 (0, 0))))
          clear c0 c1 c2 c3
          go_upto_region 17 with fail
          try rw [hG1]
          have HEG1 := Lib.hid hG1
          clear hG1
          generalize hV9 : w10.alloc (.cells #[.int .i64 q0, .int .i64 q1, .int .i64 q2, .int .i64 q3] 37 (0, 0)) = V9 at *
          have HV9 := Lib.hid hV9
          clear hV9
          obtain ⟨c0, c1, c2, c3⟩ := HP.out.cells
          go_wp2_with fail
          refine (specDecidingRule_any _ v1 ⟨id, se, ma, xs⟩ t _ (HP.out.recV HOK.out) HP.out.sch ⟨q0, q1, q2, q3⟩ false HQ.out).mono ?_
          rintro e w11 ⟨rfl, b10⟩
          replace HP := Lib.hid (HP.out.below b10)
          replace H5 := Lib.hid (H5.out.below b10)
          replace H7 := Lib.hid (H7.out.below b10)
          replace H13 := Lib.hid (H13.out.below b10)
          replace H15 := Lib.hid (H15.out.below b10)
          replace HG1 := Lib.hid (HG1.out.below b10)
          clear b10 c0 c1 c2 c3
          obtain ⟨c0, c1, c2, c3⟩ := HP.out.cells
          (try dsimp only)
          obtain ⟨G2, hG2⟩ : ∃ x, w11.heap.size = x := ⟨_, rfl⟩
          have HG2 : Hid (BxV (w11.alloc (.cells #[.int .i64 q0, .int .i64 q1, .int .i64 q2, .int .i64 q3] 37 (0, 0))) G2 [.int .i64 q0, .int .i64 q1, .int .i64 q2, .int .i64 q3]) := Lib.hid (BxV.new' hG2 _ _)
          replace HP := Lib.hid (HP.out.below (below_al (Below.refl _ _) (.cells #[.int .i64 q0, .int .i64 q1, .int .i64 q2, .int .i64 q3] 37 (0, 0))))
          replace H5 := Lib.hid (H5.out.below (below_al (Below.refl _ _) (.cells #[.int .i64 q0, .int .i64 q1, .int .i64 q2, .int .i64 q3] 37 (0, 0))))
          replace H7 := Lib.hid (H7.out.below (below_al (Below.refl _ _) (.cells #[.int .i64 q0, .int .i64 q1, .int .i64 q2, .int .i64 q3] 37 (0, 0))))
          replace H13 := Lib.hid (H13.out.below (below_al (Below.refl _ _) (.cells #[.int .i64 q0, .int .i64 q1, .int .i64 q2, .int .i64 q3] 37 (0, 0))))
          replace H15 := Lib.hid (H15.out.below (below_al (Below.refl _ _) (.cells #[.int .i64 q0, .int .i64 q1, .int .i64 q2, .int .i64 q3] 37 (0, 0))))
          replace HG1 := Lib.hid (HG1.out.below (below_al (Below.refl _ _) (.cells #[.int .i64 q0, .int .i64 q1, .int .i64 q2, .int .i64 q3] 37 (0, 0))))
          clear c0 c1 c2 c3
          go_upto_region 18 with fail
          try rw [hG2]
          have HEG2 := Lib.hid hG2
          clear hG2
          generalize hV10 : w11.alloc (.cells #[.int .i64 q0, .int .i64 q1, .int .i64 q2, .int .i64 q3] 37 (0, 0)) = V10 at *
          have HV10 := Lib.hid hV10
          clear hV10
          obtain ⟨c0, c1, c2, c3⟩ := HP.out.cells
          have d10 := HG1.out.cell 0
          have d11 := HG1.out.cell 1
          have d12 := HG1.out.cell 2
          have d13 := HG1.out.cell 3
          have d20 := HG2.out.cell 0
          have d21 := HG2.out.cell 1
          have d22 := HG2.out.cell 2
          have d23 := HG2.out.cell 3
          simp at d10 d11 d12 d13 d20 d21 d22 d23
          go_upto_region 29 with fail
          clear d10 d11 d12 d13 d20 d21 d22 d23 c0 c1 c2 c3
          go_wp2_with fail
          refine (drawDueAfter_any a len cap zs _ HP.out.row (by omega)).mono ?_
          rintro e y1 ⟨⟨id2, se2, ma2, ys⟩, g2, k2, z1, t2, ⟨uk, ud⟩, rfl, hok2, hyl, he2, htl2, hu2, huo, bA⟩
          (try dsimp only at hok2 hyl he2)
          (try dsimp only)
          go_upto_region 30 with fail
          obtain ⟨G24, hG24⟩ : ∃ x, y1.heap.size = x := ⟨_, rfl⟩
          obtain ⟨G26, hG26⟩ : ∃ x, G24 + 1 = x := ⟨_, rfl⟩
          have hs26 : (y1.alloc (.cells #[.int .i64 id2, .int .i64 se2, .int .i64 ma2, .slice (some ⟨g2, 0, none⟩) ys.length k2] 26 (0, 0))).heap.size = G26 := by simp; omega
          have HX : Hid (BxV ((y1.alloc (.cells #[.int .i64 id2, .int .i64 se2, .int .i64 ma2, .slice (some ⟨g2, 0, none⟩) ys.length k2] 26 (0, 0))).alloc (.cells #[.int .i64 uk, .int .i64 ud] 43 (0, 0))) G24 [.int .i64 id2, .int .i64 se2, .int .i64 ma2, .slice (some ⟨g2, 0, none⟩) ys.length k2]) := Lib.hid ((BxV.new' hG24 _ _).al _)
          have HY : Hid (BxV ((y1.alloc (.cells #[.int .i64 id2, .int .i64 se2, .int .i64 ma2, .slice (some ⟨g2, 0, none⟩) ys.length k2] 26 (0, 0))).alloc (.cells #[.int .i64 uk, .int .i64 ud] 43 (0, 0))) G26 [.int .i64 uk, .int .i64 ud]) := Lib.hid (BxV.new' hs26 _ _)
          have HEV : Hid (EvsO V10.heap.size y1.heap.size ((y1.alloc (.cells #[.int .i64 id2, .int .i64 se2, .int .i64 ma2, .slice (some ⟨g2, 0, none⟩) ys.length k2] 26 (0, 0))).alloc (.cells #[.int .i64 uk, .int .i64 ud] 43 (0, 0))) (.slice (some ⟨g2, 0, none⟩) ys.length k2) ys) := Lib.hid ((he2.alloc _).alloc _)
          have HSC : Hid (RowR 4 rRu ((y1.alloc (.cells #[.int .i64 id2, .int .i64 se2, .int .i64 ma2, .slice (some ⟨g2, 0, none⟩) ys.length k2] 26 (0, 0))).alloc (.cells #[.int .i64 uk, .int .i64 ud] 43 (0, 0))) z1 t2) := Lib.hid (hu2.row.below rRu_stable (below_al (below_al (Below.refl _ _) _) _))
          have HBL : Hid (Below W.heap.size W ((y1.alloc (.cells #[.int .i64 id2, .int .i64 se2, .int .i64 ma2, .slice (some ⟨g2, 0, none⟩) ys.length k2] 26 (0, 0))).alloc (.cells #[.int .i64 uk, .int .i64 ud] 43 (0, 0)))) := Lib.hid (HP.out.bel.trans ((below_al (below_al bA _) _).mono HP.out.bel.size))
          have HO2 := Lib.hid hok2
          have HUO := Lib.hid huo
          obtain ⟨dA, bB, hA⟩ : ∃ x y, aftRes ⟨id2, se2, ma2, ys⟩ t2 ⟨uk, ud⟩ = (x, y) := ⟨_, _, rfl⟩
          have HA := Lib.hid hA
          obtain ⟨dD, bD, hD⟩ : ∃ x y, dueRes ⟨id2, se2, ma2, ys⟩ t2 = (x, y) := ⟨_, _, rfl⟩
          have HDD := Lib.hid hD
          clear hok2 huo hA hD he2 hu2 bA HP hs26 H5 H7 H13 H15 HG1 HG2
          try rw [hG24]
          try rw [hG26]
          have HG24 := Lib.hid hG24
          have HG26 := Lib.hid hG26
          clear hG24 hG26
          generalize hY2 : (y1.alloc (.cells #[.int .i64 id2, .int .i64 se2, .int .i64 ma2, .slice (some ⟨g2, 0, none⟩) ys.length k2] 26 (0, 0))).alloc (.cells #[.int .i64 uk, .int .i64 ud] 43 (0, 0)) = y2 at *
          have HY2 := Lib.hid hY2
          clear hY2
          have x0 := HX.out.cell 0
          have x1 := HX.out.cell 1
          have x2 := HX.out.cell 2
          have x3 := HX.out.cell 3
          have u0 := HY.out.cell 0
          have u1 := HY.out.cell 1
          simp at x0 x1 x2 x3 u0 u1
          go_wp2_with fail
          refine (implDueAfter_any _ z1 ⟨id2, se2, ma2, ys⟩ t2 ⟨uk, ud⟩ _ _ _ ⟨_, rfl, HEV.out, HO2.out⟩ HUO.out HSC.out (by omega) dA bB HA.out).mono ?_
          rintro e y3 ⟨rfl, bb⟩
          replace HX := Lib.hid (HX.out.below bb)
          replace HY := Lib.hid (HY.out.below bb)
          replace HEV := Lib.hid (HEV.out.below bb)
          replace HSC := Lib.hid (HSC.out.below rRu_stable bb)
          replace HBL := Lib.hid (HBL.out.trans (bb.mono HBL.out.size))
          clear bb x0 x1 x2 x3 u0 u1
          have x0 := HX.out.cell 0
          have x1 := HX.out.cell 1
          have x2 := HX.out.cell 2
          have x3 := HX.out.cell 3
          have u0 := HY.out.cell 0
          have u1 := HY.out.cell 1
          simp at x0 x1 x2 x3 u0 u1
          go_wp2_with fail
          refine (specDueAfter_any _ z1 ⟨id2, se2, ma2, ys⟩ t2 ⟨uk, ud⟩ _ ⟨_, rfl, HEV.out.row, HO2.out⟩ ⟨_, _, _, _, _, rfl⟩ HUO.out HSC.out dA bB HA.out).mono ?_
          rintro e y4 ⟨rfl, bb⟩
          replace HX := Lib.hid (HX.out.below bb)
          replace HY := Lib.hid (HY.out.below bb)
          replace HEV := Lib.hid (HEV.out.below bb)
          replace HSC := Lib.hid (HSC.out.below rRu_stable bb)
          replace HBL := Lib.hid (HBL.out.trans (bb.mono HBL.out.size))
          clear bb x0 x1 x2 x3 u0 u1
          have x0 := HX.out.cell 0
          have x1 := HX.out.cell 1
          have x2 := HX.out.cell 2
          have x3 := HX.out.cell 3
          have u0 := HY.out.cell 0
          have u1 := HY.out.cell 1
          simp at x0 x1 x2 x3 u0 u1
          cases bB
          · go_wp2_with fail
            go_ret
            exact ⟨rfl, HBL.out⟩
          · go_wp2_with fail
            refine (implDueDay_any _ z1 ⟨id2, se2, ma2, ys⟩ t2 _ ⟨_, rfl, HEV.out.row, HO2.out⟩ HSC.out (by omega) dD bD HDD.out).mono ?_
            rintro e y5 ⟨rfl, bb⟩
            replace HX := Lib.hid (HX.out.below bb)
            replace HY := Lib.hid (HY.out.below bb)
            replace HEV := Lib.hid (HEV.out.below bb)
            replace HSC := Lib.hid (HSC.out.below rRu_stable bb)
            replace HBL := Lib.hid (HBL.out.trans (bb.mono HBL.out.size))
            clear bb x0 x1 x2 x3 u0 u1
            cases bD
            · go_wp2_with fail
              go_ret
              exact ⟨rfl, HBL.out⟩
            · have hlt : decide (dA < dD) = false := decide_eq_false (by have := per_after HA.out HDD.out; omega)
              have hlt2 : ¬ dA < dD := by have := per_after HA.out HDD.out; omega
              go_wp2_with fail
              go_ret
              exact ⟨rfl, HBL.out⟩
      · have hE1 : ¬ (0 : Int) < (E.length : Int) := by omega
        have hE2 : decide ((0 : Int) < (E.length : Int)) = false := decide_eq_false hE1
        obtain rfl : told = false := by rw [HT.out, decide_eq_false hE0]; rfl
        clear c0 c1 c2 c3
        obtain ⟨c0, c1, c2, c3⟩ := HP.out.cells
        go_wp2_with fail
        refine (implDecidingRule_any _ v1 ⟨id, se, ma, xs⟩ t _ (HP.out.recV HOK.out) HP.out.sch (by omega) ⟨q0, q1, q2, q3⟩ false HQ.out).mono ?_
        rintro e w10 ⟨rfl, b9⟩
        replace HP := Lib.hid (HP.out.below b9)
        replace H5 := Lib.hid (H5.out.below b9)
        replace H7 := Lib.hid (H7.out.below b9)
        replace H13 := Lib.hid (H13.out.below b9)
        replace H15 := Lib.hid (H15.out.below b9)
        clear b9 c0 c1 c2 c3
        obtain ⟨c0, c1, c2, c3⟩ := HP.out.cells
        (try dsimp only)
        obtain ⟨G1, hG1⟩ : ∃ x, w10.heap.size = x := ⟨_, rfl⟩
        have HG1 : Hid (BxV (w10.alloc (.cells #[.int .i64 q0, .int .i64 q1, .int .i64 q2, .int .i64 q3] 37 (0, 0))) G1 [.int .i64 q0, .int .i64 q1, .int .i64 q2, .int .i64 q3]) := Lib.hid (BxV.new' hG1 _ _)
        replace HP := Lib.hid (HP.out.below (below_al (Below.refl _ _) (.cells #[.int .i64 q0, .int .i64 q1, .int .i64 q2, .int .i64 q3] 37 (0, 0))))
        replace H5 := Lib.hid (H5.out.below (below_al (Below.refl _ _) (.cells #[.int .i64 q0, .int .i64 q1, .int .i64 q2, .int .i64 q3] 37 (0, 0))))
        replace H7 := Lib.hid (H7.out.below (below_al (Below.refl _ _) (.cells #[.int .i64 q0, .int .i64 q1, .int .i64 q2, .int .i64 q3] 37 (0, 0))))
        replace H13 := Lib.hid (H13.out.below (below_al (Below.refl _ _) (.cells #[.int .i64 q0, .int .i64 q1, .int .i64 q2, .int .i64 q3] 37 (0, 0))))
        replace H15 := Lib.hid (H15.out.below (below_al (Below.refl _ _) (.cells #[.int .i64 q0, .int .i64 q1, .int .i64 q2, .int .i64 q3] 37 (0, 0))))
        clear c0 c1 c2 c3
        go_upto_region 17 with fail
        try rw [hG1]
        have HEG1 := Lib.hid hG1
        clear hG1
        generalize hV9 : w10.alloc (.cells #[.int .i64 q0, .int .i64 q1, .int .i64 q2, .int .i64 q3] 37 (0, 0)) = V9 at *
        have HV9 := Lib.hid hV9
        clear hV9
        obtain ⟨c0, c1, c2, c3⟩ := HP.out.cells
        go_wp2_with fail
        refine (specDecidingRule_any _ v1 ⟨id, se, ma, xs⟩ t _ (HP.out.recV HOK.out) HP.out.sch ⟨q0, q1, q2, q3⟩ false HQ.out).mono ?_
        rintro e w11 ⟨rfl, b10⟩
        replace HP := Lib.hid (HP.out.below b10)
        replace H5 := Lib.hid (H5.out.below b10)
        replace H7 := Lib.hid (H7.out.below b10)
        replace H13 := Lib.hid (H13.out.below b10)
        replace H15 := Lib.hid (H15.out.below b10)
        replace HG1 := Lib.hid (HG1.out.below b10)
        clear b10 c0 c1 c2 c3
        obtain ⟨c0, c1, c2, c3⟩ := HP.out.cells
        (try dsimp only)
        obtain ⟨G2, hG2⟩ : ∃ x, w11.heap.size = x := ⟨_, rfl⟩
        have HG2 : Hid (BxV (w11.alloc (.cells #[.int .i64 q0, .int .i64 q1, .int .i64 q2, .int .i64 q3] 37 (0, 0))) G2 [.int .i64 q0, .int .i64 q1, .int .i64 q2, .int .i64 q3]) := Lib.hid (BxV.new' hG2 _ _)
        replace HP := Lib.hid (HP.out.below (below_al (Below.refl _ _) (.cells #[.int .i64 q0, .int .i64 q1, .int .i64 q2, .int .i64 q3] 37 (0, 0))))
        replace H5 := Lib.hid (H5.out.below (below_al (Below.refl _ _) (.cells #[.int .i64 q0, .int .i64 q1, .int .i64 q2, .int .i64 q3] 37 (0, 0))))
        replace H7 := Lib.hid (H7.out.below (below_al (Below.refl _ _) (.cells #[.int .i64 q0, .int .i64 q1, .int .i64 q2, .int .i64 q3] 37 (0, 0))))
        replace H13 := Lib.hid (H13.out.below (below_al (Below.refl _ _) (.cells #[.int .i64 q0, .int .i64 q1, .int .i64 q2, .int .i64 q3] 37 (0, 0))))
        replace H15 := Lib.hid (H15.out.below (below_al (Below.refl _ _) (.cells #[.int .i64 q0, .int .i64 q1, .int .i64 q2, .int .i64 q3] 37 (0, 0))))
        replace HG1 := Lib.hid (HG1.out.below (below_al (Below.refl _ _) (.cells #[.int .i64 q0, .int .i64 q1, .int .i64 q2, .int .i64 q3] 37 (0, 0))))
        clear c0 c1 c2 c3
        go_upto_region 18 with fail
        try rw [hG2]
        have HEG2 := Lib.hid hG2
        clear hG2
        generalize hV10 : w11.alloc (.cells #[.int .i64 q0, .int .i64 q1, .int .i64 q2, .int .i64 q3] 37 (0, 0)) = V10 at *
        have HV10 := Lib.hid hV10
        clear hV10
        obtain ⟨c0, c1, c2, c3⟩ := HP.out.cells
        have d10 := HG1.out.cell 0
        have d11 := HG1.out.cell 1
        have d12 := HG1.out.cell 2
        have d13 := HG1.out.cell 3
        have d20 := HG2.out.cell 0
        have d21 := HG2.out.cell 1
        have d22 := HG2.out.cell 2
        have d23 := HG2.out.cell 3
        simp at d10 d11 d12 d13 d20 d21 d22 d23
        go_upto_region 29 with fail
        clear d10 d11 d12 d13 d20 d21 d22 d23 c0 c1 c2 c3
        go_wp2_with fail
        refine (drawDueAfter_any a len cap zs _ HP.out.row (by omega)).mono ?_
        rintro e y1 ⟨⟨id2, se2, ma2, ys⟩, g2, k2, z1, t2, ⟨uk, ud⟩, rfl, hok2, hyl, he2, htl2, hu2, huo, bA⟩
        (try dsimp only at hok2 hyl he2)
        (try dsimp only)
        go_upto_region 30 with fail
        obtain ⟨G24, hG24⟩ : ∃ x, y1.heap.size = x := ⟨_, rfl⟩
        obtain ⟨G26, hG26⟩ : ∃ x, G24 + 1 = x := ⟨_, rfl⟩
        have hs26 : (y1.alloc (.cells #[.int .i64 id2, .int .i64 se2, .int .i64 ma2, .slice (some ⟨g2, 0, none⟩) ys.length k2] 26 (0, 0))).heap.size = G26 := by simp; omega
        have HX : Hid (BxV ((y1.alloc (.cells #[.int .i64 id2, .int .i64 se2, .int .i64 ma2, .slice (some ⟨g2, 0, none⟩) ys.length k2] 26 (0, 0))).alloc (.cells #[.int .i64 uk, .int .i64 ud] 43 (0, 0))) G24 [.int .i64 id2, .int .i64 se2, .int .i64 ma2, .slice (some ⟨g2, 0, none⟩) ys.length k2]) := Lib.hid ((BxV.new' hG24 _ _).al _)
        have HY : Hid (BxV ((y1.alloc (.cells #[.int .i64 id2, .int .i64 se2, .int .i64 ma2, .slice (some ⟨g2, 0, none⟩) ys.length k2] 26 (0, 0))).alloc (.cells #[.int .i64 uk, .int .i64 ud] 43 (0, 0))) G26 [.int .i64 uk, .int .i64 ud]) := Lib.hid (BxV.new' hs26 _ _)
        have HEV : Hid (EvsO V10.heap.size y1.heap.size ((y1.alloc (.cells #[.int .i64 id2, .int .i64 se2, .int .i64 ma2, .slice (some ⟨g2, 0, none⟩) ys.length k2] 26 (0, 0))).alloc (.cells #[.int .i64 uk, .int .i64 ud] 43 (0, 0))) (.slice (some ⟨g2, 0, none⟩) ys.length k2) ys) := Lib.hid ((he2.alloc _).alloc _)
        have HSC : Hid (RowR 4 rRu ((y1.alloc (.cells #[.int .i64 id2, .int .i64 se2, .int .i64 ma2, .slice (some ⟨g2, 0, none⟩) ys.length k2] 26 (0, 0))).alloc (.cells #[.int .i64 uk, .int .i64 ud] 43 (0, 0))) z1 t2) := Lib.hid (hu2.row.below rRu_stable (below_al (below_al (Below.refl _ _) _) _))
        have HBL : Hid (Below W.heap.size W ((y1.alloc (.cells #[.int .i64 id2, .int .i64 se2, .int .i64 ma2, .slice (some ⟨g2, 0, none⟩) ys.length k2] 26 (0, 0))).alloc (.cells #[.int .i64 uk, .int .i64 ud] 43 (0, 0)))) := Lib.hid (HP.out.bel.trans ((below_al (below_al bA _) _).mono HP.out.bel.size))
        have HO2 := Lib.hid hok2
        have HUO := Lib.hid huo
        obtain ⟨dA, bB, hA⟩ : ∃ x y, aftRes ⟨id2, se2, ma2, ys⟩ t2 ⟨uk, ud⟩ = (x, y) := ⟨_, _, rfl⟩
        have HA := Lib.hid hA
        obtain ⟨dD, bD, hD⟩ : ∃ x y, dueRes ⟨id2, se2, ma2, ys⟩ t2 = (x, y) := ⟨_, _, rfl⟩
        have HDD := Lib.hid hD
        clear hok2 huo hA hD he2 hu2 bA HP hs26 H5 H7 H13 H15 HG1 HG2
        try rw [hG24]
        try rw [hG26]
        have HG24 := Lib.hid hG24
        have HG26 := Lib.hid hG26
        clear hG24 hG26
        generalize hY2 : (y1.alloc (.cells #[.int .i64 id2, .int .i64 se2, .int .i64 ma2, .slice (some ⟨g2, 0, none⟩) ys.length k2] 26 (0, 0))).alloc (.cells #[.int .i64 uk, .int .i64 ud] 43 (0, 0)) = y2 at *
        have HY2 := Lib.hid hY2
        clear hY2
        have x0 := HX.out.cell 0
        have x1 := HX.out.cell 1
        have x2 := HX.out.cell 2
        have x3 := HX.out.cell 3
        have u0 := HY.out.cell 0
        have u1 := HY.out.cell 1
        simp at x0 x1 x2 x3 u0 u1
        go_wp2_with fail
        refine (implDueAfter_any _ z1 ⟨id2, se2, ma2, ys⟩ t2 ⟨uk, ud⟩ _ _ _ ⟨_, rfl, HEV.out, HO2.out⟩ HUO.out HSC.out (by omega) dA bB HA.out).mono ?_
        rintro e y3 ⟨rfl, bb⟩
        replace HX := Lib.hid (HX.out.below bb)
        replace HY := Lib.hid (HY.out.below bb)
        replace HEV := Lib.hid (HEV.out.below bb)
        replace HSC := Lib.hid (HSC.out.below rRu_stable bb)
        replace HBL := Lib.hid (HBL.out.trans (bb.mono HBL.out.size))
        clear bb x0 x1 x2 x3 u0 u1
        have x0 := HX.out.cell 0
        have x1 := HX.out.cell 1
        have x2 := HX.out.cell 2
        have x3 := HX.out.cell 3
        have u0 := HY.out.cell 0
        have u1 := HY.out.cell 1
        simp at x0 x1 x2 x3 u0 u1
        go_wp2_with fail
        refine (specDueAfter_any _ z1 ⟨id2, se2, ma2, ys⟩ t2 ⟨uk, ud⟩ _ ⟨_, rfl, HEV.out.row, HO2.out⟩ ⟨_, _, _, _, _, rfl⟩ HUO.out HSC.out dA bB HA.out).mono ?_
        rintro e y4 ⟨rfl, bb⟩
        replace HX := Lib.hid (HX.out.below bb)
        replace HY := Lib.hid (HY.out.below bb)
        replace HEV := Lib.hid (HEV.out.below bb)
        replace HSC := Lib.hid (HSC.out.below rRu_stable bb)
        replace HBL := Lib.hid (HBL.out.trans (bb.mono HBL.out.size))
        clear bb x0 x1 x2 x3 u0 u1
        have x0 := HX.out.cell 0
        have x1 := HX.out.cell 1
        have x2 := HX.out.cell 2
        have x3 := HX.out.cell 3
        have u0 := HY.out.cell 0
        have u1 := HY.out.cell 1
        simp at x0 x1 x2 x3 u0 u1
        cases bB
        · go_wp2_with fail
          go_ret
          exact ⟨rfl, HBL.out⟩
        · go_wp2_with fail
          refine (implDueDay_any _ z1 ⟨id2, se2, ma2, ys⟩ t2 _ ⟨_, rfl, HEV.out.row, HO2.out⟩ HSC.out (by omega) dD bD HDD.out).mono ?_
          rintro e y5 ⟨rfl, bb⟩
          replace HX := Lib.hid (HX.out.below bb)
          replace HY := Lib.hid (HY.out.below bb)
          replace HEV := Lib.hid (HEV.out.below bb)
          replace HSC := Lib.hid (HSC.out.below rRu_stable bb)
          replace HBL := Lib.hid (HBL.out.trans (bb.mono HBL.out.size))
          clear bb x0 x1 x2 x3 u0 u1
          cases bD
          · go_wp2_with fail
            go_ret
            exact ⟨rfl, HBL.out⟩
          · have hlt : decide (dA < dD) = false := decide_eq_false (by have := per_after HA.out HDD.out; omega)
            have hlt2 : ¬ dA < dD := by have := per_after HA.out HDD.out; omega
            go_wp2_with fail
            go_ret
            exact ⟨rfl, HBL.out⟩
theorem walkPeriods (v0 : Value) (x0 : By8) (W : World) (hv0 : ByV W v0 x0) :
    Calls Try.prog 3 #[v0] W fun e w' => e = .returned (.bool true) ∧ Below W.heap.size W w' := by
  obtain ⟨a, len, cap, zs⟩ := x0
  obtain ⟨rfl, hi⟩ := hv0
  exact walkPeriods0 a len cap zs W hi

set_option maxRecDepth 100000 in
theorem fnPeriods_lifted (os : Os) (started : os.Started) (H : Type) (enc : TypeId × Value → H) :
    ReturnsInHanded {} Try.checked os 3 .any (Rows.fnPeriodsSpec.pre6 enc Try.prog Try.f3 Rows.fnPeriodsRow.domain false) (Rows.fnPeriodsSpec.post enc Try.prog Try.f3 false true false false) := by
  refine returnsInHanded_of_change (C := Try.checked) Try.own started (by kernel_rfl) Try.func3
    (ChangeSpec.witness6 (enc := enc) (C := Try.checked) false ⟨#[], #[.slice none 0 0], []⟩ 8 (by kernel_rfl) (by kernel_rfl) (by kernel_rfl) (by kernel_rfl)) ?_
  intro W base args ds gs before hval0 hW hcnd _
  have hval : ∀ (j : Nat) t v, Try.f3.params[j]? = some t → args[j]? = some v → Value.okWide Try.prog W .any base t v := hval0
  have hW' := hW
  obtain ⟨p, q, hA0, hV, rfl, hfz, hnd⟩ := hW
  have hA : DataW.TrodAll enc Try.prog W 0 (fun _ => true) true Try.f3.params.toList args.toList ds p := hA0
  rw [Try.params3] at hA hval
  obtain ⟨v0, vs0, d0, ds0, p0, q0, hargs, rfl, rfl, h0, r0⟩ := trodAll_cons hA
  obtain ⟨rfl, rfl, rfl⟩ := trodAll_nil r0
  obtain rfl : args = #[v0] := by cases args; simp_all
  obtain ⟨rfl, rfl⟩ := trodVars_none hV
  obtain ⟨x0, w0⟩ := arg_code (hval 0 22 v0 rfl rfl) h0
  have lt0 : ∀ x ∈ p0, x.block < W.heap.size := by obtain ⟨m, hm⟩ := h0; exact DataW.trod_lt m _ _ _ hm
  clear hA0 hval0
  refine (walkPeriods v0 x0 W w0).mono fun e W' ⟨he, bel⟩ => ?_
  subst he
  exact ⟨_, rfl, _, _, _, [], _, [], hW', trodAll_mk1 (shut_bool Try.underlying4 _), (trodAll_cons_mk (Below.trod Try.laidOut (by kernel_rfl) (of_decide_eq_true (by kernel_rfl)) h0 bel lt0) trodAll_mk0), rfl, bel.frame _, fun h => by cases h⟩

theorem fnPeriods_proved : Rows.FnPeriodsSaid :=
  OpenClaim.holds_of_wide 3 Try.f3 rfl rfl rfl rfl rfl rfl rfl ⟨rfl, rfl, rfl, rfl, rfl⟩ rfl rfl rfl rfl rfl (by kernel_rfl) Try.func3 (by kernel_rfl)
    (of_decide_eq_true (by kernel_rfl)) (by unfold Func.isWrapper; first | (rw [if_pos (by decide +kernel)]; kernel_rfl) | (rw [if_neg (by decide +kernel)]; exact ⟨rfl, rfl⟩))
    (fun os started H enc _ => fnPeriods_lifted os started H enc)
end Go.Proofs.Ytnfcfinecjgakaa
