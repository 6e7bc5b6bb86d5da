/- The cursor's choices: pick, one, of. Each lies within its bounds; nothing but the cursor's own block is written. -/
import Derived.Test.YtenjajcknmfhfaaCur
namespace Go.Proofs.Ytenjajcknmfhfaa
set_option linter.unusedVariables false
open Go.RowKit

/-- Block B holds a cursor that has made at most K choices; the bytes that it goes over lie below B. -/
def Cur (w : World) (B K : Nat) : Prop := ∃ a len cap at_ seed, CurAt w B K a len cap at_ seed ∧
  (len = 0 ∨ ∃ b off, a = some ⟨b, off, none⟩ ∧ b < B ∧ ∀ i, i < len → ∃ z : Int, 0 ≤ z ∧ z ≤ 255 ∧ w.cell? ⟨b, off + i, none⟩ = some (.int .u8 z))

theorem CurAt.le_K {w : World} {B K K' : Nat} {a : Option Addr} {len cap at_ : Nat} {seed : Int} (h : CurAt w B K a len cap at_ seed) (hk : K ≤ K') : CurAt w B K' a len cap at_ seed :=
  ⟨h.code, h.at1, h.seed2, h.f1, h.f2, Nat.le_trans h.le hk, h.lt, h.small⟩
theorem Cur.le_K {w : World} {B K K' : Nat} (h : Cur w B K) (hk : K ≤ K') : Cur w B K' := by
  obtain ⟨a, len, cap, at_, seed, h, hc⟩ := h
  exact ⟨a, len, cap, at_, seed, h.le_K hk, hc⟩
theorem Cur.lt {w : World} {B K : Nat} (h : Cur w B K) : B < w.heap.size := by obtain ⟨_, _, _, _, _, h, _⟩ := h; exact h.lt
/-- It stays where nothing up to its own block has turned. -/
theorem Cur.later {w w' : World} {B K : Nat} (h : Cur w B K) (hb : Below (B + 1) w w') : Cur w' B K := by
  obtain ⟨a, len, cap, at_, seed, h, hc⟩ := h
  refine ⟨a, len, cap, at_, seed, ⟨?_, ?_, ?_, ?_, ?_, h.le, Nat.lt_of_lt_of_le h.lt hb.size, h.small⟩, hc.imp id ?_⟩
  · rw [hb.cell (p := ⟨B, 0, none⟩) (Nat.lt_succ_self _)]; exact h.code
  · rw [hb.cell (p := ⟨B, 1, none⟩) (Nat.lt_succ_self _)]; exact h.at1
  · rw [hb.cell (p := ⟨B, 2, none⟩) (Nat.lt_succ_self _)]; exact h.seed2
  · rw [hb.frozen (p := ⟨B, 1, none⟩) (Nat.lt_succ_self _)]; exact h.f1
  · rw [hb.frozen (p := ⟨B, 2, none⟩) (Nat.lt_succ_self _)]; exact h.f2
  · rintro ⟨b, off, rfl, hbB, hz⟩
    refine ⟨b, off, rfl, hbB, fun i hi => ?_⟩
    obtain ⟨z, z0, z1, hcz⟩ := hz i hi
    exact ⟨z, z0, z1, (hb.cell (p := ⟨b, off + i, none⟩) (Nat.lt_succ_of_lt hbB)).trans hcz⟩

/-- A number out of the cursor. -/
def CurInt (w : World) (B K : Nat) (lo hi : Int) (e : Ending) (w' : World) : Prop :=
  ∃ r : Int, e = .returned (.int .i64 r) ∧ lo ≤ r ∧ r < hi ∧ Cur w' B K ∧ w.grownBy w' (some B)
def CurBool (w : World) (B K : Nat) (e : Ending) (w' : World) : Prop :=
  ∃ r : Bool, e = .returned (.bool r) ∧ Cur w' B K ∧ w.grownBy w' (some B)
/-- One of some numbers. -/
def CurNum (w : World) (B K : Nat) (xs : List Int) (e : Ending) (w' : World) : Prop :=
  ∃ n : Int, e = .returned (.int .i64 n) ∧ n ∈ xs ∧ Cur w' B K ∧ w.grownBy w' (some B)
/-- One of some texts. -/
def CurStr (w : World) (B K : Nat) (ss : List ByteArray) (e : Ending) (w' : World) : Prop :=
  ∃ s : ByteArray, e = .returned (.string s) ∧ s ∈ ss ∧ Cur w' B K ∧ w.grownBy w' (some B)

theorem next_any (B K : Nat) (w : World) (h : Cur w B K) (hK : K ≤ 1099511627776) :
    Calls Try.prog 137 #[.pointer (some ⟨B, 0, none⟩)] w (CurInt w B (K + 1) 0 256) := by
  obtain ⟨a, len, cap, at_, seed, h, hc⟩ := h
  have fin : ∀ z : Int, (at_ < len → ∃ b off, a = some ⟨b, off, none⟩ ∧ b ≠ B ∧ 0 ≤ z ∧ z ≤ 255 ∧ w.cell? ⟨b, off + at_, none⟩ = some (.int .u8 z)) →
      Calls Try.prog 137 #[.pointer (some ⟨B, 0, none⟩)] w (CurInt w B (K + 1) 0 256) := fun z hz => by
    refine (next_in B K a len cap at_ seed w h hK z hz).mono ?_
    rintro e w' ⟨r, s, rfl, h0, h1, hcur, hg⟩
    refine ⟨r, rfl, h0, by omega, ⟨a, len, cap, at_ + 1, s, hcur, hc.imp id ?_⟩, hg⟩
    rintro ⟨b, off, rfl, hbB, hzz⟩
    refine ⟨b, off, rfl, hbB, fun i hi => ?_⟩
    obtain ⟨z, z0, z1, hcz⟩ := hzz i hi
    have hlt := h.lt
    exact ⟨z, z0, z1, hg.cell hcz (by simp; omega)⟩
  by_cases hin : at_ < len
  · obtain ⟨b, off, rfl, hbB, hzz⟩ := hc.resolve_left (by omega)
    obtain ⟨z, z0, z1, hcz⟩ := hzz at_ hin
    exact fin z fun _ => ⟨b, off, rfl, by omega, z0, z1, hcz⟩
  · exact fin 0 fun h => absurd h hin

set_option maxHeartbeats 1000000 in
theorem pick_any (B K : Nat) (n : Int) (w : World) (h : Cur w B K) (hK : K ≤ 549755813888) (hn0 : 1 ≤ n) (hn1 : n ≤ 1099511627776) :
    Calls Try.prog 81 #[.pointer (some ⟨B, 0, none⟩), .int .i64 n] w (CurInt w B (K + 2) 0 n) := by
  have H := Lib.hid h
  clear h
  by_cases h1 : n ≤ 1
  · go_enter Try.func81, Try.ntmps81
    go_wp2
    go_ret
    exact ⟨0, rfl, by omega, by omega, H.out.le_K (by omega), World.grownBy.refl _ _⟩
  · by_cases h2 : n ≤ 200
    · go_enter Try.func81, Try.ntmps81
      go_wp2_with (go_at_call 137; refine (next_any B K _ H.out (by omega)).mono ?_; rintro e w1 ⟨r, rfl, hr0, hr1, hc1, hg1⟩; have HC1 := Lib.hid hc1; have HG1 := Lib.hid hg1; clear hc1 hg1)
      go_ret
      exact ⟨_, rfl, Int.emod_nonneg _ (by omega), Int.emod_lt_of_pos _ (by omega), HC1.out.le_K (by omega), HG1.out⟩
    · go_enter Try.func81, Try.ntmps81
      go_wp2_with fail
      refine (next_any B K _ H.out (by omega)).mono ?_
      rintro e w1 ⟨r, rfl, hr0, hr1, hc1, hg1⟩
      have HC1 := Lib.hid hc1
      have HG1 := Lib.hid hg1
      clear hc1 hg1
      go_wp2_with fail
      refine (next_any B (K + 1) _ HC1.out (by omega)).mono ?_
      rintro e w2 ⟨r2, rfl, hs0, hs1, hc2, hg2⟩
      have HC2 := Lib.hid hc2
      have HG2 := Lib.hid hg2
      clear hc2 hg2
      go_wp2
      go_ret
      exact ⟨_, rfl, Int.emod_nonneg _ (by omega), Int.emod_lt_of_pos _ (by omega), HC2.out, grownBy_trans HG1.out HG2.out⟩

set_option maxHeartbeats 1000000 in
theorem one_any (B K : Nat) (n : Int) (w : World) (h : Cur w B K) (hK : K ≤ 549755813888) (hn0 : 1 ≤ n) (hn1 : n ≤ 1099511627776) :
    Calls Try.prog 80 #[.pointer (some ⟨B, 0, none⟩), .int .i64 n] w (CurBool w B (K + 2)) := by
  have H := Lib.hid h
  clear h
  go_enter Try.func80, Try.ntmps80
  go_wp2_with fail
  refine (pick_any B K n _ H.out hK hn0 hn1).mono ?_
  rintro e w1 ⟨r, rfl, hr0, hr1, hc1, hg1⟩
  have HC1 := Lib.hid hc1
  have HG1 := Lib.hid hg1
  clear hc1 hg1
  go_wp2
  all_goals
    go_ret
    exact ⟨_, rfl, HC1.out, HG1.out⟩


/-- A cursor that has just been made. -/
theorem cur_new {w : World} {a : Option Addr} {len cap : Nat} {zs : List Int} (h : IsRow .u8 w a len cap zs) (hl : len ≤ 1099511627776) (T : Nat) :
    Cur (w.alloc (.cells #[.slice a len cap, .int .i64 0, .int .u64 0] T)) w.heap.size 0 := by
  refine ⟨a, len, cap, 0, 0, ⟨by simp [World.cell?_alloc_mark], by simp [World.cell?_alloc_mark], by simp [World.cell?_alloc_mark], by simp [World.frozen?_alloc_mark], by simp [World.frozen?_alloc_mark], Nat.le_refl _, by simp, hl⟩, ?_⟩
  rcases h with ⟨rfl, rfl, rfl, rfl⟩ | ⟨x, rfl, hlc, hm, hz, hcell, hw⟩
  · exact .inl rfl
  · by_cases h0 : len = 0
    · exact .inl h0
    · obtain ⟨b, off, spot⟩ := x
      have hc := hcell 0 (by omega)
      have hspot : spot = none := by simpa [Addr.add] using World.cell?_spot hc
      subst hspot
      have hb : b < w.heap.size := by have := World.block_lt_of_cell? w _ hc; simpa [Addr.add] using this
      refine .inr ⟨b, off, rfl, hb, fun i hi => ?_⟩
      have hci := hcell i (by omega)
      rw [show (⟨b, off, none⟩ : Addr).add i = ⟨b, off + i, none⟩ by unfold Addr.add; split <;> simp_all] at hci
      have hi' : i < zs.length := by omega
      have hwf := hw (zs.getD i 0) (by rw [show zs.getD i 0 = zs[i] by simp [List.getD, List.getElem?_eq_getElem hi']]; exact List.getElem_mem hi')
      simp [Lit.wf, IntKind.min, IntKind.max, IntKind.signed, IntKind.bits] at hwf
      refine ⟨zs.getD i 0, by simpa using hwf.1, by simpa using hwf.2, ?_⟩
      rw [← hci]
      exact World.cell?_of_block (Below.heap_alloc _ _ _ hb)
end Go.Proofs.Ytenjajcknmfhfaa
