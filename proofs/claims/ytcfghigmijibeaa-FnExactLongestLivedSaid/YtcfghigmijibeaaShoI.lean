/- Paths between formats, the program's: ShortestPath. -/
import Derived.Test.YtcfghigmijibeaaPathI
import Derived.Test.YtcfghigmijibeaaFo2I
namespace Go.Proofs.Ytcfghigmijibeaa
set_option linter.unusedVariables false
open Go.RowKit Go.Sort Go.Maps Go.Shelf


theorem look_ok {w : World} {b n : Nat} {D : DataW Value} (h : MapP w b n D) (s : Int) (hs : inI s) {a : Addr} {m c : Nat} (hv : D.atKey (.int .i64 s) nilH = .held (.slice (some a) m c)) :
    (Instr.lookup 82 (.map (some b)) (.int .i64 s) true).run Try.prog w = .ok (.tuple #[.slice (some a) m c, .bool true]) w := by
  obtain ⟨es, clock, hb, F, _, rfl⟩ := h
  rcases Maps.fit_look true (int_keyed Try.underlying3) Try.underlying82 (zero_ints w) hb F (key_intP s hs) with ⟨_, _, hat⟩ | ⟨e0, y, _, _, hrun, hRv, hat, _⟩
  · rw [hat] at hv
    simp [nilH] at hv
  · rw [hat] at hv
    simp only [heldR, Option.some.injEq] at hRv
    rw [← hRv] at hv
    simp only [DataW.held.injEq] at hv
    rw [hv] at hrun
    simpa using hrun
theorem look_no {w : World} {b n : Nat} {D : DataW Value} (h : MapP w b n D) (s : Int) (hs : inI s) (hv : has D (.int .i64 s) = false) :
    (Instr.lookup 82 (.map (some b)) (.int .i64 s) true).run Try.prog w = .ok (.tuple #[.slice none 0 0, .bool false]) w := by
  obtain ⟨es, clock, hb, F, _, rfl⟩ := h
  have hn := atKey_of_not_has hv .nil
  rcases Maps.fit_look true (int_keyed Try.underlying3) Try.underlying82 (zero_ints w) hb F (key_intP s hs) with ⟨hrun, _, _⟩ | ⟨e0, y, _, _, hrun, hRv, hat, _⟩
  · simpa using hrun
  · rw [hat] at hn
    simp only [heldR, Option.some.injEq] at hRv
    rw [← hRv] at hn
    simp at hn
theorem look_nilmap (w : World) (s : Int) (hs : inI s) (c : Bool) : (Instr.lookup 82 (.map none) (.int .i64 s) c).run Try.prog w = .ok (if c then .tuple #[.slice none 0 0, .bool false] else .slice none 0 0) w := by
  have K := int_keyed (P := Try.prog) Try.underlying3
  have h1 := K.check w true (key_intP s hs)
  have hz := zero_ints w
  rcases K.find w (key_intP s hs) [] (by simp) with ⟨h2, _⟩ | ⟨j, e0, h2, h3, h4⟩
  · cases c <;> simp [Instr.lookup, run_underlying Try.underlying82, h1, h2, hz, Result.andThen]
  · simp at h3
theorem spRes_len {t : List Fo} {x y d : Int} {xs : List Int} {b : Bool} (h : spRes t x y d = (xs, b)) : xs.length ≤ t.length + 1 := by
  unfold spRes at h
  split at h
  · rename_i hn
    simp only [askP, Bool.and_eq_true] at hn
    rcases hl : lookP (pathsF t x d) y with _ | p
    · rw [hl] at h; rw [← (Prod.mk.inj h).1]; simp
    · rw [hl] at h
      obtain ⟨n, h1, h2, _⟩ := sp_some hn.1 hn.2.1 hl
      have := wayF_len t x d
      rw [← (Prod.mk.inj h).1]
      omega
  · rw [← (Prod.mk.inj h).1]; simp

set_option maxRecDepth 20000 in
set_option maxHeartbeats 4000000 in
theorem implShortestPath_any (v : Value) (t : List Fo) (x y d : Int) (w : World) (h : RowR 4 rFo w v t) (hy : inI y) (xs : List Int) (b : Bool) (hres : spRes t x y d = (xs, b)) :
    Calls Try.prog 35 #[v, .int .i64 x, .int .i64 y, .int .i64 d] w fun e w' => ∃ v', e = .returned (.tuple #[v', .bool b]) ∧ IntsO w.heap.size w'.heap.size w' v' xs ∧ Below w.heap.size w w' := by
  have H := Lib.hid h
  by_cases hn : areFo t = true ∧ hasId t x = true ∧ dayB d = true
  · have HN := Lib.hid hn
    rcases hl : lookP (pathsF t x d) y with _ | p
    · obtain ⟨rfl, rfl⟩ := spRes_none hres hl
      have HL := Lib.hid hl
      clear h hres hn hl
      go_enter Try.func35, Try.ntmps35
      go_wp2_with (first | (go_at_call 65; refine (pathsFrom_any _ t x d _ H.out HN.out).mono ?_; rintro e w1 ⟨M, nn, D, rfl, hMs, hM, ⟨no, hP⟩, b1⟩; have HM := Lib.hid hM; have HP := Lib.hid hP; have s1 := b1.size; clear hM hP; have hlk := look_no HM.out y hy ((HP.out.ik.has_ y).trans (lookP_none.1 HL.out))))
      go_ret2
      exact ⟨_, rfl, ints_nilN _ _ _, b1⟩
    · obtain ⟨rfl, rfl⟩ := spRes_some hres hn hl
      have HL := Lib.hid hl
      clear h hres hn hl
      go_enter Try.func35, Try.ntmps35
      go_wp2_with (first | (go_at_call 65; refine (pathsFrom_any _ t x d _ H.out HN.out).mono ?_; rintro e w1 ⟨M, nn, D, rfl, hMs, hM, ⟨no, hP⟩, b1⟩; have HM := Lib.hid hM; have HP := Lib.hid hP; have s1 := b1.size; clear hM hP; obtain ⟨vp, hvp, hop, hpp, _⟩ := HP.out.look y _ HL.out; obtain ⟨gp, cp, rfl, _⟩ := own_formP hop hpp; have HOP := Lib.hid hop; have hlk := look_ok HM.out y hy hvp; clear hvp hop))
      go_ret2
      exact ⟨_, rfl, ints_rowN HOP.out rfl, b1⟩
  · obtain ⟨rfl, rfl⟩ := spRes_no hres hn
    have HN := Lib.hid hn
    clear h hres hn
    go_enter Try.func35, Try.ntmps35
    go_wp2_with (first | (go_at_call 65; refine (pathsFrom_no _ t x d _ H.out HN.out).mono ?_; rintro e w1 ⟨rfl, b1⟩; have s1 := b1.size; have hlk := look_nilmap w1 y hy true; simp only [if_true] at hlk))
    go_ret2
    exact ⟨_, rfl, ints_nilN _ _ _, b1⟩
end Go.Proofs.Ytcfghigmijibeaa
