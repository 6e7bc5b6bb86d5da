/- A list in which a clerk is replaced: the model's l11With, the program's putClerk. -/
import Derived.Test.YtalaegkfkjpmoaaCkS
import Derived.Deep.RegionLaw
namespace Go.Proofs.Ytalaegkfkjpmoaa
set_option linter.unusedVariables false
open Go.RowKit Go.Sort

theorem withCk_yes {t : List Ck} {P : Nat} {f : Ck} {xs : List Ck} {b : Bool} (h : withCk t P f = (xs, b)) : ∀ bm, areCk (t.set P f) = bm → (bm = true → xs = t.set P f ∧ b = true) ∧ (bm = false → xs = [] ∧ b = false) := by
  intro bm hbm
  unfold withCk at h
  rw [hbm] at h
  cases bm
  · rw [if_neg (by simp)] at h
    obtain ⟨rfl, rfl⟩ := Prod.mk.inj h
    exact ⟨(fun e => by cases e), (fun _ => ⟨rfl, rfl⟩)⟩
  · rw [if_pos rfl] at h
    obtain ⟨rfl, rfl⟩ := Prod.mk.inj h
    exact ⟨(fun _ => ⟨rfl, rfl⟩), (fun e => by cases e)⟩
theorem set_ck_ok {t : List Ck} {P : Nat} {f : Ck} (h : ∀ r ∈ t, r.ok) (hf : f.ok) : ∀ r ∈ t.set P f, r.ok := fun r hr => (List.mem_or_eq_of_mem_set hr).elim (h r) (fun e => e ▸ hf)

set_option maxRecDepth 20000 in
set_option maxHeartbeats 4000000 in
theorem l11With_any (v : Value) (t : List Ck) (P : Nat) (f : Ck) (w : World) (h : RowR 6 rCk w v t) (hpl : P < t.length) (hn : t.length ≤ 1048576) (hf : f.ok) (xs : List Ck) (b : Bool) (hres : withCk t P f = (xs, b)) :
    Calls Try.prog 111 #[v, .int .i64 P, .agg #[.int .i64 f.id, .string f.name, .int .i64 f.rights, .int .i64 f.frm, .int .i64 f.til, .int .i64 f.stands]] w fun e w' => ∃ v', e = .returned (.tuple #[v', .bool b]) ∧ CksO w.heap.size w'.heap.size w' v' xs ∧ Below w.heap.size w w' := by
  obtain ⟨x0, x1, x2, x3, x4, x5⟩ := f
  simp only
  obtain ⟨i0, hi, hz0, hz1, hz2⟩ := info_parts Try.info_ck
  have hok := h.cks_ok
  obtain ⟨bm, hbm⟩ : ∃ b, areCk (t.set P ⟨x0, x1, x2, x3, x4, x5⟩) = b := ⟨_, rfl⟩
  have hmr := withCk_yes hres bm hbm
  have hmo := set_ck_ok (P := P) hok hf
  have hset : (t.map ckC).set P (ckC ⟨x0, x1, x2, x3, x4, x5⟩) = (t.set P ⟨x0, x1, x2, x3, x4, x5⟩).map ckC := by rw [List.map_set]
  have HROW := Lib.hid h
  have hcks := h.cks
  obtain ⟨ad, c1, rfl, hl1, hm1, r1⟩ := hcks
  obtain ⟨b1, o1, hb1, rfl, _⟩ := r1.resolve_left (fun e => by rw [e] at hpl; simp at hpl)
  have HC := Lib.hid (cks_cells h)
  have HONE := Lib.hid (flat_one ckC_one t)
  have HLEN := Lib.hid (flat_map_len ckC_len t)
  obtain ⟨⟨z0, z1, z2, z3, z4, z5⟩, hx⟩ : ∃ s, t.getD P ckD = s := ⟨_, rfl⟩
  have hat : ∀ hl, (t.map ckC)[P]'hl = ckC ⟨z0, z1, z2, z3, z4, z5⟩ := fun hl => by rw [List.getElem_map, ← hx, getCk_lt]
  have hlen2 : (t.map ckC).length = t.length := List.length_map _
  have HMR := Lib.hid hmr
  have HMO := Lib.hid hmo
  have HSET := Lib.hid hset
  have HAT := Lib.hid hat
  have HBM := Lib.hid hbm
  have HL := Lib.hid hlen2
  have g0 : (0 : Int) ≤ (P : Int) := by omega
  have g1 : (P : Int) < (t.length : Int) := by omega
  unfold maxLen at hm1
  clear hok hmr hmo hset hat hbm hx hlen2 h r1 hres hf
  cases bm
  · obtain ⟨rfl, rfl⟩ := HMR.out.2 rfl
    go_enter Try.func111, Try.ntmps111
    go_wp2_with (first | (go_at_call 99; obtain ⟨s0, s2⟩ := HO.out.put P (by rw [HL.out]; exact hpl) (ckC ⟨x0, x1, x2, x3, x4, x5⟩) rfl; have hb4 := B3.out.grown s2 B3.out.size (fun k hk => by cases hk; exact (by have := HGE.out; omega)); rw [HSET.out] at s0; have HF := Lib.hid (show CksO w.heap.size _ _ (.slice (some ⟨g, 0, none⟩) t.length cap) (t.set P ⟨x0, x1, x2, x3, x4, x5⟩) from ⟨s0.lower (Nat.le_succ _), HMO.out, s0.under⟩); have HB4 := Lib.hid hb4; clear s0 s2 hb4 HO d0 r0 y0 d1 r1 y1 d2 r2 y2 d3 r3 y3 d4 r4 y4 d5 r5 y5; refine (l11Good_any _ (t.set P ⟨x0, x1, x2, x3, x4, x5⟩) _ HF.out.row).mono ?_; rw [HBM.out]; rintro e w5 ⟨rfl, b5⟩; have hb5 := HB4.out.trans (b5.mono HB4.out.size); have HF5 := Lib.hid (HF.out.below b5); have s5 := b5.size; clear b5 HB4 HF) | (at_builtin; generalize hWE : w.alloc (.cells #[.int .i64 x0, .string x1, .int .i64 x2, .int .i64 x3, .int .i64 x4, .int .i64 x5] 65 (0, 0)) = wE; have bE : Below w.heap.size w wE := (by rw [← hWE]; exact below_al (Below.refl _ _) _); have z0' : wE.cell? ⟨w.heap.size, 0, none⟩ = some (.int .i64 x0) := (by rw [← hWE]; exact cell_new w _ _ 0 rfl); have z1' : wE.cell? ⟨w.heap.size, 1, none⟩ = some (.string x1) := (by rw [← hWE]; exact cell_new w _ _ 1 rfl); have z2' : wE.cell? ⟨w.heap.size, 2, none⟩ = some (.int .i64 x2) := (by rw [← hWE]; exact cell_new w _ _ 2 rfl); have z3' : wE.cell? ⟨w.heap.size, 3, none⟩ = some (.int .i64 x3) := (by rw [← hWE]; exact cell_new w _ _ 3 rfl); have z4' : wE.cell? ⟨w.heap.size, 4, none⟩ = some (.int .i64 x4) := (by rw [← hWE]; exact cell_new w _ _ 4 rfl); have z5' : wE.cell? ⟨w.heap.size, 5, none⟩ = some (.int .i64 x5) := (by rw [← hWE]; exact cell_new w _ _ 5 rfl); have hsz : w.heap.size + 1 = wE.heap.size := (by rw [← hWE]; simp); clear hWE; try rw [hsz]; refine wpList_append_own _ rfl _ _ 59 rfl (w.heap.size + 1) 65 i0 (.agg #[.int .i64 0, .string ⟨#[]⟩, .int .i64 0, .int .i64 0, .int .i64 0, .int .i64 0]) 6 56 Try.underlying59 hi hz0 hz1 hz2 rfl (by decide) (.slice (some ⟨wE.heap.size, 0, none⟩) 0 0) 0 [] rfl (World.ownsRow_made wE #[] 0 (Nat.le_of_eq hsz) (Nat.zero_le _) rfl) ⟨b1, o1, none⟩ t.length c1 ((t.map ckC).flatten) rfl HLEN.out (HC.out _ (below_al bE _)) HONE.out (by unfold maxLen; omega) (by omega) (by simp; omega) ?_; intro v3 w3 hown3 hgrow3 _; have b3 : Below wE.heap.size wE w3 := (below_al (Below.refl _ wE) _).grown hgrow3 (by simp) (fun k hk => Nat.le_of_eq (by simpa [Value.ownBlock] using hk)); have hO : Own (w.heap.size + 1) 65 6 w3 v3 (t.map ckC) := ⟨by simpa using hown3, fun cs hc => by obtain ⟨y, _, rfl⟩ := List.mem_map.1 hc; rfl⟩; clear hown3 hgrow3; obtain ⟨g, cap, rfl, hg⟩ := hO.some_at (by rw [HL.out]; omega); rw [HL.out] at hO; rw [HL.out]; have y0 := cell_kept z0' b3; have y1 := cell_kept z1' b3; have y2 := cell_kept z2' b3; have y3 := cell_kept z3' b3; have y4 := cell_kept z4' b3; have y5 := cell_kept z5' b3; have d0 := hO.cell P 0 (by rw [HL.out]; exact hpl) (by omega); have d1 := hO.cell P 1 (by rw [HL.out]; exact hpl) (by omega); have d2 := hO.cell P 2 (by rw [HL.out]; exact hpl) (by omega); have d3 := hO.cell P 3 (by rw [HL.out]; exact hpl) (by omega); have d4 := hO.cell P 4 (by rw [HL.out]; exact hpl) (by omega); have d5 := hO.cell P 5 (by rw [HL.out]; exact hpl) (by omega); have r0 := hO.frozen (P * 6); have r1 := hO.frozen (P * 6 + 1); have r2 := hO.frozen (P * 6 + 2); have r3 := hO.frozen (P * 6 + 3); have r4 := hO.frozen (P * 6 + 4); have r5 := hO.frozen (P * 6 + 5); simp only [HAT.out] at d0 d1 d2 d3 d4 d5; simp [ckC] at d0 d1 d2 d3 d4 d5; have B3 := Lib.hid (below_chain bE b3); have HO := Lib.hid hO; have HGE := Lib.hid hg; clear hO hg bE b3 z0' z1' z2' z3' z4' z5'))
    go_ret2
    exact ⟨_, rfl, CksO.empty _ hb5.size, below_al hb5 _⟩
  · obtain ⟨rfl, rfl⟩ := HMR.out.1 rfl
    go_enter Try.func111, Try.ntmps111
    go_wp2_with (first | (go_at_call 99; obtain ⟨s0, s2⟩ := HO.out.put P (by rw [HL.out]; exact hpl) (ckC ⟨x0, x1, x2, x3, x4, x5⟩) rfl; have hb4 := B3.out.grown s2 B3.out.size (fun k hk => by cases hk; exact (by have := HGE.out; omega)); rw [HSET.out] at s0; have HF := Lib.hid (show CksO w.heap.size _ _ (.slice (some ⟨g, 0, none⟩) t.length cap) (t.set P ⟨x0, x1, x2, x3, x4, x5⟩) from ⟨s0.lower (Nat.le_succ _), HMO.out, s0.under⟩); have HB4 := Lib.hid hb4; clear s0 s2 hb4 HO d0 r0 y0 d1 r1 y1 d2 r2 y2 d3 r3 y3 d4 r4 y4 d5 r5 y5; refine (l11Good_any _ (t.set P ⟨x0, x1, x2, x3, x4, x5⟩) _ HF.out.row).mono ?_; rw [HBM.out]; rintro e w5 ⟨rfl, b5⟩; have hb5 := HB4.out.trans (b5.mono HB4.out.size); have HF5 := Lib.hid (HF.out.below b5); have s5 := b5.size; clear b5 HB4 HF) | (at_builtin; generalize hWE : w.alloc (.cells #[.int .i64 x0, .string x1, .int .i64 x2, .int .i64 x3, .int .i64 x4, .int .i64 x5] 65 (0, 0)) = wE; have bE : Below w.heap.size w wE := (by rw [← hWE]; exact below_al (Below.refl _ _) _); have z0' : wE.cell? ⟨w.heap.size, 0, none⟩ = some (.int .i64 x0) := (by rw [← hWE]; exact cell_new w _ _ 0 rfl); have z1' : wE.cell? ⟨w.heap.size, 1, none⟩ = some (.string x1) := (by rw [← hWE]; exact cell_new w _ _ 1 rfl); have z2' : wE.cell? ⟨w.heap.size, 2, none⟩ = some (.int .i64 x2) := (by rw [← hWE]; exact cell_new w _ _ 2 rfl); have z3' : wE.cell? ⟨w.heap.size, 3, none⟩ = some (.int .i64 x3) := (by rw [← hWE]; exact cell_new w _ _ 3 rfl); have z4' : wE.cell? ⟨w.heap.size, 4, none⟩ = some (.int .i64 x4) := (by rw [← hWE]; exact cell_new w _ _ 4 rfl); have z5' : wE.cell? ⟨w.heap.size, 5, none⟩ = some (.int .i64 x5) := (by rw [← hWE]; exact cell_new w _ _ 5 rfl); have hsz : w.heap.size + 1 = wE.heap.size := (by rw [← hWE]; simp); clear hWE; try rw [hsz]; refine wpList_append_own _ rfl _ _ 59 rfl (w.heap.size + 1) 65 i0 (.agg #[.int .i64 0, .string ⟨#[]⟩, .int .i64 0, .int .i64 0, .int .i64 0, .int .i64 0]) 6 56 Try.underlying59 hi hz0 hz1 hz2 rfl (by decide) (.slice (some ⟨wE.heap.size, 0, none⟩) 0 0) 0 [] rfl (World.ownsRow_made wE #[] 0 (Nat.le_of_eq hsz) (Nat.zero_le _) rfl) ⟨b1, o1, none⟩ t.length c1 ((t.map ckC).flatten) rfl HLEN.out (HC.out _ (below_al bE _)) HONE.out (by unfold maxLen; omega) (by omega) (by simp; omega) ?_; intro v3 w3 hown3 hgrow3 _; have b3 : Below wE.heap.size wE w3 := (below_al (Below.refl _ wE) _).grown hgrow3 (by simp) (fun k hk => Nat.le_of_eq (by simpa [Value.ownBlock] using hk)); have hO : Own (w.heap.size + 1) 65 6 w3 v3 (t.map ckC) := ⟨by simpa using hown3, fun cs hc => by obtain ⟨y, _, rfl⟩ := List.mem_map.1 hc; rfl⟩; clear hown3 hgrow3; obtain ⟨g, cap, rfl, hg⟩ := hO.some_at (by rw [HL.out]; omega); rw [HL.out] at hO; rw [HL.out]; have y0 := cell_kept z0' b3; have y1 := cell_kept z1' b3; have y2 := cell_kept z2' b3; have y3 := cell_kept z3' b3; have y4 := cell_kept z4' b3; have y5 := cell_kept z5' b3; have d0 := hO.cell P 0 (by rw [HL.out]; exact hpl) (by omega); have d1 := hO.cell P 1 (by rw [HL.out]; exact hpl) (by omega); have d2 := hO.cell P 2 (by rw [HL.out]; exact hpl) (by omega); have d3 := hO.cell P 3 (by rw [HL.out]; exact hpl) (by omega); have d4 := hO.cell P 4 (by rw [HL.out]; exact hpl) (by omega); have d5 := hO.cell P 5 (by rw [HL.out]; exact hpl) (by omega); have r0 := hO.frozen (P * 6); have r1 := hO.frozen (P * 6 + 1); have r2 := hO.frozen (P * 6 + 2); have r3 := hO.frozen (P * 6 + 3); have r4 := hO.frozen (P * 6 + 4); have r5 := hO.frozen (P * 6 + 5); simp only [HAT.out] at d0 d1 d2 d3 d4 d5; simp [ckC] at d0 d1 d2 d3 d4 d5; have B3 := Lib.hid (below_chain bE b3); have HO := Lib.hid hO; have HGE := Lib.hid hg; clear hO hg bE b3 z0' z1' z2' z3' z4' z5'))
    go_ret2
    exact ⟨_, rfl, HF5.out.wide (Nat.le_refl _) s5, hb5⟩

end Go.Proofs.Ytalaegkfkjpmoaa
