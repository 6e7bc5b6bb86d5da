/- A file of which a part is split off: SplitFile, the model's and the program's. -/
import Derived.Test.YtpbjddiopfkgbaaDoorFiC
import Derived.Deep.RegionLaw
import Derived.BigQuiet
namespace Go.Proofs.YtpbjddiopfkgbaaDoor
set_option linter.unusedVariables false
open Go.RowKit Go.Sort

theorem grown_cellF {w w' : World} {g : Nat} {a : Addr} {v : Value} (h : w.grownBy w' (some g)) (hc : w.cell? a = some v) (hne : a.block ≠ g) : w'.cell? a = some v :=
  (World.cell?_of_block (h.block a.block (World.block_lt_of_cell? _ _ hc) (fun e => hne (Option.some.inj e)))).trans hc
theorem new_cells_add (w : World) (cs : List Value) (t : TypeId) {k : Nat} (hk : w.heap.size = k) : ∀ j u, cs[j]? = some u → (w.alloc (.cells cs.toArray t (0, 0))).cell? ((⟨k, 0, none⟩ : Addr).add j) = some u := by
  subst hk
  intro j u hj
  rw [Addr.add_lit]
  exact (blk_cell (heap_alloc_new w _) _).trans (by simpa using hj)
theorem splRes_len {t : List Fi} {x p : Int} {s : ByteArray} {xs : List Fi} {n : Int} {b : Bool} (h : splRes t x p s = (xs, n, b)) : xs.length ≤ t.length + 1 := by
  unfold splRes at h
  split at h
  · obtain ⟨rfl, _⟩ := Prod.mk.inj h; simp
  · split at h
    · obtain ⟨rfl, _⟩ := Prod.mk.inj h; simp [splList]
    · obtain ⟨rfl, _⟩ := Prod.mk.inj h; simp
theorem spl_yes {t : List Fi} {x p : Int} {s : ByteArray} {xs : List Fi} {n : Int} {b : Bool} (h : splRes t x p s = (xs, n, b)) (k : Nat) (hk : findFi t x 0 = (k : Int)) (hpl : placeFi t x 0 = k) (hp : 1 ≤ p ∧ p ≤ (t.getD k fiD).pages - 1) :
    ∀ bm, areFi (splList t k p s) = bm → (bm = true → xs = splList t k p s ∧ n = (t.getD (t.length - 1) fiD).id + 1 ∧ b = true) ∧ (bm = false → xs = [] ∧ n = 0 ∧ b = false) := by
  intro bm hbm
  unfold splRes at h
  rw [if_neg (by rw [hk, hpl]; rintro (q | q); omega; exact q hp), hpl, hbm] at h
  cases bm
  · rw [if_neg (by simp)] at h
    obtain ⟨rfl, h2⟩ := Prod.mk.inj h
    obtain ⟨rfl, rfl⟩ := Prod.mk.inj h2
    exact ⟨(fun e => by cases e), (fun _ => ⟨rfl, rfl, rfl⟩)⟩
  · rw [if_pos rfl] at h
    obtain ⟨rfl, h2⟩ := Prod.mk.inj h
    obtain ⟨rfl, rfl⟩ := Prod.mk.inj h2
    exact ⟨(fun _ => ⟨rfl, rfl, rfl⟩), (fun e => by cases e)⟩

theorem own_form3 {lo e size n : Nat} {w : World} {v : Value} {xs : List Value} (h : w.ownsRow lo e size v n xs) (hn : 0 < n) : ∃ g cap, v = .slice (some ⟨g, 0, none⟩) n cap ∧ lo ≤ g := by
  rcases h.2 with ⟨_, h0⟩ | ⟨g, cap, cur, rfl, hg, _⟩
  · omega
  · exact ⟨g, cap, rfl, hg⟩

set_option maxRecDepth 20000 in
set_option maxHeartbeats 4000000 in
theorem specSplitFile_any (v : Value) (t : List Fi) (x p : Int) (s : ByteArray) (w : World) (h : RowR 7 rFi w v t) (hs : s.size ≤ maxLen) (xs : List Fi) (n : Int) (b : Bool) (hres : splRes t x p s = (xs, n, b)) :
    Calls Tryd.prog 31 #[v, .int .i64 x, .int .i64 p, .string s] w fun e w' => ∃ v', e = .returned (.tuple #[v', .int .i64 n, .bool b]) ∧ FisO w.heap.size w'.heap.size w' v' xs ∧ Below w.heap.size w w' := by
  have H := Lib.hid h
  have hv0 := h
  rcases findFi_cases t x 0 with hk | ⟨k, hkl, hk, hpl, ht, hhit⟩
  · have hh := hres
    unfold splRes at hh
    rw [if_pos (by left; rw [hk]; decide)] at hh
    clear hv0
    obtain ⟨rfl, hh2⟩ := Prod.mk.inj hh
    obtain ⟨rfl, rfl⟩ := Prod.mk.inj hh2
    clear hh2
    have HK := Lib.hid hk
    clear hh hk hres h
    go_enter Tryd.func31, Tryd.ntmps31
    go_wp2_with (first | (go_at_call 52; refine (l5Find_any _ t x 0 _ H.out).mono ?_; rw [HK.out]; rintro e w1 ⟨rfl, b1'⟩; have s1 := b1'.size))
    go_ret3
    exact ⟨_, rfl, FisO.empty _ b1'.size, below_al b1' _⟩
  · obtain ⟨a1, c1, hv, hl1, hm1, r1⟩ := h.fis
    subst hv
    unfold maxLen at hm1
    obtain ⟨b1, o1, hb1, rfl, e1⟩ := r1.resolve_left (fun e => by rw [e] at hkl; simp at hkl)
    have hval := vals ht hkl rfl
    obtain ⟨li, hli⟩ : ∃ z, (t.getD (t.length - 1) fiD).id = z := ⟨_, rfl⟩
    have hvl := vals ht (k := t.length - 1) (by omega) rfl
    have hlr := (isFi_iff.1 hvl).1
    rw [hli] at hlr
    obtain ⟨l0, _⟩ := e1 (t.length - 1) (by omega)
    rw [hli] at l0
    obtain ⟨L, hL⟩ : ∃ L, L = t.length - 1 := ⟨_, rfl⟩
    rw [← hL] at l0
    obtain ⟨⟨x0, x1, x2, x3, x4, x5, x6⟩, hx⟩ : ∃ s, t.getD k fiD = s := ⟨_, rfl⟩
    obtain ⟨q0, q1, q2, q3, q4, q5, q6, hok⟩ := e1 k hkl
    rw [hx] at q0 q1 q2 q3 q4 q5 q6 hok hval
    simp only at q0 q1 q2 q3 q4 q5 q6
    have hn : t.length ≤ 10 := fi_len ht
    have hpg := (isFi_iff.1 hval).2.2.2.2.2.1
    simp only at hpg
    have hwl : IntKind.i64.wrap ((t.length : Int) - 1) = (L : Int) := by rw [Go.IntWalk.i64_in _ (by omega)]; omega
    have hl0 : (0 : Int) ≤ (L : Int) := by omega
    have hl1' : (L : Int) < (t.length : Int) := by omega
    have hw1 : IntKind.i64.wrap (x6 - 1) = x6 - 1 := Go.IntWalk.i64_in _ (by omega)
    have hw2 : IntKind.i64.wrap (li + 1) = li + 1 := Go.IntWalk.i64_in _ (by omega)
    have g0 : (0 : Int) ≤ (k : Int) := by omega
    have g1 : (k : Int) < (t.length : Int) := by omega
    have g3 : decide ((k : Int) < 0) = false := decide_eq_false (by omega)
    clear e1 r1 hL hvl hhit
    by_cases hg : ¬ (1 ≤ p ∧ p ≤ x6 - 1)
    · have hh := hres
      unfold splRes at hh
      rw [hpl, hx, if_pos (.inr hg)] at hh
      have HIN := Lib.hid (decide_eq_false hg)
      clear hx hok hval hli hv0
      obtain ⟨rfl, hh2⟩ := Prod.mk.inj hh
      obtain ⟨rfl, rfl⟩ := Prod.mk.inj hh2
      clear hh2
      have HK := Lib.hid hk
      clear hh hk hres h
      go_enter Tryd.func31, Tryd.ntmps31
      go_wp2_with (first | (go_at_call 52; refine (l5Find_any _ t x 0 _ H.out).mono ?_; rw [HK.out]; rintro e w1 ⟨rfl, b1'⟩; have s1 := b1'.size; have f0 := cell_kept q0 b1'; have f1 := cell_kept q1 b1'; have f2 := cell_kept q2 b1'; have f3 := cell_kept q3 b1'; have f4 := cell_kept q4 b1'; have f5 := cell_kept q5 b1'; have f6 := cell_kept q6 b1') | (go_at_call 70; refine (l1In_any _ _ _ _).mono ?_; rw [HIN.out]; rintro e w' ⟨rfl, hww⟩; subst w'))
      go_ret3
      exact ⟨_, rfl, FisO.empty _ b1'.size, below_al b1' _⟩
    · have hpp : 1 ≤ p ∧ p ≤ x6 - 1 := by omega
      have HIN := Lib.hid (decide_eq_true hpp)
      have hw3 : IntKind.i64.wrap (x6 - p) = x6 - p := Go.IntWalk.i64_in _ (by omega)
      obtain ⟨bm, hbm⟩ : ∃ b, areFi (splList t k p s) = b := ⟨_, rfl⟩
      have hmr := spl_yes hres k hk hpl (by rw [hx]; exact hpp) bm hbm
      have hsl : splList t k p s = t.set k ⟨x0, x1, x2, x3, x4, x5, x6 - p⟩ ++ [⟨li + 1, x1, s, x3, 0, 0, p⟩] := by unfold splList; rw [hx, hli]
      have hokf : Fi.ok ⟨x0, x1, x2, x3, x4, x5, x6 - p⟩ := ⟨hok.1, hok.2.1, hok.2.2.1, hok.2.2.2.1, hok.2.2.2.2.1, hok.2.2.2.2.2.1, by show inI (x6 - p); unfold inI; omega⟩
      have hokn : Fi.ok ⟨li + 1, x1, s, x3, 0, 0, p⟩ := ⟨by show inI (li + 1); unfold inI; omega, hok.2.1, hs, hok.2.2.2.1, by simp [inI], by simp [inI], by show inI p; unfold inI; omega⟩
      have hall : ∀ r ∈ splList t k p s, r.ok := fun r hr => by
        rw [hsl] at hr
        rcases List.mem_append.1 hr with q | q
        · exact set_fi_ok hv0.fis_ok hokf r q
        · rw [List.mem_singleton.1 q]; exact hokn
      have hfl : ((t.map fiC).set k (fiC ⟨x0, x1, x2, x3, x4, x5, x6 - p⟩)).flatten ++ fiC ⟨li + 1, x1, s, x3, 0, 0, p⟩ = ((splList t k p s).map fiC).flatten := by rw [hsl, List.map_append, List.flatten_append, ← List.map_set]; simp
      have hslen : (splList t k p s).length = t.length + 1 := by rw [hsl]; simp
      have hat : ∀ hl, (t.map fiC)[k]'hl = fiC ⟨x0, x1, x2, x3, x4, x5, x6⟩ := fun hl => by rw [List.getElem_map, ← hx, getFi_lt]
      have HAT := Lib.hid hat
      have HFL := Lib.hid hfl
      have HSL := Lib.hid hslen
      have HALL := Lib.hid hall
      have HK := Lib.hid hk
      have HMR := Lib.hid hmr
      have HBM := Lib.hid hbm
      have HL := Lib.hid (List.length_map fiC : (t.map fiC).length = t.length)
      have HC := Lib.hid (fis_cells hv0)
      have HONE := Lib.hid (flat_one fiC_one t)
      have HLEN := Lib.hid (flat_map_len fiC_len t)
      obtain ⟨i0, hi, hz0, hz1, hz2⟩ := info_parts Tryd.info_fi
      have M1 := Lib.hid hkl
      rw [hli] at HMR
      clear hx hok hval hli hv0 hk hres h hg hbm hmr hsl hokf hokn hall hfl hslen hat hpl ht
      cases bm
      · obtain ⟨rfl, rfl, rfl⟩ := HMR.out.2 rfl
        go_enter Tryd.func31, Tryd.ntmps31
        go_wp2_with (first | (go_at_call 71; refine (l5Good_any _ (splList t k p s) _ HF5.out.row).mono ?_; rw [HBM.out]; rintro e w6 ⟨rfl, b6⟩; have s6 := b6.size; have HF6 := Lib.hid (HF5.out.below b6); have hb6 := below_chain (BE3.out.trans (B5.out.mono (by omega))) b6; clear b6) | (at_builtin; have qq := M2; clear M2 qq; have s0 := S0.out; refine wpList_append_own _ rfl _ _ 24 rfl (w1.heap.size + 1) 43 i0 (.agg #[.int .i64 0, .int .i64 0, .string ⟨#[]⟩, .int .i64 0, .int .i64 0, .int .i64 0, .int .i64 0]) 7 64 Tryd.underlying24 hi hz0 hz1 hz2 rfl (by decide) (.slice (some ⟨g, 0, none⟩) t.length cap) t.length (((t.map fiC).set k (fiC ⟨x0, x1, x2, x3, x4, x5, x6 - p⟩)).flatten) rfl (World.ownsRow.alloc (by have := s0.1; rw [List.length_set, HL.out] at this; exact this) _) ⟨w3.heap.size, 0, none⟩ 1 1 (fiC ⟨li + 1, x1, s, x3, 0, 0, p⟩) rfl rfl (new_cells_add _ (fiC ⟨li + 1, x1, s, x3, 0, 0, p⟩) _ (by simp)) (fiC_one _) (by unfold maxLen; omega) (by omega) (by simp; omega) ?_; intro v5 w5 hown5 hgrow5 _; obtain ⟨g5, c5, rfl, hg5⟩ := own_form3 hown5 (by omega); have b5 := below_app B4.out (by omega) (by have := s0.1; rw [List.length_set, HL.out] at this; exact this) hgrow5; rw [HFL.out] at hown5; have HF5 := Lib.hid (show FisO (w1.heap.size + 1) w5.heap.size w5 (.slice (some ⟨g5, 0, none⟩) (t.length + 1) c5) (splList t k p s) from FisO.of_row hown5 HSL.out.symm HALL.out); have B5 := Lib.hid b5; clear s0 hown5 hgrow5 b5) | (at_builtin; have qq := M1; clear M1 qq; generalize hWE : w1.alloc (.cells #[.int .i64 x0, .int .i64 x1, .string x2, .int .i64 x3, .int .i64 x4, .int .i64 x5, .int .i64 (x6 - p)] 43 (0, 0)) = wE; have bE : Below w.heap.size w wE := (by rw [← hWE]; exact below_al b1' _); have z0 : wE.cell? ⟨w1.heap.size, 0, none⟩ = some (.int .i64 x0) := (by rw [← hWE]; exact cell_new w1 _ _ 0 rfl); have z1 : wE.cell? ⟨w1.heap.size, 1, none⟩ = some (.int .i64 x1) := (by rw [← hWE]; exact cell_new w1 _ _ 1 rfl); have z2 : wE.cell? ⟨w1.heap.size, 2, none⟩ = some (.string x2) := (by rw [← hWE]; exact cell_new w1 _ _ 2 rfl); have z3 : wE.cell? ⟨w1.heap.size, 3, none⟩ = some (.int .i64 x3) := (by rw [← hWE]; exact cell_new w1 _ _ 3 rfl); have z4 : wE.cell? ⟨w1.heap.size, 4, none⟩ = some (.int .i64 x4) := (by rw [← hWE]; exact cell_new w1 _ _ 4 rfl); have z5 : wE.cell? ⟨w1.heap.size, 5, none⟩ = some (.int .i64 x5) := (by rw [← hWE]; exact cell_new w1 _ _ 5 rfl); have z6 : wE.cell? ⟨w1.heap.size, 6, none⟩ = some (.int .i64 (x6 - p)) := (by rw [← hWE]; exact cell_new w1 _ _ 6 rfl); have hsz : w1.heap.size + 1 = wE.heap.size := (by rw [← hWE]; simp); clear hWE; try rw [hsz]; refine wpList_append_own _ rfl _ _ 24 rfl (w1.heap.size + 1) 43 i0 (.agg #[.int .i64 0, .int .i64 0, .string ⟨#[]⟩, .int .i64 0, .int .i64 0, .int .i64 0, .int .i64 0]) 7 64 Tryd.underlying24 hi hz0 hz1 hz2 rfl (by decide) (.slice (some ⟨wE.heap.size, 0, none⟩) 0 0) 0 [] rfl (World.ownsRow_made wE #[] 0 (Nat.le_of_eq hsz) (Nat.zero_le _) rfl) ⟨b1, o1, none⟩ t.length c1 ((t.map fiC).flatten) rfl HLEN.out (HC.out _ (below_al bE _)) HONE.out (by unfold maxLen; omega) (by omega) (by simp; omega) ?_; intro v3 w3 hown3 hgrow3 _; have b3 : Below wE.heap.size wE w3 := (below_al (Below.refl _ wE) _).grown hgrow3 (by simp) (fun k hk => Nat.le_of_eq (by simpa [Value.ownBlock] using hk)); have hO : Own (w1.heap.size + 1) 43 7 w3 v3 (t.map fiC) := ⟨by simpa using hown3, fun cs hc => by obtain ⟨y, _, rfl⟩ := List.mem_map.1 hc; rfl⟩; clear hown3 hgrow3; obtain ⟨g, cap, rfl, hg⟩ := hO.some_at (by rw [HL.out]; omega); rw [HL.out] at hO; rw [HL.out]; have y0 := cell_kept z0 b3; have y1 := cell_kept z1 b3; have y2 := cell_kept z2 b3; have y3 := cell_kept z3 b3; have y4 := cell_kept z4 b3; have y5 := cell_kept z5 b3; have y6 := cell_kept z6 b3; have d0 := hO.cell k 0 (by rw [HL.out]; exact hkl) (by omega); have d1 := hO.cell k 1 (by rw [HL.out]; exact hkl) (by omega); have d2 := hO.cell k 2 (by rw [HL.out]; exact hkl) (by omega); have d3 := hO.cell k 3 (by rw [HL.out]; exact hkl) (by omega); have d4 := hO.cell k 4 (by rw [HL.out]; exact hkl) (by omega); have d5 := hO.cell k 5 (by rw [HL.out]; exact hkl) (by omega); have d6 := hO.cell k 6 (by rw [HL.out]; exact hkl) (by omega); have r0 := hO.frozen (k * 7); have r1 := hO.frozen (k * 7 + 1); have r2 := hO.frozen (k * 7 + 2); have r3 := hO.frozen (k * 7 + 3); have r4 := hO.frozen (k * 7 + 4); have r5 := hO.frozen (k * 7 + 5); have r6 := hO.frozen (k * 7 + 6); simp only [HAT.out] at d0 d1 d2 d3 d4 d5 d6; simp [fiC] at d0 d1 d2 d3 d4 d5 d6; obtain ⟨s0, s2⟩ := hO.put k (by rw [HL.out]; exact hkl) (fiC ⟨x0, x1, x2, x3, x4, x5, x6 - p⟩) rfl; have u1 := grown_cellF s2 y1 (by simp; omega); have u3 := grown_cellF s2 y3 (by simp; omega); have hB4 : Below (w1.heap.size + 1) w3 (w3.setCells g (k * 7) (fiC ⟨x0, x1, x2, x3, x4, x5, x6 - p⟩)) := (Below.refl _ w3).grown s2 (by have := b3.size; omega) (fun k hk => by cases hk; exact hg.2.1); have S0 := Lib.hid s0; have B4 := Lib.hid hB4; have BE3 := Lib.hid (below_chain bE b3); have HGE := Lib.hid hg; have hs3 := b3.size; simp only [fiC, World.setCells] at u1 u3; have M2 := Lib.hid hkl; clear hO hg bE b3 z0 z1 z2 z3 z4 z5 z6 s0 s2 hB4) | (go_at_call 52; refine (l5Find_any _ t x 0 _ H.out).mono ?_; rw [HK.out]; rintro e w1 ⟨rfl, b1'⟩; have s1 := b1'.size; have f0 := cell_kept q0 b1'; have f1 := cell_kept q1 b1'; have f2 := cell_kept q2 b1'; have f3 := cell_kept q3 b1'; have f4 := cell_kept q4 b1'; have f5 := cell_kept q5 b1'; have f6 := cell_kept q6 b1'; have l0' := fun o : Obj => below_al_cell (cell_kept l0 b1') o) | (go_at_call 70; refine (l1In_any _ _ _ _).mono ?_; rw [HIN.out]; rintro e w' ⟨rfl, hww⟩; subst w'))
        go_ret3
        exact ⟨_, rfl, FisO.empty _ hb6.size, below_al hb6 _⟩
      · obtain ⟨rfl, rfl, rfl⟩ := HMR.out.1 rfl
        go_enter Tryd.func31, Tryd.ntmps31
        go_wp2_with (first | (go_at_call 71; refine (l5Good_any _ (splList t k p s) _ HF5.out.row).mono ?_; rw [HBM.out]; rintro e w6 ⟨rfl, b6⟩; have s6 := b6.size; have HF6 := Lib.hid (HF5.out.below b6); have hb6 := below_chain (BE3.out.trans (B5.out.mono (by omega))) b6; clear b6) | (at_builtin; have qq := M2; clear M2 qq; have s0 := S0.out; refine wpList_append_own _ rfl _ _ 24 rfl (w1.heap.size + 1) 43 i0 (.agg #[.int .i64 0, .int .i64 0, .string ⟨#[]⟩, .int .i64 0, .int .i64 0, .int .i64 0, .int .i64 0]) 7 64 Tryd.underlying24 hi hz0 hz1 hz2 rfl (by decide) (.slice (some ⟨g, 0, none⟩) t.length cap) t.length (((t.map fiC).set k (fiC ⟨x0, x1, x2, x3, x4, x5, x6 - p⟩)).flatten) rfl (World.ownsRow.alloc (by have := s0.1; rw [List.length_set, HL.out] at this; exact this) _) ⟨w3.heap.size, 0, none⟩ 1 1 (fiC ⟨li + 1, x1, s, x3, 0, 0, p⟩) rfl rfl (new_cells_add _ (fiC ⟨li + 1, x1, s, x3, 0, 0, p⟩) _ (by simp)) (fiC_one _) (by unfold maxLen; omega) (by omega) (by simp; omega) ?_; intro v5 w5 hown5 hgrow5 _; obtain ⟨g5, c5, rfl, hg5⟩ := own_form3 hown5 (by omega); have b5 := below_app B4.out (by omega) (by have := s0.1; rw [List.length_set, HL.out] at this; exact this) hgrow5; rw [HFL.out] at hown5; have HF5 := Lib.hid (show FisO (w1.heap.size + 1) w5.heap.size w5 (.slice (some ⟨g5, 0, none⟩) (t.length + 1) c5) (splList t k p s) from FisO.of_row hown5 HSL.out.symm HALL.out); have B5 := Lib.hid b5; clear s0 hown5 hgrow5 b5) | (at_builtin; have qq := M1; clear M1 qq; generalize hWE : w1.alloc (.cells #[.int .i64 x0, .int .i64 x1, .string x2, .int .i64 x3, .int .i64 x4, .int .i64 x5, .int .i64 (x6 - p)] 43 (0, 0)) = wE; have bE : Below w.heap.size w wE := (by rw [← hWE]; exact below_al b1' _); have z0 : wE.cell? ⟨w1.heap.size, 0, none⟩ = some (.int .i64 x0) := (by rw [← hWE]; exact cell_new w1 _ _ 0 rfl); have z1 : wE.cell? ⟨w1.heap.size, 1, none⟩ = some (.int .i64 x1) := (by rw [← hWE]; exact cell_new w1 _ _ 1 rfl); have z2 : wE.cell? ⟨w1.heap.size, 2, none⟩ = some (.string x2) := (by rw [← hWE]; exact cell_new w1 _ _ 2 rfl); have z3 : wE.cell? ⟨w1.heap.size, 3, none⟩ = some (.int .i64 x3) := (by rw [← hWE]; exact cell_new w1 _ _ 3 rfl); have z4 : wE.cell? ⟨w1.heap.size, 4, none⟩ = some (.int .i64 x4) := (by rw [← hWE]; exact cell_new w1 _ _ 4 rfl); have z5 : wE.cell? ⟨w1.heap.size, 5, none⟩ = some (.int .i64 x5) := (by rw [← hWE]; exact cell_new w1 _ _ 5 rfl); have z6 : wE.cell? ⟨w1.heap.size, 6, none⟩ = some (.int .i64 (x6 - p)) := (by rw [← hWE]; exact cell_new w1 _ _ 6 rfl); have hsz : w1.heap.size + 1 = wE.heap.size := (by rw [← hWE]; simp); clear hWE; try rw [hsz]; refine wpList_append_own _ rfl _ _ 24 rfl (w1.heap.size + 1) 43 i0 (.agg #[.int .i64 0, .int .i64 0, .string ⟨#[]⟩, .int .i64 0, .int .i64 0, .int .i64 0, .int .i64 0]) 7 64 Tryd.underlying24 hi hz0 hz1 hz2 rfl (by decide) (.slice (some ⟨wE.heap.size, 0, none⟩) 0 0) 0 [] rfl (World.ownsRow_made wE #[] 0 (Nat.le_of_eq hsz) (Nat.zero_le _) rfl) ⟨b1, o1, none⟩ t.length c1 ((t.map fiC).flatten) rfl HLEN.out (HC.out _ (below_al bE _)) HONE.out (by unfold maxLen; omega) (by omega) (by simp; omega) ?_; intro v3 w3 hown3 hgrow3 _; have b3 : Below wE.heap.size wE w3 := (below_al (Below.refl _ wE) _).grown hgrow3 (by simp) (fun k hk => Nat.le_of_eq (by simpa [Value.ownBlock] using hk)); have hO : Own (w1.heap.size + 1) 43 7 w3 v3 (t.map fiC) := ⟨by simpa using hown3, fun cs hc => by obtain ⟨y, _, rfl⟩ := List.mem_map.1 hc; rfl⟩; clear hown3 hgrow3; obtain ⟨g, cap, rfl, hg⟩ := hO.some_at (by rw [HL.out]; omega); rw [HL.out] at hO; rw [HL.out]; have y0 := cell_kept z0 b3; have y1 := cell_kept z1 b3; have y2 := cell_kept z2 b3; have y3 := cell_kept z3 b3; have y4 := cell_kept z4 b3; have y5 := cell_kept z5 b3; have y6 := cell_kept z6 b3; have d0 := hO.cell k 0 (by rw [HL.out]; exact hkl) (by omega); have d1 := hO.cell k 1 (by rw [HL.out]; exact hkl) (by omega); have d2 := hO.cell k 2 (by rw [HL.out]; exact hkl) (by omega); have d3 := hO.cell k 3 (by rw [HL.out]; exact hkl) (by omega); have d4 := hO.cell k 4 (by rw [HL.out]; exact hkl) (by omega); have d5 := hO.cell k 5 (by rw [HL.out]; exact hkl) (by omega); have d6 := hO.cell k 6 (by rw [HL.out]; exact hkl) (by omega); have r0 := hO.frozen (k * 7); have r1 := hO.frozen (k * 7 + 1); have r2 := hO.frozen (k * 7 + 2); have r3 := hO.frozen (k * 7 + 3); have r4 := hO.frozen (k * 7 + 4); have r5 := hO.frozen (k * 7 + 5); have r6 := hO.frozen (k * 7 + 6); simp only [HAT.out] at d0 d1 d2 d3 d4 d5 d6; simp [fiC] at d0 d1 d2 d3 d4 d5 d6; obtain ⟨s0, s2⟩ := hO.put k (by rw [HL.out]; exact hkl) (fiC ⟨x0, x1, x2, x3, x4, x5, x6 - p⟩) rfl; have u1 := grown_cellF s2 y1 (by simp; omega); have u3 := grown_cellF s2 y3 (by simp; omega); have hB4 : Below (w1.heap.size + 1) w3 (w3.setCells g (k * 7) (fiC ⟨x0, x1, x2, x3, x4, x5, x6 - p⟩)) := (Below.refl _ w3).grown s2 (by have := b3.size; omega) (fun k hk => by cases hk; exact hg.2.1); have S0 := Lib.hid s0; have B4 := Lib.hid hB4; have BE3 := Lib.hid (below_chain bE b3); have HGE := Lib.hid hg; have hs3 := b3.size; simp only [fiC, World.setCells] at u1 u3; have M2 := Lib.hid hkl; clear hO hg bE b3 z0 z1 z2 z3 z4 z5 z6 s0 s2 hB4) | (go_at_call 52; refine (l5Find_any _ t x 0 _ H.out).mono ?_; rw [HK.out]; rintro e w1 ⟨rfl, b1'⟩; have s1 := b1'.size; have f0 := cell_kept q0 b1'; have f1 := cell_kept q1 b1'; have f2 := cell_kept q2 b1'; have f3 := cell_kept q3 b1'; have f4 := cell_kept q4 b1'; have f5 := cell_kept q5 b1'; have f6 := cell_kept q6 b1'; have l0' := fun o : Obj => below_al_cell (cell_kept l0 b1') o) | (go_at_call 70; refine (l1In_any _ _ _ _).mono ?_; rw [HIN.out]; rintro e w' ⟨rfl, hww⟩; subst w'))
        go_ret3
        exact ⟨_, rfl, HF6.out.wide (by omega) s6, hb6⟩

set_option maxRecDepth 20000 in
set_option maxHeartbeats 4000000 in
theorem implSplitFile_any (v : Value) (t : List Fi) (x p : Int) (s : ByteArray) (w : World) (h : RowR 7 rFi w v t) (hs : s.size ≤ maxLen) (hE : Steps w) (xs : List Fi) (n : Int) (b : Bool) (hres : splRes t x p s = (xs, n, b)) :
    Calls Tryd.prog 30 #[v, .int .i64 x, .int .i64 p, .string s] w fun e w' => ∃ v', e = .returned (.tuple #[v', .int .i64 n, .bool b]) ∧ FisO w.heap.size w'.heap.size w' v' xs ∧ Below w.heap.size w w' := by
  have H := Lib.hid h
  have hv0 := h
  by_cases hf : findFi t x 0 < 0
  · have hh := hres
    unfold splRes at hh
    rw [if_pos (.inl hf)] at hh
    obtain ⟨rfl, hh2⟩ := Prod.mk.inj hh
    obtain ⟨rfl, rfl⟩ := Prod.mk.inj hh2
    have HE := Lib.hid hE
    have HF := Lib.hid hf
    clear hh hh2 hf hres h hE hv0
    go_enter Tryd.func30, Tryd.ntmps30
    go_wp2_with (first | (go_at_call 51; refine (takeStep_no _ t x 0 _ H.out HE.out (by omega) 0 rfl HF.out).mono ?_; rintro e w1 ⟨rfl, b1⟩))
    go_ret3
    exact ⟨_, rfl, FisO.nil _ _ _, b1⟩
  · rcases findFi_cases t x 0 with hk | ⟨k, hkl, hk, hpl, ht, hhit⟩
    · omega
    have hst := (hitFi_iff.1 hhit).2.resolve_left (by omega)
    obtain ⟨⟨x0, x1, x2, x3, x4, x5, x6⟩, hx⟩ : ∃ s, t.getD k fiD = s := ⟨_, rfl⟩
    have hval := vals ht hkl hx
    have hok : Fi.ok ⟨x0, x1, x2, x3, x4, x5, x6⟩ := by rw [← hx, getFi_lt hkl]; exact h.fis_ok _ (List.getElem_mem hkl)
    rw [hx] at hst
    simp only at hst
    subst hst
    have hcl : x4 = 0 := by have := (isFi_iff.1 hval).2.2.2.2.2.2; simpa [closedB] using this
    subst hcl
    obtain ⟨li, hli⟩ : ∃ z, (t.getD (t.length - 1) fiD).id = z := ⟨_, rfl⟩
    have hvl := vals ht (k := t.length - 1) (by omega) rfl
    have hlr := (isFi_iff.1 hvl).1
    rw [hli] at hlr
    have hn : t.length ≤ 10 := fi_len ht
    have hpg := (isFi_iff.1 hval).2.2.2.2.2.1
    simp only at hpg
    obtain ⟨L, hL⟩ : ∃ L, L = t.length - 1 := ⟨_, rfl⟩
    have hLl : L < t.length := by omega
    rw [← hL] at hli
    have hself : t.set k { t.getD k fiD with state := 0 } = t := by
      have : ({ t.getD k fiD with state := 0 } : Fi) = t[k] := by rw [← getFi_lt hkl, hx]
      rw [this, List.set_getElem_self]
    have hwl : IntKind.i64.wrap ((t.length : Int) - 1) = (L : Int) := by rw [Go.IntWalk.i64_in _ (by omega)]; omega
    have hl0 : (0 : Int) ≤ (L : Int) := by omega
    have hl1' : (L : Int) < (t.length : Int) := by omega
    have hw2 : IntKind.i64.wrap (li + 1) = li + 1 := Go.IntWalk.i64_in _ (by omega)
    have HSELF := Lib.hid hself
    have HLE := Lib.hid hL
    have HK := Lib.hid hk
    have HX := Lib.hid hx
    have HLI := Lib.hid hli
    have HE := Lib.hid hE
    have g0 : (0 : Int) ≤ (k : Int) := by omega
    have g1 : (k : Int) < (t.length : Int) := by omega
    clear hvl hhit hL hself
    by_cases hg : ¬ (1 ≤ p ∧ p ≤ x6 - 1)
    · have hh := hres
      unfold splRes at hh
      rw [hpl, hx, if_pos (.inr hg)] at hh
      obtain ⟨rfl, hh2⟩ := Prod.mk.inj hh
      obtain ⟨rfl, rfl⟩ := Prod.mk.inj hh2
      have hcs : p < 1 ∨ (¬ p < 1 ∧ x6 ≤ p) := by omega
      clear hok hk hres h hx hval ht hf hE hh hh2 hg hli hv0 hpl
      rcases hcs with q1 | ⟨q1, q2⟩
      all_goals
        go_enter Tryd.func30, Tryd.ntmps30
        go_wp2_with (first | (go_at_call 51; refine (takeStep_yes _ t x 0 _ H.out HE.out (by omega) 0 rfl 0 rfl k HK.out).mono ?_; rintro e w1 ⟨g, cg, rfl, ho, b1'⟩; rw [HSELF.out] at ho; have hgl := (ho.1.1.lt g rfl).1; have hgw := (ho.1.1.lt g rfl).2; have s1 := b1'.size; have d0 := ho.cellAt k 0 hkl (by omega); rw [HX.out] at d0; simp only [fiC, List.getElem?_cons_zero, Nat.add_zero] at d0; have r0 := ho.1.frozen (k * 7); have d1 := ho.cellAt k 1 hkl (by omega); rw [HX.out] at d1; simp only [fiC, List.getElem?_cons_succ, List.getElem?_cons_zero] at d1; have r1 := ho.1.frozen (k * 7 + 1); have d2 := ho.cellAt k 2 hkl (by omega); rw [HX.out] at d2; simp only [fiC, List.getElem?_cons_succ, List.getElem?_cons_zero] at d2; have r2 := ho.1.frozen (k * 7 + 2); have d3 := ho.cellAt k 3 hkl (by omega); rw [HX.out] at d3; simp only [fiC, List.getElem?_cons_succ, List.getElem?_cons_zero] at d3; have r3 := ho.1.frozen (k * 7 + 3); have d4 := ho.cellAt k 4 hkl (by omega); rw [HX.out] at d4; simp only [fiC, List.getElem?_cons_succ, List.getElem?_cons_zero] at d4; have r4 := ho.1.frozen (k * 7 + 4); have d5 := ho.cellAt k 5 hkl (by omega); rw [HX.out] at d5; simp only [fiC, List.getElem?_cons_succ, List.getElem?_cons_zero] at d5; have r5 := ho.1.frozen (k * 7 + 5); have d6 := ho.cellAt k 6 hkl (by omega); rw [HX.out] at d6; simp only [fiC, List.getElem?_cons_succ, List.getElem?_cons_zero] at d6; have r6 := ho.1.frozen (k * 7 + 6); have l0 := ho.cellAt L 0 hLl (by omega); simp only [fiC, List.getElem?_cons_zero, HLI.out, Nat.add_zero] at l0; have l0a := fun o : Obj => below_al_cell l0 o; have HO := Lib.hid ho; clear ho))
        go_ret3
        exact ⟨_, rfl, FisO.nil _ _ _, b1'⟩
    · have hpp : 1 ≤ p ∧ p ≤ x6 - 1 := by omega
      have q1 : ¬ p < 1 := by omega
      have q2 : ¬ x6 ≤ p := by omega
      have e1 : decide (p < 1) = false := decide_eq_false q1
      have e2 : decide (x6 ≤ p) = false := decide_eq_false q2
      have hw3 : IntKind.i64.wrap (x6 - p) = x6 - p := Go.IntWalk.i64_in _ (by omega)
      obtain ⟨bm, hbm⟩ : ∃ b, areFi (splList t k p s) = b := ⟨_, rfl⟩
      have hmr := spl_yes hres k hk hpl (by rw [hx]; exact hpp) bm hbm
      have hLe : t.length - 1 = L := HLE.out.symm
      rw [hLe, hli] at hmr
      have hsl : splList t k p s = t.set k ⟨x0, x1, x2, x3, 0, 0, x6 - p⟩ ++ [⟨li + 1, x1, s, x3, 0, 0, p⟩] := by unfold splList; rw [hx, hLe, hli]
      have hokf : Fi.ok ⟨x0, x1, x2, x3, 0, 0, x6 - p⟩ := ⟨hok.1, hok.2.1, hok.2.2.1, hok.2.2.2.1, hok.2.2.2.2.1, hok.2.2.2.2.2.1, by show inI (x6 - p); unfold inI; omega⟩
      have hokn : Fi.ok ⟨li + 1, x1, s, x3, 0, 0, p⟩ := ⟨by show inI (li + 1); unfold inI; omega, hok.2.1, hs, hok.2.2.2.1, by simp [inI], by simp [inI], by show inI p; unfold inI; omega⟩
      have hall : ∀ r ∈ splList t k p s, r.ok := fun r hr => by
        rw [hsl] at hr
        rcases List.mem_append.1 hr with q | q
        · exact set_fi_ok hv0.fis_ok hokf r q
        · rw [List.mem_singleton.1 q]; exact hokn
      have hfl : ((t.set k ⟨x0, x1, x2, x3, 0, 0, x6 - p⟩).map fiC).flatten ++ fiC ⟨li + 1, x1, s, x3, 0, 0, p⟩ = ((splList t k p s).map fiC).flatten := by rw [hsl, List.map_append, List.flatten_append]; simp
      have hslen : (splList t k p s).length = t.length + 1 := by rw [hsl]; simp
      have hset : (fiC (t.getD k fiD)).set 6 (.int .i64 (x6 - p)) = fiC ⟨x0, x1, x2, x3, 0, 0, x6 - p⟩ := by rw [hx]; rfl
      have HSET := Lib.hid hset
      have HOKF := Lib.hid hokf
      have HFL := Lib.hid hfl
      have HSL := Lib.hid hslen
      have HALL := Lib.hid hall
      have HMR := Lib.hid hmr
      have HBM := Lib.hid hbm
      obtain ⟨i0, hi, hz0, hz1, hz2⟩ := info_parts Tryd.info_fi
      clear hok hk hres h hx hval ht hf hE hg hli hv0 hpl hbm hmr hsl hokf hokn hall hfl hslen hset hLe
      cases bm
      · obtain ⟨rfl, rfl, rfl⟩ := HMR.out.2 rfl
        go_enter Tryd.func30, Tryd.ntmps30
        go_wp2_with (first | (go_at_call 33; refine (implAreFi_any _ (splList t k p s) _ HF5.out.row).mono ?_; rw [HBM.out]; rintro e w6 ⟨rfl, b6⟩; have s6 := b6.size; have HF6 := Lib.hid (HF5.out.below b6); have hb6 := B5.out.trans (b6.mono B5.out.size); have y6 := cell_kept y5 b6; clear b6) | (at_builtin; skip; obtain ⟨p1, p2⟩ := HO.out.store k 6 hkl (by omega) (.int .i64 (x6 - p)) ⟨x0, x1, x2, x3, 0, 0, x6 - p⟩ HSET.out HOKF.out; have bS := below_al (b1'.setCell (p := ⟨g, k * 7 + 6, none⟩) (by simp; omega) (.int .i64 (x6 - p))) (.cells #[.int .i64 (li + 1), .int .i64 x1, .string s, .int .i64 x3, .int .i64 0, .int .i64 0, .int .i64 p] 43 (0, 0)); have y0 : ((w1.setCell ⟨g, k * 7 + 6, none⟩ (.int .i64 (x6 - p))).alloc (.cells #[.int .i64 (li + 1), .int .i64 x1, .string s, .int .i64 x3, .int .i64 0, .int .i64 0, .int .i64 p] 43 (0, 0))).cell? ⟨w1.heap.size, 0, none⟩ = some (.int .i64 (li + 1)) := (blk_cell (heap_alloc_new' _ _ (by simp)) 0); have hsW : ((w1.setCell ⟨g, k * 7 + 6, none⟩ (.int .i64 (x6 - p))).alloc (.cells #[.int .i64 (li + 1), .int .i64 x1, .string s, .int .i64 x3, .int .i64 0, .int .i64 0, .int .i64 p] 43 (0, 0))).heap.size = w1.heap.size + 1 := (by simp); have hP := p1.1.1.alloc (.cells #[.int .i64 (li + 1), .int .i64 x1, .string s, .int .i64 x3, .int .i64 0, .int .i64 0, .int .i64 p] 43 (0, 0)); rw [List.length_map, List.length_set] at hP; generalize ((w1.setCell ⟨g, k * 7 + 6, none⟩ (.int .i64 (x6 - p))).alloc (.cells #[.int .i64 (li + 1), .int .i64 x1, .string s, .int .i64 x3, .int .i64 0, .int .i64 0, .int .i64 p] 43 (0, 0))) = WS at *; refine wpList_append_own _ rfl _ _ 24 rfl w.heap.size 43 i0 (.agg #[.int .i64 0, .int .i64 0, .string ⟨#[]⟩, .int .i64 0, .int .i64 0, .int .i64 0, .int .i64 0]) 7 64 Tryd.underlying24 hi hz0 hz1 hz2 rfl (by decide) (.slice (some ⟨g, 0, none⟩) t.length cg) t.length (((t.set k ⟨x0, x1, x2, x3, 0, 0, x6 - p⟩).map fiC).flatten) rfl (hP.alloc _) ⟨w1.heap.size + 1, 0, none⟩ 1 1 (fiC ⟨li + 1, x1, s, x3, 0, 0, p⟩) rfl rfl (new_cells_add _ (fiC ⟨li + 1, x1, s, x3, 0, 0, p⟩) _ hsW) (fiC_one _) (by unfold maxLen; omega) (by omega) (by simp; omega) ?_; intro v5 w5 hown5 hgrow5 _; obtain ⟨g5, c5, rfl, hg5⟩ := own_form3 hown5 (by omega); have b5 := below_app bS (Nat.le_refl _) hP hgrow5; rw [HFL.out] at hown5; have HF5 := Lib.hid (show FisO w.heap.size w5.heap.size w5 (.slice (some ⟨g5, 0, none⟩) (t.length + 1) c5) (splList t k p s) from FisO.of_row hown5 HSL.out.symm HALL.out); have y5 := grown_cellF hgrow5 (below_al_cell y0 _) (by simp; omega); have B5 := Lib.hid b5; clear p1 p2 hP hown5 hgrow5 b5 bS) | (go_at_call 51; refine (takeStep_yes _ t x 0 _ H.out HE.out (by omega) 0 rfl 0 rfl k HK.out).mono ?_; rintro e w1 ⟨g, cg, rfl, ho, b1'⟩; rw [HSELF.out] at ho; have hgl := (ho.1.1.lt g rfl).1; have hgw := (ho.1.1.lt g rfl).2; have s1 := b1'.size; have d0 := ho.cellAt k 0 hkl (by omega); rw [HX.out] at d0; simp only [fiC, List.getElem?_cons_zero, Nat.add_zero] at d0; have r0 := ho.1.frozen (k * 7); have d1 := ho.cellAt k 1 hkl (by omega); rw [HX.out] at d1; simp only [fiC, List.getElem?_cons_succ, List.getElem?_cons_zero] at d1; have r1 := ho.1.frozen (k * 7 + 1); have d2 := ho.cellAt k 2 hkl (by omega); rw [HX.out] at d2; simp only [fiC, List.getElem?_cons_succ, List.getElem?_cons_zero] at d2; have r2 := ho.1.frozen (k * 7 + 2); have d3 := ho.cellAt k 3 hkl (by omega); rw [HX.out] at d3; simp only [fiC, List.getElem?_cons_succ, List.getElem?_cons_zero] at d3; have r3 := ho.1.frozen (k * 7 + 3); have d4 := ho.cellAt k 4 hkl (by omega); rw [HX.out] at d4; simp only [fiC, List.getElem?_cons_succ, List.getElem?_cons_zero] at d4; have r4 := ho.1.frozen (k * 7 + 4); have d5 := ho.cellAt k 5 hkl (by omega); rw [HX.out] at d5; simp only [fiC, List.getElem?_cons_succ, List.getElem?_cons_zero] at d5; have r5 := ho.1.frozen (k * 7 + 5); have d6 := ho.cellAt k 6 hkl (by omega); rw [HX.out] at d6; simp only [fiC, List.getElem?_cons_succ, List.getElem?_cons_zero] at d6; have r6 := ho.1.frozen (k * 7 + 6); have l0 := ho.cellAt L 0 hLl (by omega); simp only [fiC, List.getElem?_cons_zero, HLI.out, Nat.add_zero] at l0; have l0a := fun o : Obj => below_al_cell l0 o; have HO := Lib.hid ho; clear ho))
        go_ret3
        exact ⟨_, rfl, FisO.nil _ _ _, hb6⟩
      · obtain ⟨rfl, rfl, rfl⟩ := HMR.out.1 rfl
        go_enter Tryd.func30, Tryd.ntmps30
        go_wp2_with (first | (go_at_call 33; refine (implAreFi_any _ (splList t k p s) _ HF5.out.row).mono ?_; rw [HBM.out]; rintro e w6 ⟨rfl, b6⟩; have s6 := b6.size; have HF6 := Lib.hid (HF5.out.below b6); have hb6 := B5.out.trans (b6.mono B5.out.size); have y6 := cell_kept y5 b6; clear b6) | (at_builtin; skip; obtain ⟨p1, p2⟩ := HO.out.store k 6 hkl (by omega) (.int .i64 (x6 - p)) ⟨x0, x1, x2, x3, 0, 0, x6 - p⟩ HSET.out HOKF.out; have bS := below_al (b1'.setCell (p := ⟨g, k * 7 + 6, none⟩) (by simp; omega) (.int .i64 (x6 - p))) (.cells #[.int .i64 (li + 1), .int .i64 x1, .string s, .int .i64 x3, .int .i64 0, .int .i64 0, .int .i64 p] 43 (0, 0)); have y0 : ((w1.setCell ⟨g, k * 7 + 6, none⟩ (.int .i64 (x6 - p))).alloc (.cells #[.int .i64 (li + 1), .int .i64 x1, .string s, .int .i64 x3, .int .i64 0, .int .i64 0, .int .i64 p] 43 (0, 0))).cell? ⟨w1.heap.size, 0, none⟩ = some (.int .i64 (li + 1)) := (blk_cell (heap_alloc_new' _ _ (by simp)) 0); have hsW : ((w1.setCell ⟨g, k * 7 + 6, none⟩ (.int .i64 (x6 - p))).alloc (.cells #[.int .i64 (li + 1), .int .i64 x1, .string s, .int .i64 x3, .int .i64 0, .int .i64 0, .int .i64 p] 43 (0, 0))).heap.size = w1.heap.size + 1 := (by simp); have hP := p1.1.1.alloc (.cells #[.int .i64 (li + 1), .int .i64 x1, .string s, .int .i64 x3, .int .i64 0, .int .i64 0, .int .i64 p] 43 (0, 0)); rw [List.length_map, List.length_set] at hP; generalize ((w1.setCell ⟨g, k * 7 + 6, none⟩ (.int .i64 (x6 - p))).alloc (.cells #[.int .i64 (li + 1), .int .i64 x1, .string s, .int .i64 x3, .int .i64 0, .int .i64 0, .int .i64 p] 43 (0, 0))) = WS at *; refine wpList_append_own _ rfl _ _ 24 rfl w.heap.size 43 i0 (.agg #[.int .i64 0, .int .i64 0, .string ⟨#[]⟩, .int .i64 0, .int .i64 0, .int .i64 0, .int .i64 0]) 7 64 Tryd.underlying24 hi hz0 hz1 hz2 rfl (by decide) (.slice (some ⟨g, 0, none⟩) t.length cg) t.length (((t.set k ⟨x0, x1, x2, x3, 0, 0, x6 - p⟩).map fiC).flatten) rfl (hP.alloc _) ⟨w1.heap.size + 1, 0, none⟩ 1 1 (fiC ⟨li + 1, x1, s, x3, 0, 0, p⟩) rfl rfl (new_cells_add _ (fiC ⟨li + 1, x1, s, x3, 0, 0, p⟩) _ hsW) (fiC_one _) (by unfold maxLen; omega) (by omega) (by simp; omega) ?_; intro v5 w5 hown5 hgrow5 _; obtain ⟨g5, c5, rfl, hg5⟩ := own_form3 hown5 (by omega); have b5 := below_app bS (Nat.le_refl _) hP hgrow5; rw [HFL.out] at hown5; have HF5 := Lib.hid (show FisO w.heap.size w5.heap.size w5 (.slice (some ⟨g5, 0, none⟩) (t.length + 1) c5) (splList t k p s) from FisO.of_row hown5 HSL.out.symm HALL.out); have y5 := grown_cellF hgrow5 (below_al_cell y0 _) (by simp; omega); have B5 := Lib.hid b5; clear p1 p2 hP hown5 hgrow5 b5 bS) | (go_at_call 51; refine (takeStep_yes _ t x 0 _ H.out HE.out (by omega) 0 rfl 0 rfl k HK.out).mono ?_; rintro e w1 ⟨g, cg, rfl, ho, b1'⟩; rw [HSELF.out] at ho; have hgl := (ho.1.1.lt g rfl).1; have hgw := (ho.1.1.lt g rfl).2; have s1 := b1'.size; have d0 := ho.cellAt k 0 hkl (by omega); rw [HX.out] at d0; simp only [fiC, List.getElem?_cons_zero, Nat.add_zero] at d0; have r0 := ho.1.frozen (k * 7); have d1 := ho.cellAt k 1 hkl (by omega); rw [HX.out] at d1; simp only [fiC, List.getElem?_cons_succ, List.getElem?_cons_zero] at d1; have r1 := ho.1.frozen (k * 7 + 1); have d2 := ho.cellAt k 2 hkl (by omega); rw [HX.out] at d2; simp only [fiC, List.getElem?_cons_succ, List.getElem?_cons_zero] at d2; have r2 := ho.1.frozen (k * 7 + 2); have d3 := ho.cellAt k 3 hkl (by omega); rw [HX.out] at d3; simp only [fiC, List.getElem?_cons_succ, List.getElem?_cons_zero] at d3; have r3 := ho.1.frozen (k * 7 + 3); have d4 := ho.cellAt k 4 hkl (by omega); rw [HX.out] at d4; simp only [fiC, List.getElem?_cons_succ, List.getElem?_cons_zero] at d4; have r4 := ho.1.frozen (k * 7 + 4); have d5 := ho.cellAt k 5 hkl (by omega); rw [HX.out] at d5; simp only [fiC, List.getElem?_cons_succ, List.getElem?_cons_zero] at d5; have r5 := ho.1.frozen (k * 7 + 5); have d6 := ho.cellAt k 6 hkl (by omega); rw [HX.out] at d6; simp only [fiC, List.getElem?_cons_succ, List.getElem?_cons_zero] at d6; have r6 := ho.1.frozen (k * 7 + 6); have l0 := ho.cellAt L 0 hLl (by omega); simp only [fiC, List.getElem?_cons_zero, HLI.out, Nat.add_zero] at l0; have l0a := fun o : Obj => below_al_cell l0 o; have HO := Lib.hid ho; clear ho))
        go_quiet (fail)
        go_wp2_with fail
        go_ret3
        exact ⟨_, rfl, HF6.out.wide (Nat.le_refl _) s6, below_drewN hb6 _⟩
end Go.Proofs.YtpbjddiopfkgbaaDoor
