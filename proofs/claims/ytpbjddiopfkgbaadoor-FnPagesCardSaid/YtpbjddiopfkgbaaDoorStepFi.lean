/- A step of a file: the program's takeStep. -/
import Derived.Test.YtpbjddiopfkgbaaDoorPlaceFi
import Derived.Test.YtpbjddiopfkgbaaDoorCloneFi
namespace Go.Proofs.YtpbjddiopfkgbaaDoor
set_option linter.unusedVariables false
open Go.RowKit Go.Sort

/-- The table of steps, where it lies. -/
def stepTab : List Int := [0, 0, 0, 1, 1, 0, 1, 2, 2, 1]
def Steps (w : World) : Prop := ∀ i (h : i < stepTab.length), w.cell? ⟨0, i, none⟩ = some (.int .i64 stepTab[i])
theorem Steps.later {w w' : World} (h : Steps w) (hb : Below w.heap.size w w') : Steps w' := fun i hi => cell_kept (h i hi) hb
/-- One cell of one file is stored. -/
theorem FisO.store {lo hi : Nat} {w : World} {g n c : Nat} {t : List Fi} (h : FisO lo hi w (.slice (some ⟨g, 0, none⟩) n c) t) (i j : Nat) (hi' : i < t.length) (hj : j < 7) (u : Value) (f : Fi) (hf : (fiC (t.getD i fiD)).set j u = fiC f) (hok : f.ok) :
    FisO lo hi (w.setCell ⟨g, i * 7 + j, none⟩ u) (.slice (some ⟨g, 0, none⟩) n c) (t.set i f) ∧ w.grownBy (w.setCell ⟨g, i * 7 + j, none⟩ u) (some g) := by
  obtain ⟨h1, h2⟩ := h.1.stored i j (by rw [List.length_map]; exact hi') hj u
  rw [List.getElem_map, ← getFi_lt hi', hf, ← List.map_set] at h1
  exact ⟨⟨h1, fun r hr => (List.mem_or_eq_of_mem_set hr).elim (h.2.1 r) (fun e => e ▸ hok), h.2.2⟩, h2⟩
theorem FisO.at_some {lo hi : Nat} {w : World} {v : Value} {t : List Fi} (h : FisO lo hi w v t) (hn : 0 < t.length) : ∃ g c, v = .slice (some ⟨g, 0, none⟩) t.length c ∧ g < w.heap.size ∧ lo ≤ g := by
  rcases h.1.form with ⟨_, e⟩ | ⟨g, cap, h1, h2, h3, _⟩
  · rw [List.map_eq_nil_iff] at e; subst e; simp at hn
  · rw [List.length_map] at h1; exact ⟨g, cap, h1, h3, h2⟩
theorem getI_lt {l : List Int} {i : Nat} (h : i < l.length) {d : Int} : l.getD i d = l[i] := by simp [List.getD, List.getElem?_eq_getElem h]
theorem FisO.cellAt {lo hi : Nat} {w : World} {g n c : Nat} {t : List Fi} (h : FisO lo hi w (.slice (some ⟨g, 0, none⟩) n c) t) (i j : Nat) (hi' : i < t.length) (hj : j < 7) : w.cell? ⟨g, i * 7 + j, none⟩ = (fiC (t.getD i fiD))[j]? := by
  have := h.1.cell i j (by rw [List.length_map]; exact hi') hj
  rwa [List.getElem_map, ← getFi_lt hi'] at this

set_option maxRecDepth 20000 in
set_option maxHeartbeats 1000000 in
theorem takeStep_no (v : Value) (t : List Fi) (x : Int) (s : Nat) (w : World) (h : RowR 7 rFi w v t) (hE : Steps w) (hs : s < 5) (fr : Int) (hfr : stepTab.getD (s * 2) 9 = fr) (hf : findFi t x fr < 0) :
    Calls Tryd.prog 51 #[v, .int .i64 x, .int .i64 s] w fun e w' => e = .returned (.tuple #[.slice none 0 0, .int .i64 0, .bool false]) ∧ Below w.heap.size w w' := by
  have H := Lib.hid h
  obtain ⟨a1, c1, hv, hl1, hm1, r1⟩ := h.fis
  subst hv
  have R1 := Lib.hid r1
  unfold maxLen at hm1
  have hc0 := hE (s * 2) (by simp [stepTab]; omega)
  rw [← getI_lt (by simp [stepTab]; omega), hfr] at hc0
  clear h r1 hfr
  have g0 : (0 : Int) ≤ (s : Int) := by omega
  have g1 : (s : Int) < 5 := by omega
  obtain ⟨bt, ht⟩ : ∃ b, areFi t = b := ⟨_, rfl⟩
  cases bt
  · have HT := Lib.hid ht
    clear ht hf
    go_enter Tryd.func51, Tryd.ntmps51
    go_wp2_with (first | (go_at_call 60; refine (placeFi_no _ t x _ H.out HT.out).mono ?_; rintro e w1 ⟨rfl, b1⟩))
    go_quiet (fail)
    go_wp2_with fail
    go_ret3
    exact ⟨rfl, below_drewN b1 _⟩
  · rcases fid_cases t x with ⟨hk, hno⟩ | ⟨k, hk, hkl, hid⟩
    · have HT := Lib.hid ht
      have HK := Lib.hid hk
      clear ht hf hk hno
      go_enter Tryd.func51, Tryd.ntmps51
      go_wp2_with (first | (go_at_call 60; refine (placeFi_any _ t x _ H.out HT.out).mono ?_; rw [HK.out]; rintro e w1 ⟨rfl, b1⟩))
      go_quiet (fail)
      go_wp2_with fail
      go_ret3
      exact ⟨rfl, below_drewN b1 _⟩
    · obtain ⟨b1, o1, hb1, rfl, e1⟩ := R1.out.resolve_left (fun e => by rw [e] at hkl; simp at hkl)
      obtain ⟨q0, q1, q2, q3, q4, q5, q6, hok⟩ := e1 k hkl
      clear q0 q1 q2 q3 q4 q6 e1
      have hne : (t.getD k fiD).state ≠ fr := fun e => by have := (find_yes ht hkl hid (.inr e)).1; omega
      obtain ⟨z, hz⟩ : ∃ z, (t.getD k fiD).state = z := ⟨_, rfl⟩
      rw [hz] at hne q5
      have hq : (z != fr) = true := by simp [hne]
      have HT := Lib.hid ht
      have HK := Lib.hid hk
      clear ht hf hk hz hok hne
      have k0 : (0 : Int) ≤ (k : Int) := by omega
      have k1 : (k : Int) < (t.length : Int) := by omega
      have dk : decide ((0 : Int) ≤ (k : Int)) = true := decide_eq_true k0
      go_enter Tryd.func51, Tryd.ntmps51
      go_wp2_with (first | (go_at_call 60; refine (placeFi_any _ t x _ H.out HT.out).mono ?_; rw [HK.out, dk]; rintro e w1 ⟨rfl, b1⟩; have q5' := cell_kept q5 b1; have hc0' := cell_kept hc0 b1))
      go_quiet (fail)
      go_wp2_with fail
      go_ret3
      exact ⟨rfl, below_drewN b1 _⟩

set_option maxRecDepth 20000 in
set_option maxHeartbeats 1000000 in
theorem takeStep_yes (v : Value) (t : List Fi) (x : Int) (s : Nat) (w : World) (h : RowR 7 rFi w v t) (hE : Steps w) (hs : s < 5) (fr : Int) (hfr : stepTab.getD (s * 2) 9 = fr) (to : Int) (hto : stepTab.getD (s * 2 + 1) 9 = to) (k : Nat) (hf : findFi t x fr = (k : Int)) :
    Calls Tryd.prog 51 #[v, .int .i64 x, .int .i64 s] w fun e w' => ∃ g c, e = .returned (.tuple #[.slice (some ⟨g, 0, none⟩) t.length c, .int .i64 k, .bool true]) ∧ FisO w.heap.size w'.heap.size w' (.slice (some ⟨g, 0, none⟩) t.length c) (t.set k { t.getD k fiD with state := to }) ∧ Below w.heap.size w w' := by
  rcases findFi_cases t x fr with hc | ⟨k', hkl, hk1, hpl, ht, hhit⟩
  · omega
  obtain rfl : k = k' := by omega
  clear hk1 hpl
  obtain ⟨hid, hst⟩ := hitFi_iff.1 hhit
  have hfr0 : 0 ≤ fr ∧ inI to := by
    have : s = 0 ∨ s = 1 ∨ s = 2 ∨ s = 3 ∨ s = 4 := by omega
    rcases this with rfl | rfl | rfl | rfl | rfl <;> simp [stepTab] at hfr hto <;> subst hfr <;> subst hto <;> simp [inI]
  replace hst := hst.resolve_left (by omega)
  clear hhit hf
  have H := Lib.hid h
  have hn : t.length ≤ 10 := fi_len ht
  have hc0 := hE (s * 2) (by simp [stepTab]; omega)
  rw [← getI_lt (by simp [stepTab]; omega), hfr] at hc0
  have hc1 := hE (s * 2 + 1) (by simp [stepTab]; omega)
  rw [← getI_lt (by simp [stepTab]; omega), hto] at hc1
  obtain ⟨a1, c1, hv, hl1, hm1, r1⟩ := h.fis
  subst hv
  obtain ⟨b1, o1, hb1, rfl, e1⟩ := r1.resolve_left (fun e => by rw [e] at hkl; simp at hkl)
  unfold maxLen at hm1
  obtain ⟨q0, q1, q2, q3, q4, q5, q6, hok⟩ := e1 k hkl
  rw [hst] at q5
  clear q0 q1 q2 q3 q4 q6 e1 h hfr hto
  have hfk : fidI t x = (k : Int) := by
    rcases fid_cases t x with ⟨_, hno⟩ | ⟨j, hj, hjl, hjd⟩
    · exact absurd hid (hno k hkl)
    · rw [hj, fi_uniq ht hjl hkl (hjd.trans hid.symm)]
  have hset : (fiC (t.getD k fiD)).set 5 (.int .i64 to) = fiC { t.getD k fiD with state := to } := rfl
  have hok2 : Fi.ok { t.getD k fiD with state := to } := ⟨hok.1, hok.2.1, hok.2.2.1, hok.2.2.2.1, hok.2.2.2.2.1, hfr0.2, hok.2.2.2.2.2.2⟩
  have HT := Lib.hid ht
  have HK := Lib.hid hfk
  have HSET := Lib.hid hset
  have HOK := Lib.hid hok2
  clear ht hfk hset hok2 hok hst hid hfr0
  have g0 : (0 : Int) ≤ (s : Int) := by omega
  have g1 : (s : Int) < 5 := by omega
  have k0 : (0 : Int) ≤ (k : Int) := by omega
  have k1 : (k : Int) < (t.length : Int) := by omega
  have dk : decide ((0 : Int) ≤ (k : Int)) = true := decide_eq_true k0
  go_enter Tryd.func51, Tryd.ntmps51
  go_wp2_with (first | (go_at_call 60; refine (placeFi_any _ t x _ H.out HT.out).mono ?_; rw [HK.out, dk]; rintro e w1 ⟨rfl, b1'⟩; have q5' := cell_kept q5 b1'; have hc0' := cell_kept hc0 b1'))
  go_quiet (fail)
  go_wp2_with (first | (go_at_call 80; refine (cloneFi_any _ t _ (H.out.below rFi_stable (below_drewN b1' _)) (by omega)).mono ?_; rintro e w2 ⟨v2, rfl, ho, b2'⟩; obtain ⟨g, cg, rfl, hg, hgl⟩ := ho.at_some (by omega); have d5 := ho.cellAt k 5 hkl (by omega); simp only [fiC, List.getElem?_cons_succ, List.getElem?_cons_zero] at d5; have r5 := ho.1.frozen (k * 7 + 5); have hc1' := cell_kept (cell_kept hc1 (below_drewN b1' nq)) b2'; have HO := Lib.hid ho; clear ho))
  go_ret3
  obtain ⟨p1, p2⟩ := HO.out.store k 5 hkl (by omega) (.int .i64 to) _ HSET.out HOK.out
  have sz := b1'.size
  have hgl2 : w1.heap.size ≤ g := hgl
  exact ⟨g, cg, rfl, (p1.wide sz (by simp)), (below_chain (below_drewN b1' nq) b2').setCell (p := ⟨g, k * 7 + 5, none⟩) (by simp; omega) _⟩
end Go.Proofs.YtpbjddiopfkgbaaDoor
