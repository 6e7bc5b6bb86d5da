/- The model's path of a function, and whether a number stands in a list. -/
import Derived.Test.YtpbjddiopfkgbaaTreeI
import Derived.Test.YtpbjddiopfkgbaaHas
import Derived.Deep.RegionLawGrows
namespace Go.Proofs.Ytpbjddiopfkgbaa
set_option linter.unusedVariables false
open Go.RowKit Go.Sort

theorem own_some {w : World} {base e size n : Nat} {v : Value} {xs : List Value} (h : w.ownsRow base e size v n xs) (hne : v ≠ .slice none 0 0) : ∃ g cap, v = .slice (some ⟨g, 0, none⟩) n cap ∧ g < w.heap.size ∧ cap ≤ maxLen := by
  rcases h.2 with ⟨h, _⟩ | ⟨g, cap, cur', h, _, hh, _, hm, _⟩
  · exact absurd h hne
  · exact ⟨g, cap, h, (Array.getElem?_eq_some_iff.1 hh).1, hm⟩
theorem own_single {base : Nat} (w : World) (x : Value) (e : TypeId) (hb : base ≤ w.heap.size) : (w.alloc (.cells #[x] e (0, 0))).ownsRow base e 1 (.slice (some ⟨w.heap.size, 0, none⟩) 1 1) 1 [x] :=
  ⟨by simp, .inr ⟨w.heap.size, 1, #[x], rfl, hb, heap_alloc_new w _, Nat.le_refl _, by unfold maxLen; omega, rfl, by simp⟩⟩

set_option maxHeartbeats 2000000 in
theorem l3Path_any (v : Value) (t : List Fn) (x : Int) (w : World) (h : RowR 3 rFn w v t) (ht : isTree t = true) (hx : x = 0 ∨ hasF t x = true) :
    Calls Try.prog 56 #[v, .int .i64 x] w fun e w' => ∃ v', e = .returned v' ∧ IntsO w.heap.size w'.heap.size w' v' (pathF t x) ∧ Below w.heap.size w w' := by
  obtain ⟨i0, hi, hz0, hz1, hz2⟩ := info_parts Try.info_int
  have H := Lib.hid h
  obtain ⟨a1, c1, rfl, hl1, hm1, r1⟩ := h.fns
  have R1 := Lib.hid r1
  have HT := Lib.hid ht
  have HXX := Lib.hid hx
  have h15 := tree_len ht
  clear h r1 ht hx
  unfold maxLen at hm1
  go_enter Try.func56, Try.ntmps56
  go_wp2
  go_loopw [1, 5] (fun c o wr => ∃ (cur : Int) (L : List Int), c = .int .i64 cur ∧ wr.ownsRow w.heap.size 3 1 o L.length (L.map vI) ∧ o ≠ .slice none 0 0 ∧ Hid (pathF t cur ++ L = pathF t x) ∧ Hid (cur = 0 ∨ hasF t cur = true) ∧ 0 ≤ cur ∧ L.length ≤ 99 ∧ Below w.heap.size w wr) (fun c _ _ => (intOf c).toNat)
  case atStart =>
    refine ⟨x, [], rfl, World.ownsRow_made w #[] 0 (Nat.le_refl _) (Nat.zero_le _) rfl, by simp, Lib.hid (by simp), HXX, ?_, Nat.zero_le _, below_al (Below.refl _ _) _⟩
    rcases HXX.out with h | h
    · omega
    · have := (par_ok HT.out h).1; omega
  case round =>
    obtain ⟨cur, L, rfl, hO, hne, HL, HC, h0, hl99, hb⟩ := hrel
    by_cases hpos : 0 < cur
    · have hh := HC.out.resolve_left (by omega)
      have hpl : placeF t cur < t.length := of_decide_eq_true hh
      have hpk := par_ok HT.out hh
      obtain ⟨b1, o1, hb1, rfl, e1⟩ := R1.out.resolve_left (fun e => by rw [e] at hpl; simp at hpl)
      have q1 := (e1 _ hpl).2.1
      rw [show (t.getD (placeF t cur) fnD).parent = parF t cur from rfl] at q1
      have hst := pathF_step HT.out hh
      have hlen : L.length + 1 ≤ 99 := by
        have h1 := path_len HT.out x HXX.out
        have h2 := congrArg List.length HL.out
        rw [List.length_append, hst, List.length_append] at h2
        simp only [List.length_cons, List.length_nil, pathF, List.length_map] at h1 h2
        have h3 : x ≤ 99 := by
          rcases HXX.out with h | h
          · omega
          · exact (par_ok HT.out h).1.2
        omega
      have HST : Hid (pathF t (parF t cur) ++ (cur :: L) = pathF t x) := Lib.hid (by rw [← HL.out, hst]; simp)
      have hfi := findI_yes hh
      obtain ⟨P, hP⟩ : ∃ P, placeF t cur = P := ⟨_, rfl⟩
      obtain ⟨N, hN⟩ : ∃ N, parF t cur = N := ⟨_, rfl⟩
      rw [hP] at hpl q1 hfi
      rw [hN] at q1 hpk HST
      obtain ⟨g, cap, rfl, hgl, hcap⟩ := own_some hO hne
      have hOA := hO.alloc (.cells #[.int .i64 cur] 3 (0, 0))
      have hcells : ∀ j u, (L.map vI)[j]? = some u → (wr.alloc (.cells #[.int .i64 cur] 3 (0, 0))).cell? ((⟨g, 0, none⟩ : Addr).add j) = some u := fun j u hj => by
        have hjl : j < L.length * 1 := by have := (List.getElem?_eq_some_iff.1 hj).1; rw [List.length_map] at this; omega
        have := hOA.cellAt j hjl
        rw [Addr.add_lit, Nat.zero_add, this, hj]
      have HCELLS := Lib.hid hcells
      have hone : ∀ u ∈ L.map vI, u.oneCell' = true := fun u hu => by
        obtain ⟨y, _, rfl⟩ := List.mem_map.1 hu
        rfl
      have HONE := Lib.hid hone
      have hsz := hb.size
      have hHH := Lib.hid hh
      have HFI := Lib.hid hfi
      have HPK := Lib.hid hpk
      clear hcells hone e1 hst hO hOA hh hP hN hfi hpk
      go_wp2_with (first | (at_builtin; refine wpList_append_own _ rfl _ _ 31 rfl w.heap.size 3 i0 (.int .i64 0) 1 8 Try.underlying31 hi hz0 hz1 hz2 rfl (by decide) (.slice (some ⟨wr.heap.size, 0, none⟩) 1 1) 1 [.int .i64 cur] rfl (own_single wr (.int .i64 cur) _ hsz) ⟨g, 0, none⟩ L.length cap (L.map vI) rfl (by simp) HCELLS.out HONE.out (by unfold maxLen; omega) (by omega) (by simp; omega) ?_; intro v' w1 hown' hgrow hnil))
      have hb3 : Below w.heap.size w w1 := (below_al hb _).grown hgrow (by simp; omega) (fun k hk => Nat.le_trans hsz (Nat.le_of_eq (by simpa [Value.ownBlock] using hk)))
      have HOWN := Lib.hid hown'
      have HNIL := Lib.hid hnil
      clear hown' hnil hgrow
      refine (l3Find_any _ t cur _ (H.out.below rFn_stable hb3)).mono ?_
      rw [HFI.out]
      rintro e w2 ⟨rfl, b2⟩
      have hb4 := hb3.trans (b2.mono hb3.size)
      have f1 := cell_kept q1 hb4
      have g0 : (0 : Int) ≤ (P : Int) := by omega
      have g1 : (P : Int) < (t.length : Int) := by omega
      clear q1
      go_wp2_with fail
      go_roundw
      case rel =>
        have hp := HPK.out
        refine ⟨N, cur :: L, rfl, ?_, fun h => (by have := (HNIL.out.1 h).1; cases this), HST, Lib.hid hp.2.2, hp.2.1.1, by simp only [List.length_cons]; omega, hb4⟩
        have := ownsRow_below HOWN.out b2
        rw [List.length_cons, Nat.add_comm L.length 1]
        simpa [vI] using this
      case measure => have hp := HPK.out; simp [intOf]; omega
    · have hc0 : cur = 0 := by omega
      have HR : Hid (L = pathF t x) := by rw [← HL.out, hc0, pathF_zero]; rfl
      have HO := Lib.hid hO
      clear hc0 hO
      go_wp2_with fail
      go_ret
      exact ⟨_, rfl, by rw [← HR.out]; exact ⟨HO.out, fun g hg => (HO.out.lt g hg).2⟩, hb⟩
end Go.Proofs.Ytpbjddiopfkgbaa
