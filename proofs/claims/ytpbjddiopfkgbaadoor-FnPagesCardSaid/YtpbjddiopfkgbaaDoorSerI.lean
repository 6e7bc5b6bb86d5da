/- The pages of each series: the program's SeriesPages, with its map and the map's keys in order. -/
import Derived.Test.YtpbjddiopfkgbaaDoorSerD
import Derived.Test.YtpbjddiopfkgbaaDoorSerS
import Derived.Test.YtpbjddiopfkgbaaDoorFiI
import Derived.Test.YtpbjddiopfkgbaaDoorIter
import Derived.Maps.Own
namespace Go.Proofs.YtpbjddiopfkgbaaDoor
set_option linter.unusedVariables false
open Go.RowKit Go.Sort Go.Maps Go.Shelf

/-- How the map's values read: a pair of numbers. -/
def pairR (v : Value) : Option (DataW Unit × List MemPlace) := match v with
  | .agg cs => match cs.toList with
    | [.int .i64 a, .int .i64 b] => some (pairD a b, [])
    | _ => none
  | _ => none
theorem pairR_inv {v : Value} {d : DataW Unit} {ps : List MemPlace} {a b : Int} (h : pairR v = some (d, ps)) (hd : d = pairD a b) : v = .agg #[.int .i64 a, .int .i64 b] := by
  unfold pairR at h
  split at h
  · rename_i cs
    split at h
    · rename_i x y e
      simp only [Option.some.injEq, Prod.mk.injEq] at h
      obtain ⟨h1, _⟩ := h
      obtain ⟨rfl, rfl⟩ := pairD_inj (h1.trans hd)
      have : cs = #[.int .i64 x, .int .i64 y] := Array.toList_inj.1 e
      rw [this]
    · cases h
  · cases h
theorem key_int (s : Int) (h : inI s) : keyOf Tryd.prog 3 (.int .i64 s) = some (.int .i64 s) :=
  keyOf_int_mk Tryd.underlying3 (by unfold inI at h; simp [Lit.wf, IntKind.min, IntKind.max, IntKind.signed, IntKind.bits]; omega)
abbrev MapS (w : World) (b n : Nat) (D : DataW Unit) : Prop := w.ownsMap Tryd.prog 3 pairR b n D
theorem look_map {w : World} {b n : Nat} {D : DataW Unit} {t : List Fi} (h : MapS w b n D) (hd : DOK D t) (s : Int) (hs : inI s) :
    (Instr.lookup 85 (.map (some b)) (.int .i64 s) false).run Tryd.prog w = .ok (.agg #[.int .i64 (cntS t s), .int .i64 (pagS t s)]) w := by
  obtain ⟨v, ps, hr, hv⟩ := h.lookup (int_keyed Tryd.underlying3) Tryd.underlying85 (z := .agg #[.int .i64 0, .int .i64 0]) (Tryd.zeroValue87 w) (zd := pairD 0 0) (zp := []) rfl (key_int s hs)
  rw [pairR_inv hv (hd.look s)] at hr
  exact hr

theorem keysP_any (mb : Option Nat) (W : World) : Calls Tryd.prog 73 #[.map mb] W fun e w' => e = .returned (.func (.func 89) #[] #[.pointer (some ⟨W.heap.size, 0, none⟩)]) ∧ w' = W.alloc (.cells #[.map mb] 85) :=
  (callsIn_wide (n := 5)).1 (AnyZI.keys_in Tryd.keysP Fence.wide 5 trivial rfl mb W)
theorem sortsI (m : Nat) : AnyZI.SortsIn Tryd.prog Tryd.sortedI_ren Fence.wide m :=
  ⟨fun blk off cap ss W hH hblk hsz => callsIn_wide.2 (AnyM.slices_Sort_int Tryd.sortI blk off cap ss W hH hblk hsz),
   fun p cap W => callsIn_wide.2 (AnyM.slices_Sort_int_none Tryd.sortI p cap W)⟩
theorem sortedP_any (b nn : Nat) (D : DataW Unit) (w : World) (hown : MapS w b nn D) (hmax : Maps.size D ≤ 1048576) :
    Calls Tryd.prog 72 #[.func (.func 89) #[] #[.pointer (some ⟨w.heap.size, 0, none⟩)]] (w.alloc (.cells #[.map (some b)] 85)) fun e w' => ∃ (v : Value) (ss : List Int), e = .returned v ∧ ss.Perm (intKeys D) ∧
      w'.ownsRow (w.heap.size + 1) 3 1 v ss.length ((ss.mergeSort (fun x y => decide (x ≤ y))).map vI) ∧ Below (w.heap.size + 1) (w.alloc (.cells #[.map (some b)] 85)) w' := by
  refine (callsIn_wide (n := 5)).1 ?_
  have hbl := hown.lt
  have hseq : SeqGives Fence.wide 2 Tryd.prog 89 #[.pointer (some ⟨w.heap.size, 0, none⟩)] encZ (fun ss => ss.Perm (intKeys D)) (Maps.size D) (w.alloc (.cells #[.map (some b)] 85)) :=
    AnyZI.keys_gives (ρ := Tryd.keysP_ren) { Tryd.keysP with } Fence.wide _ trivial rfl (by omega) w.heap.size b nn D _ (by simp) (by simp) (by
      obtain ⟨es, clock, hb, Ft, hs, hD⟩ := hown
      exact ⟨es, clock, (Below.heap_alloc _ _ b hbl).trans hb, Ft, hs, hD⟩)
  have cS := AnyZI.sorted_in Tryd.sortedI Fence.wide 5 trivial trivial trivial trivial rfl (by omega) (sortsI _) (enters_of Tryd.func88 (by kernel_rfl) rfl) 89 #[.pointer (some ⟨w.heap.size, 0, none⟩)] trivial (enters_of Tryd.func89 (by kernel_rfl) rfl) _ _ (by unfold maxLen; omega) (by omega) _ hseq
  refine cS.mono ?_
  rintro e w' ⟨v, ss, rfl, hp, hrow, _, hb⟩
  have h1 : w'.ownsRow (w.alloc (.cells #[.map (some b)] 85)).heap.size 3 1 v ss.length ((ss.mergeSort (fun x y => decide (x ≤ y))).map vI) := hrow
  exact ⟨v, ss, rfl, hp, by simpa using h1, by simpa using hb⟩

set_option maxRecDepth 20000 in
set_option maxHeartbeats 4000000 in
theorem implSeriesPages_any (v : Value) (t : List Fi) (w : World) (h : RowR 7 rFi w v t) (xss : List (List Int)) (b : Bool) (hres : serRes t = (xss, b)) :
    Calls Tryd.prog 32 #[v] w fun e w' => ∃ v', e = .returned (.tuple #[v', .bool b]) ∧ TabO w.heap.size w'.heap.size w' v' xss ∧ Below w.heap.size w w' := by
  have H := Lib.hid h
  obtain ⟨i0, hi, hz0, hz1, hz2⟩ := info_parts Tryd.info_ints
  obtain ⟨a1, c1, hv, hl1, hm1, r1⟩ := h.fis
  subst hv
  have R1 := Lib.hid r1
  unfold maxLen at hm1
  obtain ⟨bt, ht⟩ : ∃ b, areFi t = b := ⟨_, rfl⟩
  have hmm := @run_makeMap Tryd.prog
  cases bt
  · have hh := hres
    unfold serRes at hh
    rw [if_neg (by rw [ht]; simp)] at hh
    obtain ⟨rfl, rfl⟩ := Prod.mk.inj hh
    have HT := Lib.hid ht
    clear hh ht hres h r1
    go_enter Tryd.func32, Tryd.ntmps32
    go_wp2_with (first | (go_at_call 33; refine (implAreFi_any _ t _ H.out).mono ?_; rw [HT.out]; rintro e w1 ⟨rfl, b1⟩))
    go_ret2
    exact ⟨_, rfl, TabO.nil _ _ _, b1⟩
  · have hh := hres
    unfold serRes at hh
    rw [if_pos ht] at hh
    obtain ⟨rfl, rfl⟩ := Prod.mk.inj hh
    have hn : t.length ≤ 10 := fi_len ht
    have HT := Lib.hid ht
    have HVAL := Lib.hid (fi_mem ht)
    clear hh ht hres h r1
    go_enter Tryd.func32, Tryd.ntmps32
    go_wp2_with (first | (go_at_call 33; refine (implAreFi_any _ t _ H.out).mono ?_; rw [HT.out]; rintro e w1 ⟨rfl, b1⟩; have s1 := b1.size))
    have M0 := Lib.hid (World.ownsMap_made w1 Tryd.prog 3 pairR)
    have bM := below_al b1 (.map #[] 0)
    go_loopw [17] (fun i wr => ∃ (k : Nat) (D : DataW Unit), k ≤ t.length ∧ i = .int .i64 k ∧ Hid (DOK D (t.take k)) ∧ Hid (MapS wr w1.heap.size k D) ∧ Below w.heap.size w wr ∧ w1.heap.size < wr.heap.size) (fun i _ => t.length - (intOf i).toNat)
    case atStart => exact ⟨0, .map [], Nat.zero_le _, rfl, Lib.hid (by simpa using DOK.empty), M0, bM, by simp⟩
    case round =>
      clear M0 bM
      obtain ⟨k, D, hk, rfl, HD, HM, hb, hmb⟩ := hrel
      by_cases hkl : k < t.length
      · obtain ⟨b1', o1, hb1, rfl, e1⟩ := R1.out.resolve_left (fun e => by rw [e] at hkl; simp at hkl)
        obtain ⟨⟨x0, x1, x2, x3, x4, x5, x6⟩, hx⟩ : ∃ s, t.getD k fiD = s := ⟨_, rfl⟩
        obtain ⟨q0, q1, q2, q3, q4, q5, q6, hok⟩ := e1 k hkl
        rw [hx] at q0 q1 q2 q3 q4 q5 q6 hok
        simp only at q0 q1 q2 q3 q4 q5 q6
        have f0 := cell_kept q0 hb
        have f1 := cell_kept q1 hb
        have f2 := cell_kept q2 hb
        have f3 := cell_kept q3 hb
        have f4 := cell_kept q4 hb
        have f5 := cell_kept q5 hb
        have f6 := cell_kept q6 hb
        have htk := take_fi hkl
        rw [hx] at htk
        have hc1 := cntS_le (t.take k) x1
        have hp1 := pagS_bounds (t := t.take k) (fun f hf => HVAL.out f (List.mem_of_mem_take hf)) x1
        have hfv := isFi_iff.1 (HVAL.out ⟨x0, x1, x2, x3, x4, x5, x6⟩ (by rw [← hx, getFi_lt hkl]; exact List.getElem_mem hkl))
        simp only at hfv
        have hfs := hfv.2.1
        have hfp := hfv.2.2.2.2.2.1
        have hput := HD.out.put ⟨x0, x1, x2, x3, x4, x5, x6⟩
        rw [← htk] at hput
        simp only at hput
        have hin : inI x1 := by unfold inI; omega
        have hlk : ∀ o : Obj, (Instr.lookup 85 (.map (some w1.heap.size)) (.int .i64 x1) false).run Tryd.prog (wr.alloc o) = .ok (.agg #[.int .i64 (cntS (t.take k) x1), .int .i64 (pagS (t.take k) x1)]) (wr.alloc o) := fun o => look_map (HM.out.alloc o) HD.out x1 hin
        obtain ⟨N, hN⟩ : ∃ N, cntS (t.take k) x1 = N := ⟨_, rfl⟩
        obtain ⟨Q, hQ⟩ : ∃ Q, pagS (t.take k) x1 = Q := ⟨_, rfl⟩
        rw [hN] at hc1 hput
        rw [hQ] at hp1 hput
        simp only [hN, hQ] at hlk
        rw [List.length_take] at hc1 hp1
        have w1q : IntKind.i64.wrap ((N : Int) + 1) = (N : Int) + 1 := Go.IntWalk.i64_in _ (by omega)
        have w2q : IntKind.i64.wrap (Q + x6) = Q + x6 := Go.IntWalk.i64_in _ (by omega)
        have HPUT := Lib.hid hput
        have HIN := Lib.hid (key_int x1 hin)
        have g0 : (0 : Int) ≤ (k : Int) := by omega
        have g1 : (k : Int) < (t.length : Int) := by omega
        clear q0 q1 q2 q3 q4 q5 q6 hok e1 hx hput htk hN hQ hc1 hp1 hfv hfp hfs hin
        go_wp2_with (first | (at_mapUpdate; refine wpList_mapUpdate_own _ rfl _ _ _ 85 rfl 3 87 (int_keyed Tryd.underlying3) Tryd.underlying85 pairR w1.heap.size k D rfl ((HM.out.alloc _).alloc _) (by unfold maxLen; omega) (.int .i64 x1) (.agg #[.int .i64 ((N : Int) + 1), .int .i64 (Q + x6)]) (.int .i64 x1) rfl rfl HIN.out (pairD ((N : Int) + 1) (Q + x6)) [] rfl ?_; intro w3 hown3 hg3; have HM3 := Lib.hid hown3; have HG3 := Lib.hid hg3; clear hown3 hg3))
        go_roundw
        case rel =>
          have s0 := b1.size
          have s3 := HG3.out.size
          simp at s3
          exact ⟨k + 1, _, by omega, by go_num, HPUT, HM3, ((hb.alloc hb.size _).alloc (by have := hb.size; simp; omega) _).grown HG3.out (by have := hb.size; simp; omega) (fun g e => by cases e; exact s0), by omega⟩
        case measure => simp [intOf]; omega
      · have hkt : k = t.length := by omega
        have HD2 : Hid (DOK D t) := by have := HD.out; rw [hkt, List.take_length] at this; exact Lib.hid this
        have hsz := HD2.out.size_
        clear hkt HD
        obtain ⟨wo, hwo⟩ : ∃ x, x = wr := ⟨_, rfl⟩
        subst hwo
        obtain ⟨L, hL⟩ : ∃ L, keysTo t 99 = L := ⟨_, rfl⟩
        have hLl : L.length ≤ 99 := by have := rowsTo_len t 99; rw [rowsTo_keys, List.length_map, hL] at this; exact this
        have hLm : ∀ x ∈ L, 1 ≤ x ∧ x ≤ 99 := fun x hx => by rw [← hL] at hx; exact ((keysTo_mem t x 99).1 hx).1
        have HL := Lib.hid hL
        have HLM := Lib.hid hLm
        have so := hb.size
        clear hL hLm
        go_wp2_with (first | (go_at_call 73; refine (keysP_any _ _).mono ?_; rintro e w2 ⟨rfl, rfl⟩) | (go_at_call 72; refine (sortedP_any w1.heap.size k D _ HM.out (by omega)).mono ?_; rintro e w5 ⟨vs, ss, rfl, hp, hrow, b5⟩; have hk99 := HD2.out.sorted HVAL.out hp; rw [HL.out] at hk99; have hln : ss.length = L.length := (by rw [← hk99]; exact (List.mergeSort_perm ss _).length_eq.symm); rw [hk99, hln] at hrow; have HR5 := Lib.hid (RowOf.of_owns hrow : RowOf vI w5 vs L); obtain ⟨va, vc, hvs, hv1, hv2, hv3⟩ := HR5.out; subst hvs; have HV3 := Lib.hid hv3; unfold maxLen at hv2; have B5 : Hid (Below wo.heap.size wo w5) := Lib.hid ((below_al (Below.refl _ _) _).trans (b5.mono (Nat.le_succ _))); have HM5 : Hid (MapS w5 w1.heap.size k D) := Lib.hid (HM.out.kept (grownBy_of_below B5.out none) (by simp)); clear hp hrow b5 hk99 hln hv3 HR5))
        have bw5 : Below w.heap.size w w5 := below_chain hb B5.out
        have s5 := bw5.size
        go_loopw [8, 42] (fun o i wr => ∃ (j : Nat) (oa : Option Addr) (on oc : Nat) (svs : List Value), j ≤ L.length ∧ i = .int .i64 j ∧ o = .slice oa on oc ∧ Hid (TabS w5.heap.size wr.heap.size wr (.slice oa on oc) svs ((L.take j).map (rowS t))) ∧ Below w5.heap.size w5 wr) (fun _ i _ => L.length - (intOf i).toNat)
        case atStart => exact ⟨0, none, 0, 0, [], Nat.zero_le _, rfl, rfl, Lib.hid ⟨rfl, World.ownsRow_nil _ _ _ _, Under.nil _ _ _, fun i h => by simp at h, fun i j h => by simp at h⟩, Below.refl _ _⟩
        case round =>
          obtain ⟨j, oa, on, oc, svs, hj, rfl, rfl, HTS, hb2⟩ := hrel
          have s2 := hb2.size
          by_cases hjl : j < L.length
          · obtain ⟨bL, oL, hbL, rfl, eL⟩ := HV3.out.resolve_left (fun e => by rw [e] at hjl; simp at hjl)
            obtain ⟨s, hs⟩ : ∃ s, L[j] = s := ⟨_, rfl⟩
            have q0 := eL j hjl
            rw [hs] at q0
            have f0 := cell_kept q0 hb2
            simp only [vI] at f0
            have hsm := HLM.out s (by rw [← hs]; exact List.getElem_mem hjl)
            have hM := HM5.out.kept (grownBy_of_below hb2 none) (by simp)
            have hlk := look_map hM HD2.out s (by unfold inI; omega)
            have hlk2 := fun o => look_map (hM.alloc o) HD2.out s (by unfold inI; omega)
            have htk : (L.take (j + 1)).map (rowS t) = (L.take j).map (rowS t) ++ [rowS t s] := by rw [List.take_succ_eq_append_getElem hjl, hs, List.map_append]; rfl
            have hrw : rowS t s = [s, (cntS t s : Int), pagS t s] := rfl
            obtain ⟨N, hN⟩ : ∃ N, cntS t s = N := ⟨_, rfl⟩
            obtain ⟨Q, hQ⟩ : ∃ Q, pagS t s = Q := ⟨_, rfl⟩
            rw [hrw, hN, hQ] at htk
            simp only [hN, hQ] at hlk hlk2
            have hfd0 : ∀ W : World, (Instr.field 87 (.agg #[.int .i64 (N : Int), .int .i64 Q]) 0).run Tryd.prog W = .ok (.int .i64 (N : Int)) W := fun _ => by kernel_rfl
            have hfd1 : ∀ W : World, (Instr.field 87 (.agg #[.int .i64 (N : Int), .int .i64 Q]) 1).run Tryd.prog W = .ok (.int .i64 Q) W := fun _ => by kernel_rfl
            have HTK := Lib.hid htk
            have hon : on ≤ 99 := by have := HTS.out.2.1.1; have h3 := HTS.out.2.1; rcases own_sliceT h3 with ⟨a, m, c, e⟩; cases e; rcases h3.2 with ⟨e, _⟩ | ⟨g, cap, cur, e, _⟩; cases e; omega; cases e; simp only [List.length_map, List.length_take]; omega
            have g0 : (0 : Int) ≤ (j : Int) := by omega
            have g1 : (j : Int) < (L.length : Int) := by omega
            have hlt99 : (List.map (rowS t) (L.take j)).length ≤ 99 := by simp; omega
            clear q0 eL hs hsm htk hrw hN hQ hM
            go_wp2_with (first | (at_builtin; refine wpList_append_own_at _ rfl _ _ 49 rfl w5.heap.size 31 i0 (.slice none 0 0) 1 24 Tryd.underlying49 hi hz0 hz1 hz2 rfl (by decide) (.slice oa on oc) _ _ rfl ((HTS.out.2.1.alloc (.cells #[.int .i64 s, .int .i64 (N : Int), .int .i64 Q] 3 (0, 0))).alloc _) ⟨wr.heap.size + 1, 0, none⟩ 1 1 [.slice (some ⟨wr.heap.size, 0, none⟩) 3 3] rfl rfl (one_newT (by simp)) (by simp [Value.oneCell']) (by unfold maxLen; omega) (by omega) (by simp; omega) ?_; intro v' w3 hown' hgrow _ hat; obtain ⟨na, nn, nc, rfl⟩ := own_sliceT hown'; have HP := Lib.hid (TabS.push (row := [s, (N : Int), Q]) HTS.out (by omega) (by unfold maxLen; simp) rfl hown' hgrow hat); have HB3 := Lib.hid (below_app2 hb2 (Nat.le_refl _) HTS.out.2.1 hgrow); clear hown' hgrow hat))
            go_roundw
            case rel => exact ⟨j + 1, _, _, _, _, by omega, by go_num, rfl, by rw [HTK.out]; exact HP, HB3.out⟩
            case measure => simp [intOf]; omega
          · have hjt : j = L.length := by omega
            have hfin := HTS.out.tab
            rw [hjt, List.take_length, ← HL.out, ← rowsTo_keys] at hfin
            have HF := Lib.hid hfin
            clear hjt hfin
            go_wp2_with fail
            go_ret2
            exact ⟨_, rfl, HF.out.wide s5 (Nat.le_refl _), below_chain bw5 hb2⟩
end Go.Proofs.YtpbjddiopfkgbaaDoor
