/- Formats, the program's: LostRecords, with its map and the map's keys in order. -/
import Derived.Test.YtcfghigmijibeaaFo2I
import Derived.Test.YtcfghigmijibeaaFoK
import Derived.Test.YtcfghigmijibeaaIntsN
import Derived.Test.YtcfghigmijibeaaIter
import Derived.Maps.Own
namespace Go.Proofs.Ytcfghigmijibeaa
set_option linter.unusedVariables false
open Go.RowKit Go.Sort Go.Maps Go.Shelf

/-- How the map's values read: a Boolean. -/
def boolR (v : Value) : Option (DataW Unit × List MemPlace) := match v with
  | .bool x => some (.lit (.bool x), [])
  | _ => none
theorem boolR_inv {v : Value} {d : DataW Unit} {ps : List MemPlace} {x : Bool} (h : boolR v = some (d, ps)) (hd : d = .lit (.bool x)) : v = .bool x := by
  unfold boolR at h
  split at h
  · rename_i y
    simp only [Option.some.injEq, Prod.mk.injEq] at h
    obtain ⟨h1, _⟩ := h
    have := h1.trans hd
    simp at this
    rw [this]
  · cases h
theorem key_int (s : Int) (h : inI s) : keyOf Try.prog 3 (.int .i64 s) = some (.int .i64 s) :=
  keyOf_int_mk Try.underlying3 (by unfold inI at h; simp [Lit.wf, IntKind.min, IntKind.max, IntKind.signed, IntKind.bits]; omega)
abbrev MapB (w : World) (b n : Nat) (D : DataW Unit) : Prop := w.ownsMap Try.prog 3 boolR b n D
theorem zero_bool (w : World) : (zeroValue 4).run Try.prog w = .ok (.bool false) w := by kernel_rfl
theorem look_mapB {w : World} {b n : Nat} {D : DataW Unit} {t : List Fo} {d : Int} {cs : List Co} (h : MapB w b n D) (hd : KOK t d D cs) (s : Int) (hs : inI s) :
    (Instr.lookup 75 (.map (some b)) (.int .i64 s) false).run Try.prog w = .ok (.bool (keptB t d cs s)) w := by
  obtain ⟨v, ps, hr, hv⟩ := h.lookup (int_keyed Try.underlying3) Try.underlying75 (z := .bool false) (zero_bool w) (zd := .lit (.bool false)) (zp := []) rfl (key_int s hs)
  rw [boolR_inv hv (hd.look s)] at hr
  exact hr
theorem sortsI (m : Nat) : AnyZI.SortsIn Try.prog Try.sortedI_ren Fence.wide m :=
  ⟨fun blk off cap ss W hH hblk hsz => callsIn_wide.2 (AnyM.slices_Sort_int Try.sortI blk off cap ss W hH hblk hsz),
   fun p cap W => callsIn_wide.2 (AnyM.slices_Sort_int_none Try.sortI p cap W)⟩

theorem keysB_any (mb : Option Nat) (W : World) : Calls Try.prog 62 #[.map mb] W fun e w' => e = .returned (.func (.func 82) #[] #[.pointer (some ⟨W.heap.size, 0, none⟩)]) ∧ w' = W.alloc (.cells #[.map mb] 75) :=
  (callsIn_wide (n := 5)).1 (AnyZI.keys_in Try.keysKept Fence.wide 5 trivial rfl mb W)
theorem sortedB_any (b nn : Nat) (D : DataW Unit) (w : World) (hown : MapB w b nn D) (hmax : Maps.size D ≤ 1048576) :
    Calls Try.prog 61 #[.func (.func 82) #[] #[.pointer (some ⟨w.heap.size, 0, none⟩)]] (w.alloc (.cells #[.map (some b)] 75)) fun e w' => ∃ (v : Value) (ss : List Int), e = .returned v ∧ ss.Perm (intKeys D) ∧
      w'.ownsRow (w.heap.size + 1) 3 1 v ss.length ((ss.mergeSort (fun x y => decide (x ≤ y))).map vI) ∧ Below (w.heap.size + 1) (w.alloc (.cells #[.map (some b)] 75)) w' := by
  refine (callsIn_wide (n := 5)).1 ?_
  have hbl := hown.lt
  have hseq : SeqGives Fence.wide 2 Try.prog 82 #[.pointer (some ⟨w.heap.size, 0, none⟩)] encZ (fun ss => ss.Perm (intKeys D)) (Maps.size D) (w.alloc (.cells #[.map (some b)] 75)) :=
    AnyZI.keys_gives (ρ := Try.keysKept_ren) { Try.keysKept with } Fence.wide _ trivial rfl (by omega) w.heap.size b nn D _ (by simp) (by simp) (by
      obtain ⟨es, clock, hb, Ft, hs, hD⟩ := hown
      exact ⟨es, clock, (Below.heap_alloc _ _ b hbl).trans hb, Ft, hs, hD⟩)
  have cS := AnyZI.sorted_in Try.sortedI Fence.wide 5 trivial trivial trivial trivial rfl (by omega) (sortsI _) (enters_of Try.func81 (by kernel_rfl) rfl) 82 #[.pointer (some ⟨w.heap.size, 0, none⟩)] trivial (enters_of Try.func82 (by kernel_rfl) rfl) _ _ (by unfold maxLen; omega) (by omega) _ hseq
  refine cS.mono ?_
  rintro e w' ⟨v, ss, rfl, hp, hrow, _, hb⟩
  have h1 : w'.ownsRow (w.alloc (.cells #[.map (some b)] 75)).heap.size 3 1 v ss.length ((ss.mergeSort (fun x y => decide (x ≤ y))).map vI) := hrow
  exact ⟨v, ss, rfl, hp, by simpa using h1, by simpa using hb⟩

set_option maxRecDepth 20000 in
set_option maxHeartbeats 8000000 in
theorem implLostRecords_any (v vc : Value) (t : List Fo) (cs : List Co) (d : Int) (w : World) (h : RowR 4 rFo w v t) (hc : RowR 4 rCo w vc cs) (xs : List Int) (b : Bool) (hres : losRes t cs d = (xs, b)) :
    Calls Try.prog 26 #[v, vc, .int .i64 d] w fun e w' => ∃ v', e = .returned (.tuple #[v', .bool b]) ∧ IntsO w.heap.size w'.heap.size w' v' xs ∧ Below w.heap.size w w' := by
  obtain ⟨i0, hi, hz0, hz1, hz2⟩ := info_parts Try.info_intN
  have H := Lib.hid h
  have HCO := Lib.hid hc
  obtain ⟨a1, c1, rfl, hl1, hm1, r1⟩ := hc.cos
  have R1 := Lib.hid r1
  unfold maxLen at hm1
  obtain ⟨bg, hg⟩ : ∃ b, areCo t cs = b := ⟨_, rfl⟩
  have HG := Lib.hid hg
  obtain ⟨bd, hd⟩ : ∃ b, decide ((0 : Int) ≤ d ∧ d ≤ 20000) = b := ⟨_, rfl⟩
  have HD := Lib.hid hd
  have NO := Lib.hid (fun hn => losRes_no hres hn)
  have YES := Lib.hid (fun hn => losRes_yes hres hn)
  have hmm := @run_makeMap Try.prog
  clear h hc r1 hg hd hres
  cases bg
  · obtain ⟨rfl, rfl⟩ := NO.out (fun h => by rw [HG.out] at h; exact absurd h.1 (by simp))
    go_enter Try.func26, Try.ntmps26
    go_wp2_with (first | (go_at_call 21; refine (implAreCo_any _ _ t cs _ H.out HCO.out).mono ?_; rw [HG.out]; rintro e w1 ⟨rfl, b1⟩; have s1 := b1.size))
    go_ret2
    exact ⟨_, rfl, ints_nilN _ _ _, b1⟩
  · cases bd
    · obtain ⟨rfl, rfl⟩ := NO.out (fun h => by have := h.2; unfold dayB at this; rw [HD.out] at this; cases this)
      go_enter Try.func26, Try.ntmps26
      go_wp2_with (first | (go_at_call 21; refine (implAreCo_any _ _ t cs _ H.out HCO.out).mono ?_; rw [HG.out]; rintro e w1 ⟨rfl, b1⟩; have s1 := b1.size) | (go_at_call 48; refine (isDay_any d _).mono ?_; rw [HD.out]; rintro e w2 ⟨rfl, h2⟩; subst w2))
      go_ret2
      exact ⟨_, rfl, ints_nilN _ _ _, b1⟩
    · obtain ⟨rfl, rfl⟩ := YES.out ⟨HG.out, HD.out⟩
      have hn15 := (co_iff.1 HG.out).2.1
      clear NO YES
      go_enter Try.func26, Try.ntmps26
      go_wp2_with (first | (go_at_call 21; refine (implAreCo_any _ _ t cs _ H.out HCO.out).mono ?_; rw [HG.out]; rintro e w1 ⟨rfl, b1⟩; have s1 := b1.size) | (go_at_call 48; refine (isDay_any d _).mono ?_; rw [HD.out]; rintro e w2 ⟨rfl, h2⟩; subst w2))
      have M0 := Lib.hid (World.ownsMap_made w1 Try.prog 3 boolR)
      have bM := below_al b1 (.map #[] 0)
      go_loopw [28] (fun i wr => ∃ (k : Nat) (D : DataW Unit), k ≤ cs.length ∧ i = .int .i64 k ∧ Hid (KOK t d D (cs.take k)) ∧ Hid (MapB wr w1.heap.size k D) ∧ Below w.heap.size w wr ∧ w1.heap.size < wr.heap.size) (fun i _ => cs.length - (Go.RowKit.intOf i).toNat)
      case atStart => exact ⟨0, .map [], Nat.zero_le _, rfl, Lib.hid (by simpa using KOK.empty t d), M0, bM, by simp⟩
      case round =>
        clear M0 bM
        obtain ⟨k, D, hk, rfl, HD2, HM, hb, hmb⟩ := hrel
        have hbs := hb.size
        by_cases hkl : k < cs.length
        · obtain ⟨bR, oR, hbR, rfl, e1⟩ := R1.out.resolve_left (fun e => by rw [e] at hkl; simp at hkl)
          obtain ⟨⟨x0, x1, x2, x3⟩, hx⟩ : ∃ s, cs.getD k coD = s := ⟨_, rfl⟩
          obtain ⟨q0, q1, q2, q3, _⟩ := e1 k hkl
          rw [hx] at q0 q1 q2 q3
          simp only at q0 q1 q2 q3
          have f0 := cell_kept q0 hb
          have f1 := cell_kept q1 hb
          have f2 := cell_kept q2 hb
          have f3 := cell_kept q3 hb
          have htk := take_co hkl
          rw [hx] at htk
          have hone := coOne_iff.1 (co_at HG.out hkl).1
          rw [hx] at hone
          simp only at hone
          have hin : inI x0 := by unfold inI; omega
          obtain ⟨kb, hkb⟩ : ∃ b, keptB t d (cs.take k) x0 = b := ⟨_, rfl⟩
          obtain ⟨rb, hrb⟩ : ∃ b, decide (d ≤ lastF t x1) = b := ⟨_, rfl⟩
          have HRB : Hid (readFoRes t x1 d = (rb, true)) := Lib.hid (by unfold readFoRes; rw [if_pos (by rw [(co_iff.1 HG.out).1, hone.2.1]; simpa [dayB] using HD.out), hrb])
          have HPUT := Lib.hid (fun v hv => (by have := HD2.out.put (v := v) ⟨x0, x1, x2, x3⟩ hv; rwa [← htk] at this : KOK t d (D.put (.int .i64 x0) (.lit (.bool v))) (cs.take (k + 1))))
          have HKB := Lib.hid hkb
          have HRX := Lib.hid hrb
          have HIN0 := Lib.hid hin
          have HIN := Lib.hid (key_int x0 hin)
          have HBX := Lib.hid (below_al hb (.cells #[.int .i64 x0, .int .i64 x1, .int .i64 x2, .int .i64 x3] 68 (0, 0)))
          have g0 : (0 : Int) ≤ (k : Int) := by omega
          have g1 : (k : Int) < (cs.length : Int) := by omega
          clear q0 q1 q2 q3 e1 hx htk hkb hrb hone hin
          cases kb
          · go_wp2_with (first | (go_at_call 24; refine (implIsReadable_any _ t x1 d _ (H.out.below rFo_stable HBX.out) rb true HRB.out).mono ?_; rintro e w6 ⟨rfl, b6⟩; have z0 := cell_kept (cell_new wr _ _ 0 rfl) b6; have HM6 := Lib.hid ((HM.out.alloc _).kept (grownBy_of_below b6 none) (by simp)); have hlk := look_mapB HM6.out HD2.out x0 HIN0.out; rw [HKB.out] at hlk; have HB6 := Lib.hid (b6); clear b6) | (at_mapUpdate; refine wpList_mapUpdate_own _ rfl _ _ _ 75 rfl 3 4 (int_keyed Try.underlying3) Try.underlying75 boolR w1.heap.size k D rfl HM6.out (by unfold maxLen; omega) (.int .i64 x0) (.bool rb) (.int .i64 x0) rfl rfl HIN.out (.lit (.bool rb)) [] rfl ?_; intro w7 hown3 hg3; have HM7 := Lib.hid hown3; have HG7 := Lib.hid hg3; clear hown3 hg3))
            go_roundw
            case rel =>
              have s6 := HB6.out.size
              have s7 := HG7.out.size
              simp at s6
              exact ⟨k + 1, _, by omega, by go_num, Lib.hid (HPUT.out _ (by rw [HKB.out, HRX.out]; rfl)), HM7, ((HBX.out.trans (HB6.out.mono HBX.out.size)).grown HG7.out (by have := HBX.out.size; simp at this; omega) (fun g e => by cases e; exact s1)), by omega⟩
            case measure => simp [Go.RowKit.intOf]; omega
          · go_wp2_with (first | (go_at_call 24; refine (implIsReadable_any _ t x1 d _ (H.out.below rFo_stable HBX.out) rb true HRB.out).mono ?_; rintro e w6 ⟨rfl, b6⟩; have z0 := cell_kept (cell_new wr _ _ 0 rfl) b6; have HM6 := Lib.hid ((HM.out.alloc _).kept (grownBy_of_below b6 none) (by simp)); have hlk := look_mapB HM6.out HD2.out x0 HIN0.out; rw [HKB.out] at hlk; have HB6 := Lib.hid (b6); clear b6) | (at_mapUpdate; refine wpList_mapUpdate_own _ rfl _ _ _ 75 rfl 3 4 (int_keyed Try.underlying3) Try.underlying75 boolR w1.heap.size k D rfl HM6.out (by unfold maxLen; omega) (.int .i64 x0) (.bool true) (.int .i64 x0) rfl rfl HIN.out (.lit (.bool true)) [] rfl ?_; intro w7 hown3 hg3; have HM7 := Lib.hid hown3; have HG7 := Lib.hid hg3; clear hown3 hg3))
            go_roundw
            case rel =>
              have s6 := HB6.out.size
              have s7 := HG7.out.size
              simp at s6
              exact ⟨k + 1, _, by omega, by go_num, Lib.hid (HPUT.out _ (by rw [HKB.out]; rfl)), HM7, ((HBX.out.trans (HB6.out.mono HBX.out.size)).grown HG7.out (by have := HBX.out.size; simp at this; omega) (fun g e => by cases e; exact s1)), by omega⟩
            case measure => simp [Go.RowKit.intOf]; omega
        · have hkt : k = cs.length := by omega
          have HD3 : Hid (KOK t d D cs) := by have := HD2.out; rw [hkt, List.take_length] at this; exact Lib.hid this
          have hsz := HD3.out.size_
          clear hkt HD2
          obtain ⟨wo, hwo⟩ : ∃ x, x = wr := ⟨_, rfl⟩
          subst hwo
          go_wp2_with (first | (go_at_call 62; refine (keysB_any _ _).mono ?_; rintro e w2 ⟨rfl, rfl⟩))
          refine (sortedB_any w1.heap.size k D _ HM.out (by omega)).mono ?_
          rintro e w5 ⟨vs, ss, rfl, hp, hrow, b5⟩
          obtain ⟨L, hL⟩ : ∃ L, ss.mergeSort (fun x y => decide (x ≤ y)) = L := ⟨_, rfl⟩
          have hso := HD3.out.ik.sorted hp
          rw [hL] at hso hrow
          have hfin := noKept_all (d := d) HG.out hso.1 hso.2
          have hln : ss.length = L.length := (by rw [← hL]; exact (List.mergeSort_perm ss _).length_eq.symm)
          have hLl : L.length ≤ 1048576 := (by have h1 := nodup_len L (cs.map Co.rcd) (hso.1.imp (fun h => by omega)) (fun x hx => by have := (hso.2 x).1 hx; obtain ⟨c, hc, e⟩ := recIn_iff.1 this; exact List.mem_map.2 ⟨c, hc, e⟩); rw [List.length_map] at h1; omega)
          have hLm : ∀ x ∈ L, 1 ≤ x ∧ x ≤ 999 := (fun x hx => by obtain ⟨c, hc, e⟩ := recIn_iff.1 ((hso.2 x).1 hx); obtain ⟨i, hi, rfl⟩ := List.getElem_of_mem hc; have h1 := (coOne_iff.1 (co_at HG.out hi).1).1; rw [getCo_lt hi, e] at h1; exact h1)
          rw [hln] at hrow
          have HR5 := Lib.hid (RowOf.of_owns hrow : RowOf vI w5 vs L)
          obtain ⟨va, vc2, hvs, hv1, hv2, hv3⟩ := HR5.out
          subst hvs
          have HV3 := Lib.hid hv3
          have HFIN := Lib.hid hfin
          have HLM := Lib.hid hLm
          unfold maxLen at hv2
          have B5 : Hid (Below wo.heap.size wo w5) := Lib.hid ((below_al (Below.refl _ _) _).trans (b5.mono (Nat.le_succ _)))
          have HM5 : Hid (MapB w5 w1.heap.size k D) := Lib.hid (HM.out.kept (grownBy_of_below B5.out none) (by simp))
          clear hp hrow b5 hso hfin hL hln hv3 HR5 hLm
          go_wp2_with fail
          have bw5 : Below w.heap.size w w5 := below_chain hb B5.out
          have s5 := bw5.size
          go_loopw [13, 55] (fun o i wr => ∃ j : Nat, j ≤ L.length ∧ i = .int .i64 j ∧ wr.ownsRow w5.heap.size 3 1 o (noKept t d cs (L.take j)).length ((noKept t d cs (L.take j)).map vI) ∧ Below w5.heap.size w5 wr) (fun _ i _ => L.length - (Go.RowKit.intOf i).toNat)
          case atStart => exact ⟨0, Nat.zero_le _, rfl, by simpa [noKept] using World.ownsRow_nil _ _ _ _, Below.refl _ _⟩
          case round =>
            obtain ⟨j, hj, rfl, hO, hb2⟩ := hrel
            have s2 := hb2.size
            have hbw := bw5.trans (hb2.mono s5)
            by_cases hjl : j < L.length
            · obtain ⟨bL, oL, hbL, rfl, eL⟩ := HV3.out.resolve_left (fun e => by rw [e] at hjl; simp at hjl)
              obtain ⟨s, hs⟩ : ∃ s, L[j] = s := ⟨_, rfl⟩
              have q0 := eL j hjl
              rw [hs] at q0
              have f0 := cell_kept q0 hb2
              simp only [vI] at f0
              have hsm := HLM.out s (by rw [← hs]; exact List.getElem_mem hjl)
              have hM := HM5.out.kept (grownBy_of_below hb2 none) (by simp)
              have hlk := look_mapB hM HD3.out s (by unfold inI; omega)
              have hsu := noKept_succ t d cs hjl
              have hle := noKept_len t d cs (L.take j)
              rw [List.length_take] at hle
              rw [hs] at hsu
              obtain ⟨kb, hkb⟩ : ∃ b, keptB t d cs s = b := ⟨_, rfl⟩
              obtain ⟨Pp, hP⟩ : ∃ P, noKept t d cs (L.take j) = P := ⟨_, rfl⟩
              rw [hkb] at hlk hsu
              rw [hP] at hO hsu hle
              have HSU := Lib.hid hsu
              have HO := Lib.hid hO
              have g0 : (0 : Int) ≤ (j : Int) := by omega
              have g1 : (j : Int) < (L.length : Int) := by omega
              clear q0 eL hs hsu hkb hP hO hM hsm
              cases kb
              · have HSU2 := Lib.hid (HSU.out.trans (if_neg (by simp)))
                go_wp2_with (first | (at_builtin; refine wpList_append_own _ rfl _ _ 39 rfl w5.heap.size 3 i0 (.int .i64 0) 1 8 Try.underlying39 hi hz0 hz1 hz2 rfl (by decide) _ _ _ rfl (HO.out.alloc _) ⟨wr.heap.size, 0, none⟩ 1 1 [.int .i64 s] rfl rfl (cell_oneN _ _ _ (by simp)) (by simp [Value.oneCell']) (by unfold maxLen; omega) (by omega) (by simp; omega) ?_; intro v' w7 hown' hgrow _))
                have HOWN := Lib.hid hown'
                have HB := Lib.hid (below_app hb2 (Nat.le_refl _) HO.out hgrow)
                clear hown' hgrow
                go_wp2_with fail
                go_roundw
                case rel => exact ⟨j + 1, by omega, by go_num, (by rw [HSU2.out]; simpa [vI] using HOWN.out), HB.out⟩
                case measure => simp [Go.RowKit.intOf]; omega
              · have HSU2 := Lib.hid (HSU.out.trans (if_pos rfl))
                go_wp2_with fail
                go_roundw
                case rel => exact ⟨j + 1, by omega, by go_num, (by rw [HSU2.out]; exact HO.out), hb2⟩
                case measure => simp [Go.RowKit.intOf]; omega
            · obtain rfl : j = L.length := by omega
              rw [List.take_length, HFIN.out] at hO
              have HO := Lib.hid hO
              clear hO
              go_wp2_with fail
              go_ret2
              exact ⟨_, rfl, (ints_rowN HO.out rfl).wide s5 (Nat.le_refl _), hbw⟩
end Go.Proofs.Ytcfghigmijibeaa
