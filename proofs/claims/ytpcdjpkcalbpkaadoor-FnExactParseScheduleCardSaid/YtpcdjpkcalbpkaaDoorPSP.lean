/- The program's ParseSchedule. -/
import Derived.Test.YtpcdjpkcalbpkaaDoorPSI
import Derived.Test.YtpcdjpkcalbpkaaDoorSplitImpl
import Derived.Test.YtpcdjpkcalbpkaaDoorRuI
import Derived.Test.YtpcdjpkcalbpkaaDoorSlRu
import Derived.Test.YtpcdjpkcalbpkaaDoorRuCells
import Derived.Maps.AppendAt
namespace Go.Proofs.YtpcdjpkcalbpkaaDoor
set_option linter.unusedVariables false
open Go.RowKit Go.Sort

/-- What SplitString hands over. -/
theorem split_both (s : ByteArray) (hs : s.size ≤ maxLen) : ∃ (ps : List ByteArray) (b0 : Bool), ps.length ≤ 4001 ∧ (∀ p ∈ ps, p.size ≤ 4000) ∧
    (∀ w, Calls Tryd.prog 38 #[.string s, .string ⟨#[32]⟩] w (SplitGives ps b0 w)) ∧
    (s.size ≠ 0 → psRes s = if (b0 && ps.all fun p => rdB p.data.toList) = true ∧ isSch (ps.map fun p => rdR p.data.toList) = true then (ps.map fun p => rdR p.data.toList, true) else ([], false)) := by
  by_cases h : s.size ≤ 4000
  · refine ⟨spAll s 32, true, ?_, fun p hp => Nat.le_trans (spAll_le hp) h, fun w => implSplit_one s 32 w h, fun h0 => ?_⟩
    · have := spAll_len s 32; omega
    · unfold psRes psOk psRows
      rw [if_neg h0]
      simp only [h, true_and, Bool.true_and]
  · refine ⟨[], false, by simp, fun p hp => (by cases hp), fun w => implSplit_bad s ⟨#[32]⟩ w hs (by unfold maxLen; decide) (.inl (by omega)), fun h0 => ?_⟩
    unfold psRes
    rw [if_neg h0, if_neg (fun hh => h hh.1.1), if_neg (by simp)]

set_option maxRecDepth 20000 in
set_option maxHeartbeats 4000000 in
theorem implParseSchedule_any (s : ByteArray) (w : World) (hs : s.size ≤ maxLen) (he : EnvR w) (xs : List Ru) (b : Bool) (hres : psRes s = (xs, b)) :
    Calls Tryd.prog 20 #[.string s] w fun e w' => ∃ v', e = .returned (.tuple #[v', .bool b]) ∧ RusO w.heap.size w'.heap.size w' v' xs ∧ Below w.heap.size w w' := by
  by_cases h0 : s.size = 0
  · have hl : s.data.toList = [] := List.length_eq_zero_iff.1 (by rw [Array.length_toList]; exact h0)
    have hs0 : s = ⟨#[]⟩ := ByteArray.ext (Array.toList_inj.1 hl)
    subst hs0
    unfold psRes at hres
    rw [if_pos h0] at hres
    obtain ⟨rfl, rfl⟩ := Prod.mk.inj hres
    clear he hres
    go_enter Tryd.func20, Tryd.ntmps20
    go_wp2_with fail
    go_ret2
    exact ⟨_, rfl, RusO.nil _ _ _, Below.refl _ _⟩
  · obtain ⟨i0, hi, hz0, hz1, hz2⟩ := info_parts Tryd.info_ru
    obtain ⟨ps, b0, hpl, hpz, hsp, hps⟩ := split_both s hs
    have hr := (hps h0).symm.trans hres
    have hne : (s.toList == ([] : List UInt8)) = false := by
      have := beq_bytes_nos (a := s) (b := ⟨#[]⟩) (fun e => h0 (by rw [e]; rfl))
      first | exact this | simpa using this
    have HR := Lib.hid hr
    have HSP := Lib.hid hsp
    have HZ := Lib.hid hpz
    have HE := Lib.hid he
    unfold maxLen at hs
    clear hps hres hr hsp hpz he
    go_enter Tryd.func20, Tryd.ntmps20
    go_wp2_with fail
    refine (HSP.out _).mono ?_
    rintro e w1 ⟨v1, rfl, hown, b1⟩
    have hrow := RowOf.of_owns hown
    obtain ⟨a1, c1, rfl, hl1, hm1, r1⟩ := hrow
    have R1 := Lib.hid r1
    clear r1 hown HSP
    unfold maxLen at hm1
    have hs1 := b1.size
    go_wp2_with fail
    go_loopw [5, 6, 20] (fun f o i wr => ∃ (k : Nat) (bk : Bool), k ≤ ps.length ∧ i = .int .i64 k ∧ f = .bool bk ∧ Hid ((b0 && (ps.take k).all fun p => rdB p.data.toList) = bk) ∧ wr.ownsRow w1.heap.size 30 4 o k (((ps.take k).map fun p => rdR p.data.toList).map ruC).flatten ∧ Below w.heap.size w wr ∧ Below w1.heap.size w1 wr) (fun _ _ i _ => ps.length - (intOf i).toNat)
    case atStart => exact ⟨0, b0, Nat.zero_le _, rfl, rfl, Lib.hid (by simp), World.ownsRow_nil _ _ _ _, b1, Below.refl _ _⟩
    case round =>
      clear b1
      obtain ⟨k, bk, hk, rfl, rfl, HB, hO, hb, hb1⟩ := hrel
      by_cases hlt : k < ps.length
      · obtain ⟨bb, o1, hb1', rfl, e1⟩ := R1.out.resolve_left (fun e => by rw [e] at hlt; simp at hlt)
        have q0 := cell_kept (e1 k hlt) hb1
        obtain ⟨p, hp⟩ : ∃ p, ps[k] = p := ⟨_, rfl⟩
        rw [hp] at q0
        have hpz := HZ.out p (by rw [← hp]; exact List.getElem_mem hlt)
        have htk : ps.take (k + 1) = ps.take k ++ [p] := by rw [take_succ_snoc ps k hlt, hp]
        have hok := rdR_ok p.data.toList
        obtain ⟨⟨x0, x1, x2, x3⟩, hx⟩ : ∃ r, rdR p.data.toList = r := ⟨_, rfl⟩
        obtain ⟨bf, hbf⟩ : ∃ q, rdB p.data.toList = q := ⟨_, rfl⟩
        have hsn : (((ps.take (k + 1)).map fun p => rdR p.data.toList).map ruC).flatten = (((ps.take k).map fun p => rdR p.data.toList).map ruC).flatten ++ [.int .i64 x0, .int .i64 x1, .int .i64 x2, .int .i64 x3] := by
          rw [htk, List.map_append, List.map_append, List.flatten_append]
          simp [hx, ruC]
        have hfl : (b0 && (ps.take (k + 1)).all fun p => rdB p.data.toList) = (bk && bf) := by
          rw [htk, List.all_append, ← Bool.and_assoc, HB.out]
          simp [hbf]
        have hcon := fun W (hW : EnvR W) => parseRule_any p W (by omega) hW
        rw [hx, hbf] at hcon
        have HC := Lib.hid hcon
        have HSN := Lib.hid hsn
        have HFL := Lib.hid hfl
        have HO := Lib.hid hO
        have g0 : (0 : Int) ≤ (k : Int) := by omega
        have g1 : (k : Int) < (ps.length : Int) := by omega
        have hsz := hb.size
        clear hp htk hok hx hbf hsn hfl hcon e1 hO
        cases bk
        all_goals
          go_wp2_with fail
          refine (HC.out _ (HE.out.later hb)).mono ?_
          rintro e w2 ⟨rfl, b2⟩
          have hb2 := below_al (below_chain hb b2) (.cells #[.int .i64 x0, .int .i64 x1, .int .i64 x2, .int .i64 x3] 30 (0, 0))
          have hb3 := below_chain hb1 b2
          have hO2 := (ownsRow_below HO.out b2).alloc (.cells #[.int .i64 x0, .int .i64 x1, .int .i64 x2, .int .i64 x3] 30 (0, 0))
          have hs2 := b2.size
          have hs3 := hb3.size
          clear b2
          go_wp2_with (first | (at_builtin; refine wpList_append_own _ rfl _ _ 26 rfl w1.heap.size 30 i0 (.agg #[.int .i64 0, .int .i64 0, .int .i64 0, .int .i64 0]) 4 32 Tryd.underlying26 hi hz0 hz1 hz2 rfl (by decide) _ _ _ rfl (hO2.alloc _) ⟨w2.heap.size + 1, 0, none⟩ 1 1 [.int .i64 x0, .int .i64 x1, .int .i64 x2, .int .i64 x3] rfl rfl (cells4_new' _ _ _ _ _ _ (by simp)) (by simp [Value.oneCell']) (by unfold maxLen; omega) (by omega) (by simp; omega) ?_; intro v' w3 hown' hgrow _))
          have HOWN := Lib.hid hown'
          have HBB := Lib.hid (below_app hb2 (Nat.le_refl _) (ownsRow_base_a' hO2 hs1) hgrow)
          have HB1 := Lib.hid (below_app (below_al hb3 (.cells #[.int .i64 x0, .int .i64 x1, .int .i64 x2, .int .i64 x3] 30 (0, 0))) (Nat.le_refl _) (hO2) hgrow)
          clear hown' hgrow hO2
          go_wp2_with fail
          go_roundw
          case rel => exact ⟨k + 1, _, by omega, by go_num, rfl, Lib.hid (by rw [HFL.out]; rfl), (by rw [HSN.out]; exact HOWN.out), HBB.out, HB1.out⟩
          case measure => simp [intOf]; omega
      · obtain rfl : k = ps.length := by omega
        rw [List.take_length] at hO HB
        have hR := HR.out
        rw [HB.out] at hR
        have hF := RusO.of_row (ownsRow_base_a' hO hs1) (by simp) (fun f hf => by obtain ⟨p, hp, rfl⟩ := List.mem_map.1 hf; exact rdR_ok _)
        obtain ⟨t, ht⟩ : ∃ t, (ps.map fun p => rdR p.data.toList) = t := ⟨_, rfl⟩
        rw [ht] at hR hF
        have HF := Lib.hid hF
        have HRR := Lib.hid hR
        obtain ⟨bs, hbs⟩ : ∃ q, isSch t = q := ⟨_, rfl⟩
        have HS := Lib.hid hbs
        have hsz := hb.size
        clear hO hR hF ht hbs
        cases bk
        · have hh := HRR.out
          rw [if_neg (by simp)] at hh
          obtain ⟨rfl, rfl⟩ := Prod.mk.inj hh
          clear hh
          go_wp2_with fail
          go_ret2
          exact ⟨_, rfl, RusO.nil _ _ _, hb⟩
        · have hh := HRR.out
          rw [HS.out] at hh
          cases bs
          · rw [if_neg (by simp)] at hh
            obtain ⟨rfl, rfl⟩ := Prod.mk.inj hh
            clear hh
            go_wp2_with (first | (go_at_call 30; refine (implIsSchedule_any _ t _ HF.out.row).mono ?_; rw [HS.out]; rintro e w4 ⟨rfl, b4⟩))
            go_ret2
            exact ⟨_, rfl, RusO.nil _ _ _, below_chain hb b4⟩
          · rw [if_pos ⟨rfl, rfl⟩] at hh
            obtain ⟨rfl, rfl⟩ := Prod.mk.inj hh
            clear hh
            go_wp2_with (first | (go_at_call 30; refine (implIsSchedule_any _ t _ HF.out.row).mono ?_; rw [HS.out]; rintro e w4 ⟨rfl, b4⟩))
            go_ret2
            exact ⟨_, rfl, (HF.out.below b4).wide (Nat.le_refl _) b4.size, below_chain hb b4⟩
end Go.Proofs.YtpcdjpkcalbpkaaDoor
