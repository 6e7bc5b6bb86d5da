/- FindPath, the model's and the program's. -/
import Derived.Test.YtpbjddiopfkgbaaFindP
namespace Go.Proofs.Ytpbjddiopfkgbaa
set_option linter.unusedVariables false
open Go.RowKit Go.Sort

theorem own_at1 {w : World} {base e n : Nat} {v : Value} {xs : List Value} (h : w.ownsRow base e 1 v n xs) (hn : 0 < n) : ∃ g cap, v = .slice (some ⟨g, 0, none⟩) n cap ∧ g < w.heap.size ∧ cap ≤ 2 ^ 63 - 1 ∧ n ≤ cap := by
  rcases h.2 with ⟨_, h0⟩ | ⟨g, cap, cur, e, _, hh, hn, hm, _⟩
  · omega
  · exact ⟨g, cap, e, (Array.getElem?_eq_some_iff.1 hh).1, hm, hn⟩

set_option maxRecDepth 20000 in
set_option maxHeartbeats 2000000 in
theorem specFindPath_any (v : Value) (t : List Fn) (s : ByteArray) (w : World) (h : RowR 3 rFn w v t) (c : Int) (b : Bool) (hres : fpRes t s = (c, b)) :
    Calls Try.prog 22 #[v, .string s] w fun e w' => e = .returned (.tuple #[.int .i64 c, .bool b]) ∧ Below w.heap.size w w' := by
  have H := Lib.hid h
  obtain ⟨a1, c1, rfl, hl1, hm1, r1⟩ := h.fns
  have R1 := Lib.hid r1
  have HRES := Lib.hid hres
  clear h r1 hres
  unfold maxLen at hm1
  obtain ⟨bt, ht⟩ : ∃ b, isTree t = b := ⟨_, rfl⟩
  have HT := Lib.hid ht
  clear ht
  go_enter Try.func22, Try.ntmps22
  go_wp2_with fail
  go_loopw [6] (fun i wr => ∃ k : Nat, k ≤ t.length ∧ i = .int .i64 k ∧ Hid (∀ j, j < k → namedF t (t.getD j fnD).id ≠ s) ∧ Below w.heap.size w wr) (fun i _ => t.length - (intOf i).toNat)
  case atStart => exact ⟨0, Nat.zero_le _, rfl, Lib.hid (fun j h => absurd h (Nat.not_lt_zero _)), Below.refl _ _⟩
  case round =>
    obtain ⟨k, hk, rfl, HN, hb⟩ := hrel
    by_cases hlt : k < t.length
    · obtain ⟨b1, o1, hb1, rfl, e1⟩ := R1.out.resolve_left (fun e => by rw [e] at hlt; simp at hlt)
      obtain ⟨q0, q1, q2, hok⟩ := e1 k hlt
      have hhas := tree_has hlt
      have hhit := fun ht h1 => fp_hit (t := t) (s := s) ht hlt HN.out h1
      obtain ⟨⟨fi, fp, fs⟩, hx⟩ : ∃ s, t.getD k fnD = s := ⟨_, rfl⟩
      rw [hx] at q0 hhas hhit
      simp only at q0 hhas hhit
      have HX := Lib.hid hx
      have HHAS := Lib.hid hhas
      have HHIT := Lib.hid hhit
      have g0 : (0 : Int) ≤ (k : Int) := by omega
      have g1 : (k : Int) < (t.length : Int) := by omega
      have hsz := hb.size
      have Q0 := Lib.hid q0
      clear q0 q1 q2 hok e1 hx hhas hhit
      cases bt
      · have hr := HRES.out
        rw [fp_tree HT.out] at hr
        obtain ⟨rfl, rfl⟩ := Prod.mk.inj hr
        clear hr
        go_wp2_with (first | (go_at_call 48; refine (l3Good_any _ t _ (H.out.below rFn_stable hb)).mono ?_; rw [HT.out]; rintro e w2 ⟨rfl, b2⟩))
        go_ret2
        exact ⟨rfl, hb.trans (b2.mono hsz)⟩
      · obtain ⟨N, hN⟩ : ∃ N, namedF t fi = N := ⟨_, rfl⟩
        have HNN := Lib.hid hN
        clear hN
        by_cases he : N = s
        · have dss : (N.toList == s.toList) = true := by simp [he]
          have hr := HRES.out
          rw [HHIT.out HT.out (HNN.out.trans he)] at hr
          obtain ⟨rfl, rfl⟩ := Prod.mk.inj hr
          clear he hr
          go_wp2_with (first | (go_at_call 48; refine (l3Good_any _ t _ (H.out.below rFn_stable hb)).mono ?_; rw [HT.out]; rintro e w2 ⟨rfl, b2⟩; have hb2 := hb.trans (b2.mono hsz); have f2 := cell_kept Q0.out hb2) | (go_at_call 50; refine (l3Named_any _ t _ _ (H.out.below rFn_stable hb2) HT.out HHAS.out).mono ?_; rw [HNN.out]; rintro e w3 ⟨rfl, b3⟩; have hb3 := hb2.trans (b3.mono hb2.size); have f3 := cell_kept Q0.out hb3))
          go_ret2
          exact ⟨rfl, hb3⟩
        · have dss := beq_bytes_ne he
          have HE := Lib.hid he
          clear he
          go_wp2_with (first | (go_at_call 48; refine (l3Good_any _ t _ (H.out.below rFn_stable hb)).mono ?_; rw [HT.out]; rintro e w2 ⟨rfl, b2⟩; have hb2 := hb.trans (b2.mono hsz); have f2 := cell_kept Q0.out hb2) | (go_at_call 50; refine (l3Named_any _ t _ _ (H.out.below rFn_stable hb2) HT.out HHAS.out).mono ?_; rw [HNN.out]; rintro e w3 ⟨rfl, b3⟩; have hb3 := hb2.trans (b3.mono hb2.size)))
          go_roundw
          case rel =>
            refine ⟨k + 1, by omega, by go_num, Lib.hid (fun j hj => ?_), hb3⟩
            rcases Nat.lt_or_ge j k with h' | h'
            · exact HN.out j h'
            · obtain rfl : j = k := by omega
              rw [HX.out]
              intro hc
              exact HE.out (HNN.out.symm.trans hc)
          case measure => simp [intOf]; omega
    · have hkt : k = t.length := by omega
      have hr := HRES.out
      rw [fp_none (fun j hj => HN.out j (by omega))] at hr
      obtain ⟨rfl, rfl⟩ := Prod.mk.inj hr
      clear hkt hr
      go_wp2_with fail
      go_ret2
      exact ⟨rfl, hb⟩

set_option maxRecDepth 20000 in
set_option maxHeartbeats 2000000 in
theorem implFindPath_any (v : Value) (t : List Fn) (s : ByteArray) (w : World) (h : RowR 3 rFn w v t) (hs : s.size ≤ maxLen) (c : Int) (b : Bool) (hres : fpRes t s = (c, b)) :
    Calls Try.prog 12 #[v, .string s] w fun e w' => e = .returned (.tuple #[.int .i64 c, .bool b]) ∧ Below w.heap.size w w' := by
  have H := Lib.hid h
  have HRES := Lib.hid hres
  have HS := Lib.hid hs
  clear hres hs
  obtain ⟨a1, c1, hv, hl1, hm1, r1⟩ := h.fns
  subst hv
  have R1 := Lib.hid r1
  unfold maxLen at hm1
  clear h r1
  by_cases hlong : 4000 < s.size
  · have hr := HRES.out
    rw [fp_long hlong] at hr
    obtain ⟨rfl, rfl⟩ := Prod.mk.inj hr
    have HL := Lib.hid hlong
    clear hr hlong
    go_enter Try.func12, Try.ntmps12
    go_wp2_with (first | (go_at_call 51; refine (implSplit_bad s _ _ HS.out (by unfold maxLen; simp [ByteArray.size]) (.inl HL.out)).mono ?_; rintro e w1 ⟨v1, rfl, ho1, b1⟩))
    go_ret2
    exact ⟨rfl, b1⟩
  · have hs4 : s.size ≤ 4000 := by omega
    have HS4 := Lib.hid hs4
    obtain ⟨ns, hns⟩ : ∃ ns, spAll s 47 = ns := ⟨_, rfl⟩
    have HNS := Lib.hid hns
    have hnl : ns.length ≤ 4001 := by rw [← hns]; have := spAll_len s 47; omega
    have hnp : 0 < ns.length := by rw [← hns]; exact List.length_pos_iff.2 (spAll_ne s 47)
    clear hlong hs4 hns
    rcases ht : isTree t with _ | _
    · have hr := HRES.out
      rw [fp_tree ht] at hr
      obtain ⟨rfl, rfl⟩ := Prod.mk.inj hr
      have HT := Lib.hid ht
      clear hr ht
      go_enter Try.func12, Try.ntmps12
      go_wp2_with (first | (go_at_call 51; refine (implSplit_one s 47 _ HS4.out).mono ?_; rintro e w1 ⟨v1, rfl, ho1, b1⟩) | (go_at_call 23; refine (implIsTree_any _ t _ (H.out.below rFn_stable b1)).mono ?_; rw [HT.out]; rintro e w2 ⟨rfl, b2⟩))
      go_ret2
      exact ⟨rfl, below_chain b1 b2⟩
    · have HT := Lib.hid ht
      have h15 := tree_len ht
      clear ht
      go_enter Try.func12, Try.ntmps12
      go_wp2_with (first | (go_at_call 51; refine (implSplit_one s 47 _ HS4.out).mono ?_; rw [HNS.out]; rintro e w1 ⟨v1, rfl, ho1, b1⟩; obtain ⟨g, cap, hv1, hg, hcap, hcn⟩ := own_at1 ho1 hnp; subst hv1; have HO1 := Lib.hid ho1; clear ho1) | (go_at_call 23; refine (implIsTree_any _ t _ (H.out.below rFn_stable b1)).mono ?_; rw [HT.out]; rintro e w2 ⟨rfl, b2⟩))
      have hb12 := below_chain b1 b2
      have hsz1 := b1.size
      have hsz2 := b2.size
      have HBOX0 := Lib.hid (own_single (base := w1.heap.size) w2 (.int .i64 0) 3 hsz2)
      obtain ⟨B, hB⟩ : ∃ B, w2.heap.size = B := ⟨_, rfl⟩
      rw [hB] at hsz2 HBOX0
      simp only [hB]
      go_loopw [26] (fun i wr => ∃ (k : Nat) (x : Int), k ≤ ns.length ∧ i = .int .i64 k ∧ Hid (FpSt t ns k x) ∧ wr.ownsRow w1.heap.size 3 1 (.slice (some ⟨B, 0, none⟩) 1 1) 1 [.int .i64 x] ∧ Below w1.heap.size w1 wr) (fun i _ => ns.length - (intOf i).toNat)
      case atStart => exact ⟨0, 0, Nat.zero_le _, rfl, Lib.hid (fpSt_zero t ns), HBOX0.out, below_al b2 _⟩
      case round =>
        clear HBOX0 b2 hb12 hB
        obtain ⟨k, x, hk, rfl, HST, hbox, hb⟩ := hrel
        have hbw : Below w.heap.size w wr := b1.trans (hb.mono hsz1)
        have hszr := hb.size
        by_cases hlt : k < ns.length
        · obtain ⟨nm, hnm⟩ : ∃ s, ns[k] = s := ⟨_, rfl⟩
          have fn := (hb.cell (p := ⟨g, k, none⟩) hg).trans (HO1.out.cellAt k (by omega))
          rw [List.getElem?_map, List.getElem?_eq_getElem hlt, hnm] at fn
          simp only [Option.map_some] at fn
          have hbc := hbox.cellAt 0 (by omega)
          simp only [List.getElem?_cons_zero] at hbc
          have HBC := Lib.hid (below_al_cell hbc (.cells #[.string nm] 9 (0, 0)))
          have HCC : Hid ((wr.alloc (.cells #[.string nm] 9 (0, 0))).cell? ⟨wr.heap.size, 0, none⟩ = some (.string nm)) := Lib.hid (cell_new wr _ _ 0 rfl)
          have HBX := Lib.hid hbox
          have HNM := Lib.hid hnm
          have g0 : (0 : Int) ≤ (k : Int) := by omega
          have g1 : (k : Int) < (ns.length : Int) := by omega
          clear hnm hbc hbox
          rcases pnI_cases t x nm with ⟨hp, hno⟩ | ⟨p, hp, hpl, hp1, hp2⟩
          · have hr := HRES.out
            rw [fp_fail HT.out (by rw [HNS.out]; exact HST.out) (by rw [HNS.out]; exact hlt) (by simp only [HNS.out, HNM.out]; exact hno)] at hr
            obtain ⟨rfl, rfl⟩ := Prod.mk.inj hr
            have HP := Lib.hid hp
            clear hr hp hno
            go_wp2_with (first | (go_at_call 52; refine (indexPN_any _ t x nm B wr.heap.size _ (H.out.below rFn_stable (below_al hbw _)) HBC.out HCC.out).mono ?_; rw [HP.out]; rintro e w5 ⟨rfl, b5⟩; have hb5 := (below_al hbw (.cells #[.string nm] 9 (0, 0))).trans (b5.mono (below_al hbw _).size)))
            go_ret2
            exact ⟨rfl, hb5⟩
          · obtain ⟨bx, ox, hbx, rfl, e1⟩ := R1.out.resolve_left (fun e => by rw [e] at hpl; simp at hpl)
            have Q0 := Lib.hid (e1 p hpl).1
            have HST2 := Lib.hid (fpSt_step HT.out HST.out hlt hpl hp1 (by rw [HNM.out]; exact hp2))
            obtain ⟨y, hy⟩ : ∃ y, (t.getD p fnD).id = y := ⟨_, rfl⟩
            rw [hy] at Q0 HST2
            have HP := Lib.hid hp
            have g2 : (0 : Int) ≤ (p : Int) := by omega
            have g3 : (p : Int) < (t.length : Int) := by omega
            clear hp hp1 hp2 e1 hy
            go_wp2_with (first | (go_at_call 52; refine (indexPN_any _ t x nm B wr.heap.size _ (H.out.below rFn_stable (below_al hbw _)) HBC.out HCC.out).mono ?_; rw [HP.out]; rintro e w5 ⟨rfl, b5⟩; have hb5 := (below_al hbw (.cells #[.string nm] 9 (0, 0))).trans (b5.mono (below_al hbw _).size); have hb6 := (below_al hb (.cells #[.string nm] 9 (0, 0))).trans (b5.mono (below_al hb _).size); have f5 := cell_kept Q0.out hb5; have HB5 := Lib.hid (ownsRow_below (HBX.out.alloc _) b5); have fc5 := HB5.out.cellAt 0 (by omega); have fr5 := HB5.out.frozenAt 0; simp only [List.getElem?_cons_zero] at fc5))
            go_roundw
            case rel => exact ⟨k + 1, y, by omega, by go_num, HST2, (HB5.out.stored 0 (.int .i64 y)).1, hb6.setCell (p := ⟨B, 0, none⟩) hsz2 _⟩
            case measure => simp [intOf]; omega
        · have hkt : k = ns.length := by omega
          have hr := HRES.out
          have hst := HST.out
          rw [hkt, ← HNS.out] at hst
          rw [fp_end HT.out hst] at hr
          obtain ⟨rfl, rfl⟩ := Prod.mk.inj hr
          have hbc := hbox.cellAt 0 (by omega)
          simp only [List.getElem?_cons_zero] at hbc
          clear hkt hr hst hbox
          go_wp2_with fail
          go_ret2
          exact ⟨rfl, hbw⟩
end Go.Proofs.Ytpbjddiopfkgbaa
