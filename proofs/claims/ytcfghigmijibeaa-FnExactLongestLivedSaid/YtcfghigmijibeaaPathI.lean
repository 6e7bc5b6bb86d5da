/- Paths between formats, the program's search by breadth. -/
import Derived.Test.YtcfghigmijibeaaMapP
import Derived.Test.YtcfghigmijibeaaConc
import Derived.Deep.LoopGhost
import Derived.StillTailTactics
import Derived.Deep.RegionHeld3
namespace Go.Proofs.Ytcfghigmijibeaa
set_option linter.unusedVariables false
open Go.RowKit Go.Sort Go.Maps Go.Shelf

/-- 'm[k] = v', at the operation in a region. -/
theorem wp_mapUpdate_own {H : Type} {P : Program} (w : World) {o : Oper} {a : Act} {K : Act → World → Prop} {Q : Exit → Act → World → Prop}
    (m x v : Operand) (t : TypeId) (hop : o.op = Op.mapUpdate t m x v)
    (k e : TypeId) (K' : Keyed P k) (ht : P.underlying t = some (.map k e)) (R : Value → Option (DataW H × List MemPlace)) (b n : Nat) (D : DataW H)
    (hm : a.eval m = .map (some b)) (hown : w.ownsMap P k R b n D) (hn : n < maxLen) (key val : Value) (kl : Lit) (hx : a.eval x = key) (hv : a.eval v = val) (hkey : keyOf P k key = some kl)
    (d : DataW H) (ps : List MemPlace) (hval : R val = some (d, ps))
    (hK : ∀ w', w'.ownsMap P k R b (n + 1) (D.put kl d) → w.grownBy w' (some b) → K (a.put o.dst undef) w') :
    o.wp P a w K Q := by
  obtain ⟨w', hrun, r1, r2⟩ := hown.update K' ht hn hkey hval
  unfold Oper.wp
  simp [execOp, hop, hm, hx, hv, hrun, Result.andThen]
  exact hK w' r1 r2

/-- 'm[k] = v' of a map's literal. -/
theorem wpList_insert_own {H : Type} {P : Program} (w : World) {ops : Array Oper} {rest : List Oper} {o : Oper} {a : Act} {Q : Exit → Act → World → Prop}
    (hg : o.guard = none) (m x v : Operand) (t : TypeId) (hop : o.op = Op.insert t m x v)
    (k e : TypeId) (K : Keyed P k) (ht : P.underlying t = some (.map k e)) (R : Value → Option (DataW H × List MemPlace)) (b n : Nat) (D : DataW H)
    (hm : a.eval m = .map (some b)) (hown : w.ownsMap P k R b n D) (hn : n < maxLen) (key val : Value) (kl : Lit) (hx : a.eval x = key) (hv : a.eval v = val) (hkey : keyOf P k key = some kl)
    (d : DataW H) (ps : List MemPlace) (hval : R val = some (d, ps))
    (hK : ∀ w', w'.ownsMap P k R b (n + 1) (D.put kl d) → w.grownBy w' (some b) → wpList P ops Q rest (a.put o.dst undef) w') :
    wpList P ops Q (o :: rest) a w := by
  refine wpList_plain hg fun K' hK' => ?_
  obtain ⟨w', hrun, r1, r2⟩ := hown.update K ht hn hkey hval
  unfold Oper.wp
  simp [execOp, hop, hm, hx, hv, hrun, Result.andThen]
  exact hK' _ _ (hK w' r1 r2)

theorem own_formP {lo e size n : Nat} {w : World} {v : Value} {xs : List Value} (h : w.ownsRow lo e size v n xs) (hn : 0 < n) : ∃ g cap, v = .slice (some ⟨g, 0, none⟩) n cap ∧ lo ≤ g := by
  rcases h.2 with ⟨_, h0⟩ | ⟨g, cap, cur, rfl, hg, _⟩
  · omega
  · exact ⟨g, cap, rfl, hg⟩
theorem nil_eq (W : World) : (binOp BinOp.eql 39 (.slice none 0 0) (.slice none 0 0)).run Try.prog W = .ok (.bool true) W := by kernel_rfl
theorem lit2P0 (W : World) (a b : Value) (t : TypeId) {k : Nat} (hk : k = W.heap.size) : (W.alloc (.cells #[a, b] t (0, 0))).cell? ⟨k, 0, none⟩ = some a := by subst hk; exact cell_new W _ _ 0 rfl
theorem lit2P1 (W : World) (a b : Value) (t : TypeId) {k : Nat} (hk : k = W.heap.size) : (W.alloc (.cells #[a, b] t (0, 0))).cell? ⟨k, 1, none⟩ = some b := by subst hk; exact cell_new W _ _ 1 rfl
theorem row_eq (g n c : Nat) (W : World) : (binOp BinOp.eql 39 (.slice (some ⟨g, 0, none⟩) n c) (.slice none 0 0)).run Try.prog W = .ok (.bool false) W := by kernel_rfl
/-- What pathsFrom leaves. -/
def PathsO (w : World) (t : List Fo) (x d : Int) (e : Ending) (w' : World) : Prop := ∃ b nn D, e = .returned (.tuple #[.map (some b), .bool true]) ∧ b < w'.heap.size ∧ MapP w' b nn D ∧ (∃ no, POK w' w.heap.size no D (pathsF t x d)) ∧ Below w.heap.size w w'
theorem POK.low {w : World} {lo lo' : Nat} {no : Nat → Prop} {D : DataW Value} {S : List En} (h : POK w lo no D S) (hl : lo' ≤ lo) : POK w lo' no D S := ⟨h.ik, fun x p hx => by obtain ⟨v, h1, h2, h3⟩ := h.look x p hx; exact ⟨v, h1, ownsRow_base_a' h2 hl, h3⟩, h.size_⟩
theorem POK.moved {w w1 : World} {lo : Nat} {D : DataW Value} {S : List En} {qv v' : Value} (h : POK w lo (fun g => qv.ownBlock = some g) D S) (hg : w.grownBy w1 qv.ownBlock) (hat : v'.ownBlock = qv.ownBlock ∨ ∀ k, v'.ownBlock = some k → w.heap.size ≤ k) : POK w1 lo (fun g => v'.ownBlock = some g) D S :=
  ((h.renog (no' := fun g => qv.ownBlock = some g ∨ v'.ownBlock = some g) (fun g e => by
    rcases e with e | e
    · exact .inl e
    · rcases hat with k | k
      · exact .inl (by rw [← k]; exact e)
      · exact .inr (k g e))).kept hg (fun g e => .inl (.inl e))).renog (fun g e => .inl (.inr e))
theorem ids_drop {S : List En} {q : Nat} (e : En) (h : q ≤ S.length) : ((S ++ [e]).map Prod.fst).drop q = (S.map Prod.fst).drop q ++ [e.1] := by
  rw [List.map_append, List.drop_append_of_le_length (by simpa using h)]; rfl
theorem ids_at {S : List En} {q : Nat} {a : Int} {p : List Int} (h : S[q]? = some (a, p)) : (S.map Prod.fst).drop q = a :: (S.map Prod.fst).drop (q + 1) := by
  obtain ⟨h1, h2⟩ := List.getElem?_eq_some_iff.1 h
  rw [List.drop_eq_getElem_cons (by simpa using h1)]
  simp [h2]
set_option maxRecDepth 20000 in
set_option maxHeartbeats 16000000 in
theorem pathsFrom_no (v : Value) (t : List Fo) (x d : Int) (w : World) (h : RowR 4 rFo w v t) (hn : ¬ (areFo t = true ∧ hasId t x = true ∧ dayB d = true)) :
    Calls Try.prog 65 #[v, .int .i64 x, .int .i64 d] w fun e w' => e = .returned (.tuple #[.map none, .bool false]) ∧ Below w.heap.size w w' := by
  have H := Lib.hid h
  have hcap := h.cap
  obtain ⟨bg, hg⟩ : ∃ b, areFo t = b := ⟨_, rfl⟩
  obtain ⟨bh, hh⟩ : ∃ b, hasId t x = b := ⟨_, rfl⟩
  obtain ⟨bd, hd⟩ : ∃ b, decide (0 ≤ d ∧ d ≤ 20000) = b := ⟨_, rfl⟩
  obtain ⟨c, hc⟩ : ∃ c, foI t x = c := ⟨_, rfl⟩
  have hcn : decide (c < 0) = !bh := by rw [← hc, foI_neg, hh]
  have HG := Lib.hid hg
  have HC := Lib.hid hc
  have HD := Lib.hid hd
  have HN : Hid (¬ (bg = true ∧ bh = true ∧ bd = true)) := Lib.hid (by rw [← hg, ← hh, ← hd]; exact hn)
  clear h hg hh hc hd hn
  cases bg
  · go_enter Try.func65, Try.ntmps65
    go_wp2_with (first | (go_at_call 16; refine (implAreFo_any _ t _ H.out).mono ?_; rw [HG.out]; rintro e w1 ⟨rfl, b1⟩))
    go_ret2
    exact ⟨rfl, b1⟩
  · cases bh
    · have hcn' : c < 0 := by simpa using hcn
      clear hcn
      go_enter Try.func65, Try.ntmps65
      go_wp2_with (first | (go_at_call 16; refine (implAreFo_any _ t _ H.out).mono ?_; rw [HG.out]; rintro e w1 ⟨rfl, b1⟩) | (go_at_call 68; refine (placeOfFormat_any _ t _ _ (H.out.below rFo_stable b1)).mono ?_; rw [HC.out]; rintro e w2 ⟨rfl, b2⟩; replace b2 := below_chain b1 b2))
      go_ret2
      exact ⟨rfl, b2⟩
    · have hcn' : 0 ≤ c := by simpa using hcn
      have dcn : decide (c < 0) = false := decide_eq_false (by omega)
      clear hcn
      cases bd
      · go_enter Try.func65, Try.ntmps65
        go_wp2_with (first | (go_at_call 16; refine (implAreFo_any _ t _ H.out).mono ?_; rw [HG.out]; rintro e w1 ⟨rfl, b1⟩) | (go_at_call 68; refine (placeOfFormat_any _ t _ _ (H.out.below rFo_stable b1)).mono ?_; rw [HC.out]; rintro e w2 ⟨rfl, b2⟩; replace b2 := below_chain b1 b2) | (go_at_call 48; refine (isDay_any d _).mono ?_; rw [HD.out]; rintro e w3 ⟨rfl, h3⟩; subst w3))
        go_ret2
        exact ⟨rfl, b2⟩
      · exact absurd ⟨rfl, rfl, rfl⟩ HN.out
set_option maxRecDepth 20000 in
set_option maxHeartbeats 16000000 in
theorem pathsFrom_any (v : Value) (t : List Fo) (x d : Int) (w : World) (h : RowR 4 rFo w v t) (hn : areFo t = true ∧ hasId t x = true ∧ dayB d = true) :
    Calls Try.prog 65 #[v, .int .i64 x, .int .i64 d] w (PathsO w t x d) := by
  obtain ⟨hg, hh, hd⟩ := hn
  obtain ⟨i0, hi, hz0, hz1, hz2⟩ := info_parts Try.info_intN
  have H := Lib.hid h
  have hcap := h.cap
  obtain ⟨a1, c1, rfl, hl1, hm1, r1⟩ := h.fos
  have R1 := Lib.hid r1
  unfold maxLen at hm1
  obtain ⟨c, hc⟩ : ∃ c, foI t x = c := ⟨_, rfl⟩
  have hcn : 0 ≤ c := by have := foI_neg t x; rw [hc, hh] at this; simpa using this
  have dcn : decide (c < 0) = false := decide_eq_false (by omega)
  have hx := id_of hg hh
  have HX : Hid (1 ≤ x ∧ x ≤ 50) := Lib.hid hx
  have HG := Lib.hid hg
  have HH := Lib.hid hh
  have HC := Lib.hid hc
  have HD : Hid (decide (0 ≤ d ∧ d ≤ 20000) = true) := Lib.hid hd
  have h10 := (fo_iff.1 hg).1
  have HK0 := Lib.hid (key_intP x (by unfold inI; omega))
  clear h r1 hg hh hc hd hcn
  have hmm := @run_makeMap Try.prog
  go_enter Try.func65, Try.ntmps65
  go_upto_region 3 with (first | (go_at_call 16; refine (implAreFo_any _ t _ H.out).mono ?_; rw [HG.out]; rintro e w1 ⟨rfl, b1⟩) | (go_at_call 68; refine (placeOfFormat_any _ t _ _ (H.out.below rFo_stable b1)).mono ?_; rw [HC.out]; rintro e w2 ⟨rfl, b2⟩; replace b2 := below_chain b1 b2) | (go_at_call 48; refine (isDay_any d _).mono ?_; rw [HD.out]; rintro e w3 ⟨rfl, h3⟩; subst w3))
  have sw2 := b2.size
  have M0 := Lib.hid ((World.ownsMap_made w2 Try.prog 3 heldR).alloc (.cells #[.int .i64 x] 3 (0, 0)))
  have BM := Lib.hid (below_al (below_al b2 (.map #[] 0)) (.cells #[.int .i64 x] 3 (0, 0)))
  have OX : Hid (((w2.alloc (.map #[] 0)).alloc (.cells #[.int .i64 x] 3 (0, 0))).ownsRow (w2.heap.size + 1) 3 1 (.slice (some ⟨w2.heap.size + 1, 0, none⟩) 1 1) 1 [.int .i64 x]) := Lib.hid (by have := World.ownsRow_lit (base := w2.heap.size + 1) (e := 3) (size := 1) (w2.alloc (.map #[] 0)) #[.int .i64 x] 1 (by simp) (by decide) rfl; simpa using this)
  go_wp2_with (first | (refine wpList_insert_own _ rfl _ _ _ 82 rfl 3 39 (int_keyed Try.underlying3) Try.underlying82 heldR w2.heap.size 0 (.map []) rfl M0.out (by unfold maxLen; omega) (.int .i64 x) (.slice (some ⟨w2.heap.size + 1, 0, none⟩) 1 1) (.int .i64 x) rfl rfl HK0.out (.held (.slice (some ⟨w2.heap.size + 1, 0, none⟩) 1 1)) [] rfl ?_; intro w4 hown4 hg4; have HM4 := Lib.hid hown4; have HG4 := Lib.hid hg4; have s4 := hg4.size; clear hown4 hg4))
  clear hmm
  have hsz4 : w2.heap.size + 1 < w4.heap.size := by simp at s4; omega
  have P4 : Hid (POK w4 (w2.heap.size + 1) (fun g => g = w4.heap.size) (DataW.put (.map []) (.int .i64 x) (.held (.slice (some ⟨w2.heap.size + 1, 0, none⟩) 1 1))) (bfsN t d x 0)) := Lib.hid ((POK.put (S := []) (p := [x]) (POK.empty _ _ _) rfl OX.out (by simp) (fun g hg e => by cases hg; simp only at e; omega)).kept HG4.out (fun g e => by cases e; exact .inr (Nat.lt_succ_self _)))
  have Q4 : Hid (QRow (w4.alloc (.cells #[.int .i64 x] 3 (0, 0))) 3 (w2.heap.size + 1) (.slice (some ⟨w4.heap.size, 0, none⟩) 1 1) (((bfsN t d x 0).map Prod.fst).drop 0)) := Lib.hid (by have := World.ownsRow_lit (base := w2.heap.size + 1) (e := 3) (size := 1) w4 #[.int .i64 x] 1 (by omega) (by decide) rfl; exact QRow.of_own (xs := [x]) (by simpa [vI] using this) (by simp))
  have BW : Below w.heap.size w (w4.alloc (.cells #[.int .i64 x] 3 (0, 0))) := below_al (BM.out.grown HG4.out BM.out.size (fun g e => by cases e; exact sw2)) _
  obtain ⟨M, hM⟩ : ∃ M, w2.heap.size = M := ⟨_, rfl⟩
  rw [hM] at P4 Q4 HM4 hsz4 sw2
  have HM5 := Lib.hid (HM4.out.alloc (.cells #[.int .i64 x] 3 (0, 0)))
  have HP5 := Lib.hid (P4.out.kept (World.grownBy_alloc w4 (.cells #[.int .i64 x] 3 (0, 0)) none) (fun g e => by cases e))
  simp only [hM] at *
  have HME := Lib.hid hM
  clear hM M0 BM OX P4 HM4 HG4 s4
  go_loopg [9] (t.length) (fun gk qv wr => ∃ (q nn : Nat) (D : DataW Value), gk + q = t.length ∧ q ≤ (bfsN t d x q).length ∧ nn ≤ (bfsN t d x q).length ∧ Hid (QRow wr 3 (M + 1) qv (((bfsN t d x q).map Prod.fst).drop q)) ∧ Hid (MapP wr M nn D) ∧ Hid (POK wr (M + 1) (fun g => qv.ownBlock = some g) D (bfsN t d x q)) ∧ Below w.heap.size w wr ∧ M < wr.heap.size)
  case atStart => exact ⟨0, 1, _, by omega, Nat.zero_le _, Nat.le_refl _, Q4, HM5, Lib.hid (HP5.out.renog (fun g e => .inl (by cases e; rfl))), BW, by simp; omega⟩
  case round =>
    clear Q4 HM5 HP5 BW
    obtain ⟨q, nn, D, hgk, hq, hnn, HQ, HM, HP, hb, hMs⟩ := hrel
    have hbs := hb.size
    rcases hqe : (bfsN t d x q)[q]? with _ | ⟨a, p⟩
    · have hlen : (bfsN t d x q).length = q := by have := List.getElem?_eq_none_iff.1 hqe; omega
      have hE := paths_at hlen (by omega)
      have hnil : ((bfsN t d x q).map Prod.fst).drop q = [] := List.drop_eq_nil_of_le (by simp; omega)
      have HQ0 := HQ.out
      rw [hnil] at HQ0
      obtain ⟨g, off, cap, cur, rfl, _⟩ := HQ0
      have HE := Lib.hid hE
      clear hqe hlen hE hnil
      go_wp2_with fail
      go_ret2
      exact ⟨M, nn, D, rfl, hMs, HM.out, ⟨_, by rw [← HE.out]; exact HP.out.low (by omega)⟩, hb⟩
    · have hids := ids_at hqe
      have HQ0 := HQ.out
      rw [hids] at HQ0
      obtain ⟨g, off, cap, ad, rfl, hc1, hc2, _, _, hq0, _⟩ := HQ0.tail
      unfold maxLen at hc2
      have hql := (List.getElem?_eq_some_iff.1 hqe).1
      have hinv := bfs_inv HG.out HX.out q _ hqe
      have hlenS := hinv.len HH.out
      have hpl := bfs_pl t d x q q hql
      rw [(List.getElem?_eq_some_iff.1 hqe).2] at hpl
      obtain ⟨S, hS⟩ : ∃ S, bfsN t d x q = S := ⟨_, rfl⟩
      have HS0 := Lib.hid hS
      have hnext := bfs_next hqe
      rw [hS] at hql hinv hlenS hq hnn HQ HP hids hqe hnext
      have HNX := Lib.hid hnext
      have HQE := Lib.hid hqe
      have HIN := Lib.hid hinv
      have HPL : Hid (p.length ≤ q + 1) := Lib.hid hpl
      obtain ⟨nl, hnl⟩ : ∃ n, (List.drop (q + 1) (S.map Prod.fst)).length = n := ⟨_, rfl⟩
      rw [hS, hnl] at hc1
      simp only [hS, hnl] at HQ HP ⊢
      have hla : (0 : Int) < (nl : Int) + 1 := by omega
      clear hids hqe hnext hinv hpl HQ0 hS hnl
      obtain ⟨wo, hwo⟩ : ∃ x, x = wr := ⟨_, rfl⟩
      subst hwo
      go_wp2_with fail
      go_loopw [9, 44] (fun qv i wr => ∃ (k nn : Nat) (S3 : List En) (D : DataW Value), k ≤ t.length ∧ i = .int .i64 k ∧ nn ≤ S3.length ∧ q < S3.length ∧ Hid (S3 = bRow t d a p S k) ∧ Hid (QRow wr 3 (M + 1) qv ((S3.map Prod.fst).drop q)) ∧ Hid (MapP wr M nn D) ∧ Hid (POK wr (M + 1) (fun g => qv.ownBlock = some g) D S3) ∧ Below w.heap.size w wr ∧ M < wr.heap.size) (fun _ i _ => t.length - (Go.RowKit.intOf i).toNat)
      case atStart => exact ⟨0, nn, S, D, Nat.zero_le _, rfl, hnn, hql, Lib.hid (bRow_zero t d a p S).symm, HQ, HM, HP, hb, hMs⟩
      case round =>
        clear HQ HM HP hb hMs hnn hbs hq0 D nn
        obtain ⟨k, nn, S3, D, hk, rfl, hnn, hq3, HS3, HQ, HM, HP, hb, hMs⟩ := hrel
        have hbs := hb.size
        have hinv3 : BInv t d x S3 (encP p) k := by rw [HS3.out]; exact HIN.out.row HG.out HX.out (List.mem_of_getElem? HQE.out) rfl k hk
        have h3l := hinv3.len HH.out
        have hlook : lookP S3 a = some p := by
          obtain ⟨l, hl⟩ := bRow_sub t d a p S k hk
          exact lookP_of hinv3.nd (e := (a, p)) (by rw [HS3.out, hl]; exact List.mem_append_left _ (List.mem_of_getElem? HQE.out))
        have HLK := Lib.hid hlook
        clear hlook
        by_cases hlt : k < t.length
        · obtain ⟨bR, oR, hbR, rfl, e1⟩ := R1.out.resolve_left (fun e => by rw [e] at hlt; simp at hlt)
          obtain ⟨⟨y0, y1, y2, y3⟩, hy⟩ : ∃ s, t.getD k foD = s := ⟨_, rfl⟩
          obtain ⟨s, r0, r1, r2, r3, hr, _⟩ := e1 k hlt
          have hyb := id_bnd HG.out hlt
          rw [hy] at r0 r1 r2 hr hyb
          simp only at r0 r1 r2 hr hyb
          have f0 := cell_kept r0 hb
          have f1 := cell_kept r1 hb
          have f2 := cell_kept r2 hb
          have f3 := cell_kept r3 hb
          have HS := Lib.hid (hr.below hb)
          obtain ⟨sa, sc, rfl, _⟩ := hr
          have hsu := bRow_succ t d a p S hlt
          rw [← HS3.out, hy] at hsu
          have HSU := Lib.hid hsu
          have HPL2 := Lib.hid hinv3
          have hyI : inI y0 := by unfold inI; omega
          have k0 : (0 : Int) ≤ (k : Int) := by omega
          have k1 : (k : Int) < (t.length : Int) := by omega
          have HME1 := Lib.hid (HM.out.alloc (.cells #[.int .i64 y0, .string y1, .int .i64 y2, .slice sa y3.length sc] 60 (0, 0)))
          have HBE := Lib.hid (below_al (Below.refl wr.heap.size wr) (.cells #[.int .i64 y0, .string y1, .int .i64 y2, .slice sa y3.length sc] 60 (0, 0)))
          have HNO : Hid (∀ (W : World) (qv : Value), bStep d a p S3 ⟨y0, y1, y2, y3⟩ = S3 → S3 = bRow t d a p S (k + 1)) := Lib.hid (fun W qv e => by rw [HSU.out, e])
          rcases hks : lookP S3 y0 with _ | pk
          · have hne := nil_eq
            have hkf := lookP_none.1 hks
            have hlk := look_mapP HME1.out y0 hyI (HP.out.nolook hks)
            have HKF := Lib.hid hkf
            clear r0 r1 r2 r3 hy e1 hsu hks hkf hinv3
            by_cases hd2 : d ≤ y2
            · have dd2 : decide (d ≤ y2) = true := decide_eq_true hd2
              obtain ⟨bi, hbi⟩ : ∃ b, decide (a ∈ y3) = b := ⟨_, rfl⟩
              have HBI := Lib.hid hbi
              clear hbi
              cases bi
              · have HT : Hid (S3 = bRow t d a p S (k + 1)) := Lib.hid (by rw [HSU.out]; unfold bStep; rw [if_neg (by simp [edB]; exact fun _ _ => of_decide_eq_false HBI.out)])
                go_wp2_with (first | (go_at_call 69; refine (contains_any _ y3 a _ (HS.out.below (below_al (Below.refl _ _) _))).mono ?_; rw [HBI.out]; rintro e w4 ⟨rfl, b4⟩; have b5 := below_chain HBE.out b4))
                go_roundw
                case rel => exact ⟨k + 1, nn, S3, D, by omega, by go_num, hnn, hq3, HT, Lib.hid (HQ.out.kept (grownBy_of_below b5 none) (by obtain ⟨_, _, _, _, e, _⟩ := HQ.out; rw [e]; simp [Value.ownBlock])), Lib.hid (HM.out.kept (grownBy_of_below b5 none) (by simp)), Lib.hid (HP.out.below b5), hb.trans (b5.mono hbs), by have := b5.size; omega⟩
                case measure => simp [Go.RowKit.intOf]; omega
              · have HT : Hid (S3 ++ [(y0, p ++ [y0])] = bRow t d a p S (k + 1)) := Lib.hid (by rw [HSU.out]; unfold bStep; rw [if_pos ⟨HKF.out, by simp [edB]; exact ⟨hd2, of_decide_eq_true HBI.out⟩⟩])
                have HLEN : Hid ((S3 ++ [(y0, p ++ [y0])]).length ≤ t.length) := Lib.hid (by
                  have := HIN.out.row HG.out HX.out (List.mem_of_getElem? HQE.out) rfl (k + 1) hlt
                  rw [← HT.out] at this
                  exact this.len HH.out)
                obtain ⟨vp, hvp, hop, hpp, hnop⟩ := HP.out.look a p HLK.out
                obtain ⟨gp, cp, rfl, _⟩ := own_formP hop hpp
                have HVP := Lib.hid hvp
                have HOP := Lib.hid hop
                clear hvp hop hnop
                have hlk2 : ∀ W, Below wr.heap.size wr W → (Instr.lookup 82 (.map (some M)) (.int .i64 a) false).run Try.prog W = .ok (.slice (some ⟨gp, 0, none⟩) p.length cp) W := fun W hW => look_mapP (HM.out.kept (grownBy_of_below hW none) (by simp)) a (by
                  have := HPL2.out.walk (a, p) (lookP_mem HLK.out)
                  rcases this.last with e | ⟨f, hf, e⟩
                  · simp only at e; rw [e]; have := HX.out; unfold inI; omega
                  · obtain ⟨j, hj, rfl⟩ := List.getElem_of_mem hf
                    have := id_bnd HG.out hj
                    rw [getFo_lt hj] at this
                    simp only at e; rw [e]; unfold inI; omega) HVP.out
                have HLK2 := Lib.hid hlk2
                clear hlk2
                go_upto_region 12 with (first | (go_at_call 69; refine (contains_any _ y3 a _ (HS.out.below (below_al (Below.refl _ _) _))).mono ?_; rw [HBI.out]; rintro e w4 ⟨rfl, b4⟩; have z0 := cell_kept (cell_new wr _ _ 0 rfl) b4; have b5 := below_chain HBE.out b4; clear b4))
                have hA := HLK2.out w4.drew b5.drew
                have hB := HLK2.out (w4.drew.alloc (.cells #[.int .i64 y0] 3 (0, 0))) (below_al b5.drew _)
                have hB2 := HLK2.out ((w4.alloc (.cells #[.int .i64 y0] 3 (0, 0))).drew) (below_al b5 _).drew
                have b6 : Below wr.heap.size wr w4.drew := b5.drew
                have s6 : wr.heap.size ≤ w4.heap.size := b5.size
                have R1' := Lib.hid ((ownsRow_below HOP.out b6).alloc (.cells #[.int .i64 y0] 3 (0, 0)))
                have R2' : Hid ((w4.drew.alloc (.cells #[.int .i64 y0] 3 (0, 0))).ownsRow w4.drew.heap.size 3 1 (.slice (some ⟨w4.drew.heap.size, 0, none⟩) 1 1) 1 ([y0].map vI)) := Lib.hid (by have := World.ownsRow_lit (base := w4.drew.heap.size) (e := 3) (size := 1) w4.drew #[.int .i64 y0] 1 (Nat.le_refl _) (by decide) rfl; simpa [vI] using this)
                go_region_held3 (fun w' => w'.cell? ⟨wr.heap.size, 0, none⟩ = some (.int .i64 y0)) (first | exact z8 | exact z7 | exact z0 | exact below_al_cell (show w4.drew.cell? _ = _ from z0) _ | exact below_al_cell (below_al_cell (show w4.drew.cell? _ = _ from z0) _) _ | go_keep) (first | (go_at_call 84; refine (concat_any (w4.drew.heap.size + 1) (.slice (some ⟨gp, 0, none⟩) p.length cp) (.slice (some ⟨w4.drew.heap.size, 0, none⟩) 1 1) p [y0] _ (lit2P0 _ _ _ _ (by simp)) (lit2P1 _ _ _ _ (by simp)) (RowOf.of_owns (R1'.out.alloc _)) (RowOf.of_owns (R2'.out.alloc _)) hpp (by simp) (by have := HPL.out; omega) (by simp)).mono ?_; rintro e w7 ⟨v7, rfl, ho7, b7'⟩; have b7 : Below wr.heap.size wr w7 := below_chain (below_al (below_al b6 _) _) b7'; have HO7 := Lib.hid ho7; have s7 := b7.size; have z7 := cell_kept (below_al_cell (below_al_cell (show w4.drew.cell? _ = _ from z0) _) _) b7'; have HM7 := Lib.hid (HM.out.kept (grownBy_of_below b7 none) (by simp)); clear ho7 b7'; obtain ⟨w8, hrun8, hown8, hg8⟩ := HM7.out.update (t := 82) (e := 39) (int_keyed Try.underlying3) Try.underlying82 (by unfold maxLen; omega) (key := .int .i64 y0) (val := v7) (d := .held v7) (ps := []) (key_intP y0 hyI) rfl; have z8 := hg8.cell z7 (by simp; omega)))
                all_goals
                  clear hA hB hB2
                  have HM8 := Lib.hid hown8
                  have HG8 := Lib.hid hg8
                  have s8 := hg8.size
                  have HP8 := Lib.hid (((HP.out.below b7).put HKF.out (ownsRow_base_a' HO7.out (by simp; omega)) (by simp) (fun g hg e => by have h1 := (HO7.out.lt g hg).1; have h2 := (HQ.out.lt g e).2; simp at h1; omega)).kept hg8 (fun g e => by cases e; exact .inr (Nat.lt_succ_self _)))
                  have HQ8 := Lib.hid ((HQ.out.kept (grownBy_of_below b7 none) (by obtain ⟨_, _, _, _, e, _⟩ := HQ.out; rw [e]; simp [Value.ownBlock])).kept hg8 (fun e => by have := (HQ.out.lt M e).1; omega))
                  have HQ8A := Lib.hid (HQ8.out.kept (World.grownBy_alloc w8 (.cells #[.int .i64 y0] 3 (0, 0)) none) (by obtain ⟨_, _, _, _, e, _⟩ := HQ.out; rw [e]; simp [Value.ownBlock]))
                  clear hown8 hg8 hrun8
                  go_wp2_with (first | (at_builtin; refine wpList_append_q _ rfl _ _ 39 rfl 3 i0 Try.underlying39 hi hz0 hz1 hz2 (M + 1) _ _ rfl HQ8A.out (by simp; omega) (by simp; omega) ⟨w8.heap.size, 0, none⟩ rfl 1 y0 rfl (by simp [vI]) ?_; intro v9 w9 hq9 hg9 hat9))
                  have HQ9 := Lib.hid hq9
                  clear hq9
                  have bF := ((hb.trans (b7.mono hbs)).grown HG8.out (by omega) (fun g e => by cases e; omega))
                  have bG := (below_al bF (.cells #[.int .i64 y0] 3 (0, 0)))
                  have bH := bG.grown hg9 (by simp; omega) (fun g e => by have := (HQ8.out.lt g e).1; omega)
                  have s9 := hg9.size
                  simp at s9
                  go_wp2_with fail
                  go_roundw
                  case rel => exact ⟨k + 1, nn + 1, S3 ++ [(y0, p ++ [y0])], _, by omega, by go_num, by simp; omega, by simp; omega, HT, Lib.hid (by rw [ids_drop _ (by omega)]; exact HQ9.out), Lib.hid ((HM8.out.alloc _).kept hg9 (fun e => by have := (HQ8.out.lt M e.symm).1; omega)), Lib.hid ((HP8.out.kept (World.grownBy_alloc _ _ none) (fun g e => by cases e)).moved hg9 hat9), bH, by omega⟩
                  case measure => simp [Go.RowKit.intOf]; omega
            · have dd2 : decide (d ≤ y2) = false := decide_eq_false hd2
              have HT : Hid (S3 = bRow t d a p S (k + 1)) := Lib.hid (by rw [HSU.out]; unfold bStep; rw [if_neg (by simp [edB]; exact fun _ h => absurd h hd2)])
              go_wp2_with fail
              go_roundw
              case rel => exact ⟨k + 1, nn, S3, D, by omega, by go_num, hnn, hq3, HT, Lib.hid (HQ.out.kept (grownBy_of_below HBE.out none) (by obtain ⟨_, _, _, _, e, _⟩ := HQ.out; rw [e]; simp [Value.ownBlock])), HME1, Lib.hid (HP.out.below HBE.out), hb.trans (HBE.out.mono hbs), by simp; omega⟩
              case measure => simp [Go.RowKit.intOf]; omega
          · obtain ⟨vk, hvk, hok, hpk, _⟩ := HP.out.look y0 pk hks
            have hlk := look_mapP HME1.out y0 hyI hvk
            have hne := row_eq
            have hkt : hasK S3 y0 = true := by
              rcases hh : hasK S3 y0 with _ | _
              · rw [lookP_none.2 hh] at hks; cases hks
              · rfl
            have HT : Hid (S3 = bRow t d a p S (k + 1)) := Lib.hid (by rw [hsu]; unfold bStep; rw [if_neg (by simp [hkt])])
            obtain ⟨gk2, ck, rfl, _⟩ := own_formP hok hpk
            clear r0 r1 r2 r3 hy e1 hsu hks hvk hok hkt hinv3
            go_wp2_with fail
            go_roundw
            case rel => exact ⟨k + 1, nn, S3, D, by omega, by go_num, hnn, hq3, HT, Lib.hid (HQ.out.kept (grownBy_of_below HBE.out none) (by obtain ⟨_, _, _, _, e, _⟩ := HQ.out; rw [e]; simp [Value.ownBlock])), HME1, Lib.hid (HP.out.below HBE.out), hb.trans (HBE.out.mono hbs), by simp; omega⟩
            case measure => simp [Go.RowKit.intOf]; omega
        · have hke : k = t.length := by omega
          have hSN : S3 = bfsN t d x (q + 1) := by rw [HS3.out, hke]; exact HNX.out.symm
          obtain ⟨l, hl⟩ := bRow_sub t d a p S k hk
          have hq3e : S3[q]? = some (a, p) := by rw [HS3.out, hl, List.getElem?_append_left (by omega)]; exact HQE.out
          have HQ0 := HQ.out
          rw [ids_at hq3e] at HQ0
          obtain ⟨g, off, cap, ad, rfl, hc1, hc2, had, hadb, _, hqt⟩ := HQ0.tail
          unfold maxLen at hc2
          have HQT := Lib.hid hqt
          have HSN := Lib.hid hSN
          have HAB := Lib.hid hadb
          have g1c : (1 : Int) ≤ (cap : Int) := by omega
          obtain ⟨nl, hnl⟩ : ∃ n, (List.drop (q + 1) (S3.map Prod.fst)).length = n := ⟨_, rfl⟩
          rw [hnl] at hc1
          simp only [hnl] at HQ HP HQT ⊢
          have g1n : (1 : Int) ≤ (nl : Int) + 1 := by omega
          clear hnl hke hSN hl hq3e HQ0 hqt hadb hinv3
          go_wp2_with fail
          go_roundg (gk - 1)
          case measure => omega
          case rel => exact ⟨q + 1, nn, D, by omega, by rw [← HSN.out]; omega, by rw [← HSN.out]; exact hnn, Lib.hid (by rw [← HSN.out]; exact HQT.out), HM, Lib.hid (by rw [← HSN.out]; exact HP.out.renog (fun g' e => .inl (by simp [Value.ownBlock] at e ⊢; rw [← HAB.out]; exact e))), hb, hMs⟩
end Go.Proofs.Ytcfghigmijibeaa
