/- PutRule, the program's. -/
import Derived.Test.YtpcdjpkcalbpkaaDoorPutRuS
import Derived.Test.YtpcdjpkcalbpkaaDoorPlaceRu
import Derived.Test.YtpcdjpkcalbpkaaDoorCloneRu
import Derived.Test.YtpcdjpkcalbpkaaDoorInsRu
namespace Go.Proofs.YtpcdjpkcalbpkaaDoor
set_option linter.unusedVariables false
open Go.RowKit Go.Sort

set_option maxRecDepth 20000 in
set_option maxHeartbeats 4000000 in
theorem implPutRule_any (v : Value) (t : List Ru) (r : Ru) (a0 a1 : Addr) (w : World) (h : RowR 4 rRu w v t) (hr : r.ok) (hE : ErrEnv w a0 a1) (hn : t.length ≤ 1048576) (xs : List Ru) (b : Bool) (hres : putRes t r = (xs, b)) :
    Calls Tryd.prog 11 #[v, .agg #[.int .i64 r.series, .int .i64 r.event, .int .i64 r.days, .int .i64 r.act]] w fun e w' => ∃ v', e = .returned (.tuple #[v', .bool b]) ∧ RusO w.heap.size w'.heap.size w' v' xs ∧ Below w.heap.size w w' := by
  have H := Lib.hid h
  have HE := Lib.hid hE
  have HRES := Lib.hid hres
  have HOK := Lib.hid h.rus_ok
  have HR := Lib.hid hr
  obtain ⟨r0, r1, r2, r3⟩ := r
  simp only
  rcases hs : isSch t with _ | _
  · obtain ⟨rfl, rfl⟩ := putRes_no HRES.out (.inl hs)
    have HS := Lib.hid hs
    clear h hE hres hs hr
    go_enter Tryd.func11, Tryd.ntmps11
    go_wp2_with fail
    refine (keyOf_any ⟨r0, r1, r2, r3⟩ _).mono ?_
    rintro e w1 ⟨rfl, b1⟩
    have b01 := below_chain (below_al (Below.refl w.heap.size w) _) b1
    go_wp2_with fail
    refine (placeOfRule_no _ t ⟨r0, r1, r2, r3⟩ a0 a1 _ (H.out.below rRu_stable b01) (HE.out.below b01) HS.out).mono ?_
    rintro e w2 ⟨rfl, b2⟩
    replace b01 := below_chain b01 b2
    have g0 := (HE.out.below b01).c0
    go_wp2_with fail
    refine (is_same a0 _).mono ?_
    rintro e w3 ⟨rfl, rfl⟩
    go_wp2_with fail
    go_ret2
    exact ⟨_, rfl, RusO.nil _ _ _, b01⟩
  · have HS := Lib.hid hs
    have h8 := sch_len hs
    clear h hE hres hs hr
    go_enter Tryd.func11, Tryd.ntmps11
    go_wp2_with fail
    refine (keyOf_any ⟨r0, r1, r2, r3⟩ _).mono ?_
    rintro e w1 ⟨rfl, b1⟩
    have z0 := cell_kept (cell_new (v := .int .i64 r0) w #[.int .i64 r0, .int .i64 r1, .int .i64 r2, .int .i64 r3] 30 0 rfl) b1
    have z1 := cell_kept (cell_new (v := .int .i64 r1) w #[.int .i64 r0, .int .i64 r1, .int .i64 r2, .int .i64 r3] 30 1 rfl) b1
    have z2 := cell_kept (cell_new (v := .int .i64 r2) w #[.int .i64 r0, .int .i64 r1, .int .i64 r2, .int .i64 r3] 30 2 rfl) b1
    have z3 := cell_kept (cell_new (v := .int .i64 r3) w #[.int .i64 r0, .int .i64 r1, .int .i64 r2, .int .i64 r3] 30 3 rfl) b1
    have b01 := below_chain (below_al (Below.refl w.heap.size w) _) b1
    go_wp2_with fail
    refine (placeOfRule_any _ t ⟨r0, r1, r2, r3⟩ a0 a1 _ (H.out.below rRu_stable b01) (HE.out.below b01) HS.out).mono ?_
    rintro e w2 ⟨p, f, rfl, b2, hp, h1, h2, h3⟩
    replace z0 := cell_kept z0 b2
    replace z1 := cell_kept z1 b2
    replace z2 := cell_kept z2 b2
    replace z3 := cell_kept z3 b2
    replace b01 := below_chain b01 b2
    have hE2 := HE.out.below b01
    have g0 := hE2.c0
    have g1 := hE2.c1
    have HE2 := Lib.hid hE2
    clear b1 b2 hE2
    cases f
    · have hput := put_new (r := ⟨r0, r1, r2, r3⟩) HS.out hp h1 (h3 rfl)
      have HPUT := Lib.hid hput
      simp only [plErr, Bool.false_eq_true, if_false]
      clear h1 h2 h3 hput
      go_wp2_with fail
      refine HE2.out.other.mono ?_
      rintro e w3 ⟨rfl, rfl⟩
      go_wp2_with fail
      refine (cloneRu_any _ t _ (H.out.below rRu_stable b01) hn).mono ?_
      rintro e w4 ⟨v4, rfl, ho4, b4⟩
      have y0 := cell_kept z0 b4
      have y1 := cell_kept z1 b4
      have y2 := cell_kept z2 b4
      have y3 := cell_kept z3 b4
      have k1 := cell_kept g1 b4
      have HO4 := Lib.hid ho4
      have HOB : Hid (∀ k, v4.ownBlock = some k → w3.heap.size ≤ k ∧ k < w4.heap.size) := Lib.hid (fun k hk => ho4.1.1.lt k hk)
      clear ho4 z0 z1 z2 z3 g0 g1
      go_wp2_with fail
      refine (is_same a1 _).mono ?_
      rintro e w5 ⟨rfl, rfl⟩
      go_wp2_with fail
      refine (insertRu_any _ t ⟨r0, r1, r2, r3⟩ p w5.heap.size w3.heap.size _ (HO4.out.1.alloc _) (by simp; exact Nat.le_succ_of_le b4.size) hn hp (heap_alloc_new _ _) (fun e => Nat.lt_irrefl _ (HOB.out _ e).2)).mono ?_
      rintro e w6 ⟨v6, rfl, ho6, hg6⟩
      have b6 : Below w3.heap.size w3 w6 := (below_al b4 _).grown hg6 (Nat.le_trans b4.size (by simp)) (fun k hk => (HOB.out k hk).1)
      have hl6 : ((t.take p ++ ⟨r0, r1, r2, r3⟩ :: t.drop p).map ruC).length = (t.take p ++ ⟨r0, r1, r2, r3⟩ :: t.drop p).length := List.length_map _
      have hF : RusO w3.heap.size w6.heap.size w6 v6 (t.take p ++ ⟨r0, r1, r2, r3⟩ :: t.drop p) := RusO.of_row (by have e := ho6.1; rwa [hl6] at e) rfl (fun f hf => by
        rcases List.mem_append.1 hf with h | h
        · exact HOK.out f (List.mem_of_mem_take h)
        · rcases List.mem_cons.1 h with h | h
          · subst h; exact HR.out
          · exact HOK.out f (List.mem_of_mem_drop h))
      have HF := Lib.hid hF
      have s03 := b01.size
      have hb6 : Below w.heap.size w w6 := b01.trans (b6.mono s03)
      have HB6 := Lib.hid hb6
      clear ho6 hg6 hF hb6 b6 hl6
      obtain ⟨bA, hbA⟩ : ∃ b, isSch (t.take p ++ ⟨r0, r1, r2, r3⟩ :: t.drop p) = b := ⟨_, rfl⟩
      have HBA := Lib.hid hbA
      clear hbA
      obtain ⟨ga, gn, gc, rfl⟩ := HF.out.1.slice
      go_wp2_with fail
      refine (implIsSchedule_any _ (t.take p ++ ⟨r0, r1, r2, r3⟩ :: t.drop p) _ HF.out.row).mono ?_
      rw [HBA.out]
      rintro e w8 ⟨rfl, b8⟩
      have hb8 : Below w.heap.size w w8 := HB6.out.trans (b8.mono HB6.out.size)
      have HF8 := Lib.hid (HF.out.below b8)
      have s8 := b8.size
      clear b8
      cases bA
      · obtain ⟨rfl, rfl⟩ := putRes_no HRES.out (.inr (by rw [HPUT.out]; exact HBA.out))
        go_wp2_with fail
        go_ret2
        exact ⟨_, rfl, RusO.nil _ _ _, hb8⟩
      · obtain ⟨rfl, rfl⟩ := putRes_yes HRES.out HS.out (by rw [HPUT.out]; exact HBA.out)
        go_wp2_with fail
        go_ret2
        exact ⟨_, rfl, by rw [HPUT.out]; exact HF8.out.wide s03 s8, hb8⟩
    · obtain ⟨hlt, hk⟩ := h2 rfl
      have hput := put_same (r := ⟨r0, r1, r2, r3⟩) HS.out hlt h1 hk
      have HPUT := Lib.hid hput
      simp only [plErr, if_true]
      clear h1 h2 h3 hput hk
      go_wp2_with fail
      refine (is_nil a0 _).mono ?_
      rintro e w3 ⟨rfl, rfl⟩
      go_wp2_with fail
      refine (cloneRu_any _ t _ (H.out.below rRu_stable b01) hn).mono ?_
      rintro e w4 ⟨v4, rfl, ho4, b4⟩
      have y0 := cell_kept z0 b4
      have y1 := cell_kept z1 b4
      have y2 := cell_kept z2 b4
      have y3 := cell_kept z3 b4
      have k1 := cell_kept g1 b4
      obtain ⟨gg, cap, rfl, hgs, hgl, hcap, _⟩ := ho4.1.some_at (by rw [List.length_map]; omega)
      rw [List.length_map] at ho4 hcap ⊢
      have hml : (t.map ruC).length = t.length := List.length_map _
      have d0 := ho4.1.cell p 0 (by omega) (by omega)
      have d1 := ho4.1.cell p 1 (by omega) (by omega)
      have d2 := ho4.1.cell p 2 (by omega) (by omega)
      have d3 := ho4.1.cell p 3 (by omega) (by omega)
      simp [ruC] at d0 d1 d2 d3
      have fr0 := ho4.1.frozen (p * 4)
      have fr1 := ho4.1.frozen (p * 4 + 1)
      have fr2 := ho4.1.frozen (p * 4 + 2)
      have fr3 := ho4.1.frozen (p * 4 + 3)
      have gp0 : (0 : Int) ≤ (p : Int) := by omega
      have gp1 : (p : Int) < (t.length : Int) := by omega
      have HO4 := Lib.hid ho4
      have HML := Lib.hid hml
      clear ho4 z0 z1 z2 z3 g0 g1
      go_wp2_with fail
      refine (is_nil a1 _).mono ?_
      rintro e w5 ⟨rfl, rfl⟩
      go_wp2_with fail
      obtain ⟨ho6, hg6⟩ := HO4.out.1.put p (by rw [HML.out]; exact hlt) (ruC ⟨r0, r1, r2, r3⟩) rfl
      have hset : (t.map ruC).set p (ruC ⟨r0, r1, r2, r3⟩) = (t.take p ++ ⟨r0, r1, r2, r3⟩ :: t.drop (p + 1)).map ruC := by
        rw [← List.map_set, List.set_eq_take_append_cons_drop, if_pos hlt]
      rw [hset] at ho6
      have b6 := b4.grown hg6 b4.size (fun k hk => by cases hk; exact hgl)
      change Calls Tryd.prog _ _ (w5.setCells gg (p * 4) (ruC ⟨r0, r1, r2, r3⟩)) _
      generalize w5.setCells gg (p * 4) (ruC ⟨r0, r1, r2, r3⟩) = w6 at *
      have hl6 : ((t.take p ++ ⟨r0, r1, r2, r3⟩ :: t.drop (p + 1)).map ruC).length = (t.take p ++ ⟨r0, r1, r2, r3⟩ :: t.drop (p + 1)).length := List.length_map _
      have hF : RusO w3.heap.size w6.heap.size w6 (.slice (some ⟨gg, 0, none⟩) t.length cap) (t.take p ++ ⟨r0, r1, r2, r3⟩ :: t.drop (p + 1)) := RusO.of_row (by have e := ho6.1; rwa [hl6] at e) rfl (fun f hf => by
        rcases List.mem_append.1 hf with h | h
        · exact HOK.out f (List.mem_of_mem_take h)
        · rcases List.mem_cons.1 h with h | h
          · subst h; exact HR.out
          · exact HOK.out f (List.mem_of_mem_drop h))
      have HF := Lib.hid hF
      have s03 := b01.size
      have hb6 : Below w.heap.size w w6 := b01.trans (b6.mono s03)
      have HB6 := Lib.hid hb6
      clear ho6 hg6 hF hb6 b6 hl6
      obtain ⟨bA, hbA⟩ : ∃ b, isSch (t.take p ++ ⟨r0, r1, r2, r3⟩ :: t.drop (p + 1)) = b := ⟨_, rfl⟩
      have HBA := Lib.hid hbA
      clear hbA
      skip
      refine (implIsSchedule_any _ (t.take p ++ ⟨r0, r1, r2, r3⟩ :: t.drop (p + 1)) _ HF.out.row).mono ?_
      rw [HBA.out]
      rintro e w8 ⟨rfl, b8⟩
      have hb8 : Below w.heap.size w w8 := HB6.out.trans (b8.mono HB6.out.size)
      have HF8 := Lib.hid (HF.out.below b8)
      have s8 := b8.size
      clear b8
      cases bA
      · obtain ⟨rfl, rfl⟩ := putRes_no HRES.out (.inr (by rw [HPUT.out]; exact HBA.out))
        go_wp2_with fail
        go_ret2
        exact ⟨_, rfl, RusO.nil _ _ _, hb8⟩
      · obtain ⟨rfl, rfl⟩ := putRes_yes HRES.out HS.out (by rw [HPUT.out]; exact HBA.out)
        go_wp2_with fail
        go_ret2
        exact ⟨_, rfl, by rw [HPUT.out]; exact HF8.out.wide s03 s8, hb8⟩
end Go.Proofs.YtpcdjpkcalbpkaaDoor
