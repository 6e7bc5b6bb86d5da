/- DropRule, the program's. -/
import Derived.Test.YtpcdjpkcalbpkaaDoorDropRuS
import Derived.Test.YtpcdjpkcalbpkaaDoorPlaceRu
import Derived.Test.YtpcdjpkcalbpkaaDoorCloneRu
import Derived.Test.YtpcdjpkcalbpkaaDoorDelRu
namespace Go.Proofs.YtpcdjpkcalbpkaaDoor
set_option linter.unusedVariables false
open Go.RowKit Go.Sort

set_option maxRecDepth 20000 in
set_option maxHeartbeats 2000000 in
theorem implDropRule_any (v : Value) (t : List Ru) (q : Ru) (a0 a1 : Addr) (w : World) (h : RowR 4 rRu w v t) (hE : ErrEnv w a0 a1) (hn : t.length ≤ 1048576) (xs : List Ru) (b : Bool) (hres : dropRes t q = (xs, b)) :
    Calls Tryd.prog 16 #[v, .int .i64 q.series, .int .i64 q.event] w fun e w' => ∃ v', e = .returned (.tuple #[v', .bool b]) ∧ RusO w.heap.size w'.heap.size w' v' xs ∧ Below w.heap.size w w' := by
  have H := Lib.hid h
  have HE := Lib.hid hE
  have HRES := Lib.hid hres
  have HOK := Lib.hid h.rus_ok
  rcases hs : isSch t with _ | _
  · obtain ⟨rfl, rfl⟩ := dropRes_no HRES.out (.inl hs)
    have HS := Lib.hid hs
    clear h hE hres hs
    go_enter Tryd.func16, Tryd.ntmps16
    go_wp2_with (first | (go_at_call 25; refine (placeOfRule_no _ t q a0 a1 _ H.out HE.out HS.out).mono ?_; rintro e w1 ⟨rfl, b1⟩))
    go_ret2
    exact ⟨_, rfl, RusO.nil _ _ _, b1⟩
  · have HS := Lib.hid hs
    clear h hE hres hs
    go_enter Tryd.func16, Tryd.ntmps16
    go_wp2_with fail
    refine (placeOfRule_any _ t q a0 a1 _ H.out HE.out HS.out).mono ?_
    rintro e w1 ⟨p, f, rfl, b1, hp, h1, h2, h3⟩
    cases f
    · simp only [plErr, Bool.false_eq_true, if_false]
      have hdn : delRu t q = t := del_none (fun j hj => by
        rcases Nat.lt_or_ge j p with h' | h'
        · exact not_key_of_bef (h1 j h')
        · have hb := h3 rfl (by omega)
          rcases Nat.lt_or_eq_of_le h' with h4 | h4
          · exact not_key_of_bef' (bef_trans hb (sch_bef HS.out h4 hj))
          · subst h4; exact not_key_of_bef' hb)
      obtain ⟨rfl, rfl⟩ := dropRes_no HRES.out (.inr (by rw [hdn]))
      clear h1 h2 h3 hdn
      go_wp2_with fail
      go_ret2
      exact ⟨_, rfl, RusO.nil _ _ _, b1⟩
    · simp only [plErr, if_true]
      obtain ⟨hlt, hk⟩ := h2 rfl
      have hdel := del_same HS.out hlt h1 hk
      have hlen : (delRu t q).length ≠ t.length := by rw [hdel, List.length_append, List.length_take, List.length_drop]; omega
      obtain ⟨rfl, rfl⟩ := dropRes_yes HRES.out HS.out hlen
      have HDEL := Lib.hid hdel
      have HOK2 : Hid (∀ f ∈ t.take p ++ t.drop (p + 1), f.ok) := Lib.hid (fun f hf => by
        rcases List.mem_append.1 hf with hm | hm
        · exact HOK.out f (List.mem_of_mem_take hm)
        · exact HOK.out f (List.mem_of_mem_drop hm))
      have hpi : IntKind.i64.wrap ((p : Int) + 1) = (p : Int) + 1 := Go.IntWalk.i64_in _ (by omega)
      clear h1 h2 h3 hdel hlen hk
      go_wp2_with fail
      refine (cloneRu_any _ t _ (H.out.below rRu_stable b1) hn).mono ?_
      rintro e w2 ⟨v2, rfl, ho2, b2⟩
      have hbl := b2.size
      have hob : ∀ k, v2.ownBlock = some k → w1.heap.size ≤ k := fun k hk => (ho2.1.1.lt k hk).1
      have HOB := Lib.hid hob
      have HO2 := Lib.hid ho2
      clear ho2 hob
      go_wp2_with fail
      refine (deleteRu_any _ t p (p + 1) ((p : Int) + 1) w1.heap.size _ HO2.out.1 hn hlt rfl (by omega)).mono ?_
      rintro e w3 ⟨v3, rfl, ho3, hg3⟩
      have HF := Lib.hid (RusO.of_row (lo := w1.heap.size) (by have := ho3.1; rwa [List.length_map] at this) rfl HOK2.out)
      have HB := Lib.hid (b2.grown hg3 b2.size (fun k hk => HOB.out k hk))
      clear ho3 hg3
      go_wp2_with fail
      go_ret2
      exact ⟨_, rfl, by rw [HDEL.out]; exact HF.out.wide b1.size (Nat.le_refl _), b1.trans (HB.out.mono b1.size)⟩
end Go.Proofs.YtpcdjpkcalbpkaaDoor
