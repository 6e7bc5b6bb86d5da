/- NamedPath, the model's and the program's. -/
import Derived.Test.YtpbjddiopfkgbaaPathI
import Derived.Test.YtpbjddiopfkgbaaJoinImpl
namespace Go.Proofs.Ytpbjddiopfkgbaa
set_option linter.unusedVariables false
open Go.RowKit Go.Sort

def namesF (t : List Fn) (x : Int) : List ByteArray := (lineF t x).map (·.name)
def namedF (t : List Fn) (x : Int) : ByteArray := ⟨(sj (namesF t x) 47).toArray⟩
/-- What NamedPath answers. -/
def namRes (t : List Fn) (x : Int) : ByteArray × Bool := if isTree t = true ∧ hasF t x = true then (namedF t x, true) else (⟨#[]⟩, false)
theorem word_mark {s : ByteArray} (h : isWord s = true) : ¬ (47 : UInt8) ∈ s.data.toList := by
  intro hm
  obtain ⟨i, hi, he⟩ := List.getElem_of_mem hm
  simp only [isWord, Bool.and_eq_true] at h
  have := upto_iff.1 h.2 i (by simpa using hi)
  unfold lowAt at this
  rw [List.getD, List.getElem?_eq_getElem hi, he] at this
  revert this
  decide
theorem word_size {s : ByteArray} (h : isWord s = true) : s.size ≤ 10 := by
  simp only [isWord, Bool.and_eq_true, decide_eq_true_eq] at h
  exact h.1.2
theorem sz_words : ∀ (ss : List ByteArray), (∀ s ∈ ss, s.size ≤ 10) → sz ss ≤ 10 * ss.length
  | [], _ => by simp [sz]
  | s :: ss, h => by
    have h1 := h s (by simp)
    have h2 := sz_words ss (fun x hx => h x (List.mem_cons_of_mem _ hx))
    simp only [sz, List.map_cons, List.sum_cons, List.length_cons] at *
    omega
theorem names_word {t : List Fn} (h : isTree t = true) {x : Int} (hx : hasF t x = true) : ∀ s ∈ namesF t x, isWord s = true := by
  intro s hs
  obtain ⟨f, hf, rfl⟩ := List.mem_map.1 hs
  exact (isFn_iff.1 ((isTree_iff.1 h).2.1 f (line_mem h x (.inr hx) f hf).1)).2.2
theorem line_ne {t : List Fn} (h : isTree t = true) {x : Int} (hx : hasF t x = true) : lineF t x ≠ [] := by rw [lineF_step h hx]; simp
theorem names_good {t : List Fn} (h : isTree t = true) {x : Int} (hx : hasF t x = true) : joinGood (namesF t x) 47 := by
  have hne : namesF t x ≠ [] := by unfold namesF; intro e; exact line_ne h hx (List.map_eq_nil_iff.1 e)
  refine ⟨hne, fun s hs => word_mark (names_word h hx s hs), ?_⟩
  have h1 := sj_len (namesF t x) 47 hne
  have h2 := sz_words _ (fun s hs => word_size (names_word h hx s hs))
  have h3 := path_le h (.inr hx)
  have h4 : (namesF t x).length ≤ 99 := by unfold namesF; unfold pathF at h3; rw [List.length_map] at h3 ⊢; exact h3
  omega
theorem line_at {t : List Fn} (h : isTree t = true) {x : Int} (hx : hasF t x = true) {k : Nat} (hk : k < (lineF t x).length) : hasF t ((lineF t x).getD k fnD).id = true ∧ t.getD (placeF t ((lineF t x).getD k fnD).id) fnD = (lineF t x).getD k fnD := by
  have hm := (line_mem h x (.inr hx) _ (List.getElem_mem hk)).1
  rw [getF_lt hk]
  obtain ⟨j, hj, he⟩ := List.getElem_of_mem hm
  rw [← he, ← getF_lt hj]
  exact ⟨tree_has hj, by rw [tree_place h hj]⟩
theorem sj_take_le (ss : List ByteArray) (k : Nat) (hk : k ≤ ss.length) : (sj (ss.take k) 47).length ≤ (sj ss 47).length := by
  rcases Nat.eq_zero_or_pos k with rfl | h0
  · simp [sj_nil]
  · have h1 := sj_len (ss.take k) 47 (take_ne' ss k h0 hk)
    have h2 := sj_len ss 47 (fun e => by rw [e] at hk; simp at hk; omega)
    have h3 := sz_take_le ss k
    rw [List.length_take] at h1
    omega
theorem sj_step (ss : List ByteArray) (k : Nat) (h : k < ss.length) (s : ByteArray) (hs : ss[k] = s) : sj (ss.take (k + 1)) 47 = if k = 0 then s.data.toList else sj (ss.take k) 47 ++ 47 :: s.data.toList := by
  rw [take_succ_snoc ss k h, hs]
  by_cases h0 : k = 0
  · subst h0; simp [sj_one]
  · rw [if_neg h0, sj_snoc _ _ _ (take_ne ss k (by omega) h)]

set_option maxRecDepth 20000 in
set_option maxHeartbeats 2000000 in
theorem l3Named_any (v : Value) (t : List Fn) (x : Int) (w : World) (h : RowR 3 rFn w v t) (ht : isTree t = true) (hx : hasF t x = true) :
    Calls Try.prog 50 #[v, .int .i64 x] w fun e w' => e = .returned (.string (namedF t x)) ∧ Below w.heap.size w w' := by
  have H := Lib.hid h
  have HT := Lib.hid ht
  have HX := Lib.hid hx
  obtain ⟨a1, c1, hv, hl1, hm1, r1⟩ := h.fns
  subst hv
  have R1 := Lib.hid r1
  have hp99 := path_le ht (.inr hx)
  have hgood := names_good ht hx
  have h15 := tree_len ht
  unfold maxLen at hm1
  clear h r1 ht hx
  obtain ⟨P, hP⟩ : ∃ P, pathF t x = P := ⟨_, rfl⟩
  have hPn : P.length = (lineF t x).length := by rw [← hP]; unfold pathF; rw [List.length_map]
  have hNn : (namesF t x).length = (lineF t x).length := by unfold namesF; rw [List.length_map]
  have hPk : ∀ k (hk : k < P.length), P[k] = ((lineF t x).getD k fnD).id := fun k hk => by
    have h1 : (pathF t x)[k]'(by rw [hP]; exact hk) = P[k] := by simp only [hP]
    rw [← h1]
    unfold pathF
    rw [List.getElem_map, getF_lt (by omega)]
  rw [hP] at hp99
  have HP := Lib.hid hP
  have HPN := Lib.hid hPn
  have HNN := Lib.hid hNn
  have HPK := Lib.hid hPk
  have HGOOD := Lib.hid hgood
  clear hP hPn hNn hPk hgood
  go_enter Try.func50, Try.ntmps50
  go_wp2_with fail
  refine (l3Path_any _ t x _ H.out HT.out (.inr HX.out)).mono ?_
  rw [HP.out]
  rintro e w1 ⟨vp, rfl, hp, b1⟩
  obtain ⟨pa, pc, hpv, hp1, hp2, hp3⟩ := hp.row
  subst hpv
  have HP3 := Lib.hid hp3
  have hs1 := b1.size
  unfold maxLen at hp2
  clear hp hp3
  go_wp2_with fail
  go_loopw [5, 7] (fun o i wr => ∃ k : Nat, k ≤ P.length ∧ i = .int .i64 k ∧ o = .string ⟨(sj ((namesF t x).take k) 47).toArray⟩ ∧ Below w1.heap.size w1 wr) (fun _ i _ => P.length - (intOf i).toNat)
  case atStart => exact ⟨0, Nat.zero_le _, rfl, by simp [sj_nil], Below.refl _ _⟩
  case round =>
    obtain ⟨k, hk, rfl, rfl, hbw⟩ := hrel
    by_cases hlt : k < P.length
    · obtain ⟨pb, po, hpb, rfl, ep⟩ := HP3.out.resolve_left (fun e => by rw [e] at hlt; simp at hlt)
      obtain ⟨hhas, hat⟩ := line_at HT.out HX.out (k := k) (by have := HPN.out; omega)
      have hpk := HPK.out k hlt
      obtain ⟨⟨fi, fp, fs⟩, hf⟩ : ∃ f, (lineF t x).getD k fnD = f := ⟨_, rfl⟩
      rw [hf] at hhas hat hpk
      have fpc := (hbw.cell (p := ⟨pb, po + k, none⟩) hpb).trans (ep k hlt)
      rw [hpk] at fpc
      simp only [vI] at fpc hhas hat
      have hnk : (namesF t x)[k]'(by have := HPN.out; have := HNN.out; omega) = fs := by
        unfold namesF
        rw [List.getElem_map, ← getF_lt, hf]
      have hsj := sj_step (namesF t x) k (by have := HPN.out; have := HNN.out; omega) fs hnk
      have hpl : placeF t fi < t.length := of_decide_eq_true hhas
      obtain ⟨bx, ox, hbx, rfl, e1⟩ := R1.out.resolve_left (fun e => by rw [e] at hpl; simp at hpl)
      obtain ⟨_, _, q2, hokf⟩ := e1 _ hpl
      rw [hat] at q2 hokf
      simp only at q2
      have hfs := hokf.2.2
      simp only at hfs
      have hfi := findI_yes hhas
      obtain ⟨J, hJ⟩ : ∃ J, placeF t fi = J := ⟨_, rfl⟩
      rw [hJ] at q2 hfi hpl
      have f2 := cell_kept q2 ((b1.trans (hbw.mono hs1)) : Below w.heap.size w wr)
      have HFI := Lib.hid hfi
      have HSJ := Lib.hid hsj
      have hszs : (sj ((namesF t x).take k) 47).length ≤ 4000 := Nat.le_trans (sj_take_le _ _ (by have := HPN.out; have := HNN.out; omega)) HGOOD.out.2.2
      have hszn : (sj ((namesF t x).take (k + 1)) 47).length ≤ 4000 := Nat.le_trans (sj_take_le _ _ (by have := HPN.out; have := HNN.out; omega)) HGOOD.out.2.2
      have hfs10 : fs.size ≤ 4000 := by
        rw [hsj] at hszn
        split at hszn
        · have e : fs.size = fs.data.toList.length := by rw [Array.length_toList]; rfl
          omega
        · rw [List.length_append, List.length_cons] at hszn
          have e : fs.size = fs.data.toList.length := by rw [Array.length_toList]; rfl
          omega
      have g0 : (0 : Int) ≤ (k : Int) := by omega
      have g1 : (k : Int) < (P.length : Int) := by omega
      have g2 : (0 : Int) ≤ (J : Int) := by omega
      have g3 : (J : Int) < (t.length : Int) := by omega
      clear ep hhas hat hpk hf hnk hsj hokf e1 hfi hJ q2
      obtain ⟨S, hS⟩ : ∃ S, sj ((namesF t x).take k) 47 = S := ⟨_, rfl⟩
      rw [hS] at hszs ⊢
      have HS := Lib.hid hS
      clear hszn hS
      rcases Nat.eq_zero_or_pos k with hk0 | hk0
      · have dk : decide ((0 : Int) < (k : Int)) = false := decide_eq_false (by omega)
        have dk2 : decide (0 < k) = false := decide_eq_false (by omega)
        have HK0 := Lib.hid hk0
        have hS0 : S = [] := by rw [← HS.out, hk0]; simp [sj_nil]
        subst hS0
        clear hk0
        go_wp2_with (first | (go_at_call 49; refine (l3Find_any _ t fi _ (H.out.below rFn_stable (b1.trans (hbw.mono hs1)))).mono ?_; rw [HFI.out]; rintro e w3 ⟨rfl, b3⟩; have f3 := cell_kept f2 b3))
        go_roundw
        case rel =>
          refine ⟨k + 1, by omega, by go_num, ?_, hbw.trans (b3.mono hbw.size)⟩
          rw [HSJ.out, if_pos HK0.out]
          first | rfl | (rw [← cat1]) | (simp)
        case measure => simp [intOf]; omega
      · have dk : decide ((0 : Int) < (k : Int)) = true := decide_eq_true (by omega)
        have dk2 : decide (0 < k) = true := decide_eq_true (by omega)
        go_wp2_with (first | (go_at_call 49; refine (l3Find_any _ t fi _ (H.out.below rFn_stable (b1.trans (hbw.mono hs1)))).mono ?_; rw [HFI.out]; rintro e w3 ⟨rfl, b3⟩; have f3 := cell_kept f2 b3))
        go_roundw
        case rel =>
          refine ⟨k + 1, by omega, by go_num, ?_, hbw.trans (b3.mono hbw.size)⟩
          rw [HSJ.out, if_neg (by omega), HS.out, ← cat3]
        case measure => simp [intOf]; omega
    · have hkt : k = P.length := by omega
      have HR : Hid ((⟨(sj ((namesF t x).take k) 47).toArray⟩ : ByteArray) = namedF t x) := Lib.hid (by
        unfold namedF
        rw [List.take_of_length_le (by have := HPN.out; have := HNN.out; omega)])
      clear hkt
      go_wp2_with fail
      go_ret
      exact ⟨ret_val (congrArg Value.string HR.out), below_chain b1 hbw⟩

set_option maxRecDepth 20000 in
set_option maxHeartbeats 2000000 in
theorem specNamedPath_any (v : Value) (t : List Fn) (x : Int) (w : World) (h : RowR 3 rFn w v t) (nm : ByteArray) (b : Bool) (hres : namRes t x = (nm, b)) :
    Calls Try.prog 11 #[v, .int .i64 x] w fun e w' => e = .returned (.tuple #[.string nm, .bool b]) ∧ Below w.heap.size w w' := by
  have H := Lib.hid h
  clear h
  unfold namRes at hres
  obtain ⟨c, hc⟩ : ∃ c, findI t x = c := ⟨_, rfl⟩
  have HC := Lib.hid hc
  rcases ht : isTree t with _ | _
  · rw [ht, if_neg (by simp)] at hres
    obtain ⟨rfl, rfl⟩ := Prod.mk.inj hres
    have HT := Lib.hid ht
    clear hres ht hc
    go_enter Try.func11, Try.ntmps11
    go_wp2_with (first | (go_at_call 48; refine (l3Good_any _ t _ H.out).mono ?_; rw [HT.out]; rintro e w1 ⟨rfl, b1⟩))
    go_ret2
    exact ⟨rfl, b1⟩
  · have HT := Lib.hid ht
    rcases hh : hasF t x with _ | _
    · have hcn : c < 0 := by rw [← hc]; exact findI_neg.2 hh
      rw [hh, if_neg (by simp)] at hres
      obtain ⟨rfl, rfl⟩ := Prod.mk.inj hres
      clear hres ht hc hh
      go_enter Try.func11, Try.ntmps11
      go_wp2_with (first | (go_at_call 48; refine (l3Good_any _ t _ H.out).mono ?_; rw [HT.out]; rintro e w1 ⟨rfl, b1⟩) | (go_at_call 49; refine (l3Find_any _ t x _ (H.out.below rFn_stable b1)).mono ?_; rw [HC.out]; rintro e w2 ⟨rfl, b2⟩; replace b2 := below_chain b1 b2))
      go_ret2
      exact ⟨rfl, b2⟩
    · have hcn : 0 ≤ c := by rw [← hc, findI_yes hh]; omega
      have HH := Lib.hid hh
      rw [ht, hh, if_pos ⟨rfl, rfl⟩] at hres
      obtain ⟨rfl, rfl⟩ := Prod.mk.inj hres
      obtain ⟨nm, hnm⟩ : ∃ nm, namedF t x = nm := ⟨_, rfl⟩
      rw [hnm]
      have HNM := Lib.hid hnm
      clear hres ht hc hh hnm
      go_enter Try.func11, Try.ntmps11
      go_wp2_with (first | (go_at_call 48; refine (l3Good_any _ t _ H.out).mono ?_; rw [HT.out]; rintro e w1 ⟨rfl, b1⟩) | (go_at_call 49; refine (l3Find_any _ t x _ (H.out.below rFn_stable b1)).mono ?_; rw [HC.out]; rintro e w2 ⟨rfl, b2⟩; replace b2 := below_chain b1 b2) | (go_at_call 50; refine (l3Named_any _ t x _ (H.out.below rFn_stable b2) HT.out HH.out).mono ?_; rw [HNM.out]; rintro e w3 ⟨rfl, b3⟩))
      go_ret2
      exact ⟨rfl, below_chain b2 b3⟩

theorem Try.info_str2 : (Try.prog.info? 9).map (fun i => (i.zero, i.size, i.bytes)) = some (some (.string ⟨#[]⟩), 1, 16) := by kernel_rfl

set_option maxRecDepth 20000 in
set_option maxHeartbeats 2000000 in
theorem implNamedPath_any (v : Value) (t : List Fn) (x : Int) (w : World) (h : RowR 3 rFn w v t) (nm : ByteArray) (b : Bool) (hres : namRes t x = (nm, b)) :
    Calls Try.prog 10 #[v, .int .i64 x] w fun e w' => e = .returned (.tuple #[.string nm, .bool b]) ∧ Below w.heap.size w w' := by
  obtain ⟨i0, hi, hz0, hz1, hz2⟩ := info_parts Try.info_str2
  have H := Lib.hid h
  clear h
  have hl99 := lineRes_len t x
  by_cases hc : isTree t = true ∧ hasF t x = true
  · have hL : lineRes t x = (lineF t x, true) := by unfold lineRes; rw [if_pos hc]
    unfold namRes at hres
    rw [if_pos hc] at hres
    obtain ⟨rfl, rfl⟩ := Prod.mk.inj hres
    rw [hL] at hl99
    have hgood := names_good hc.1 hc.2
    have hans := joinAns_yes hgood
    have hsz : ∀ s ∈ namesF t x, s.size ≤ 1099511627776 := fun s hs => by have := word_size (names_word hc.1 hc.2 s hs); omega
    have hnames : namesF t x = (lineF t x).map (·.name) := rfl
    obtain ⟨L, hLL⟩ : ∃ L, lineF t x = L := ⟨_, rfl⟩
    rw [hLL] at hL hl99 hnames
    obtain ⟨NS, hNS⟩ : ∃ NS, namesF t x = NS := ⟨_, rfl⟩
    unfold namedF
    rw [hNS] at hgood hans hsz hnames ⊢
    obtain ⟨T, hT⟩ : ∃ T, (⟨(sj NS 47).toArray⟩ : ByteArray) = T := ⟨_, rfl⟩
    rw [hT] at hans ⊢
    have hNL : NS.length = L.length := by rw [hnames, List.length_map]
    have HL := Lib.hid hL
    have HG := Lib.hid hgood
    have HANS := Lib.hid hans
    have HSZ := Lib.hid hsz
    have HNM := Lib.hid hnames
    have HNL := Lib.hid hNL
    simp only at hl99
    clear hres hL hgood hans hsz hnames hLL hNS hT hNL hc
    go_enter Try.func10, Try.ntmps10
    go_wp2_with fail
    refine (implLineTo_any _ t x _ H.out L true HL.out).mono ?_
    rintro e w1 ⟨v1, rfl, ho, b1⟩
    obtain ⟨a1, c1, hv, hl1, hm1, r1⟩ := ho.row.fns
    subst hv
    have R1 := Lib.hid r1
    have hs1 := b1.size
    unfold maxLen at hm1
    clear r1 ho
    go_wp2_with fail
    go_loopw [8, 21] (fun o i wr => ∃ k : Nat, k ≤ L.length ∧ i = .int .i64 k ∧ wr.ownsRow w1.heap.size 9 1 o k ((NS.take k).map Value.string) ∧ Below w1.heap.size w1 wr) (fun _ i _ => L.length - (intOf i).toNat)
    case atStart => exact ⟨0, Nat.zero_le _, rfl, by simpa using World.ownsRow_nil _ _ _ _, Below.refl _ _⟩
    case round =>
      obtain ⟨k, hk, rfl, hO, hbw⟩ := hrel
      by_cases hlt : k < L.length
      · obtain ⟨bx, ox, hbx, rfl, e1⟩ := R1.out.resolve_left (fun e => by rw [e] at hlt; simp at hlt)
        obtain ⟨q0, q1, q2, _⟩ := e1 k hlt
        obtain ⟨⟨fi, fp, fs⟩, hx⟩ : ∃ s, L.getD k fnD = s := ⟨_, rfl⟩
        rw [hx] at q0 q1 q2
        simp only at q0 q1 q2
        have hsu : (NS.take (k + 1)).map Value.string = (NS.take k).map Value.string ++ [.string fs] := by
          have hnk : NS[k]'(by rw [HNL.out]; exact hlt) = fs := by simp only [HNM.out, List.getElem_map]; rw [← getF_lt hlt, hx]
          rw [List.take_succ_eq_append_getElem (by rw [HNL.out]; exact hlt), List.map_append, hnk]
          rfl
        have f0 := cell_kept q0 hbw
        have f1 := cell_kept q1 hbw
        have f2 := cell_kept q2 hbw
        have HSU := Lib.hid hsu
        have g0 : (0 : Int) ≤ (k : Int) := by omega
        have g1 : (k : Int) < (L.length : Int) := by omega
        have hsz := hbw.size
        clear q0 q1 q2 e1 hx hsu
        go_wp2_with (first | (at_builtin; refine wpList_append_own _ rfl _ _ 69 rfl w1.heap.size 9 i0 (.string ⟨#[]⟩) 1 16 Try.underlying69 hi hz0 hz1 hz2 rfl (by decide) _ _ _ rfl ((hO.alloc _).alloc _) ⟨wr.heap.size + 1, 0, none⟩ 1 1 [.string fs] rfl rfl (cell_one_new' _ _ _ (by simp)) (by simp [Value.oneCell']) (by unfold maxLen; omega) (by omega) (by simp; omega) ?_; intro v' w6 hown' hgrow _))
        have HOWN := Lib.hid hown'
        have HB := Lib.hid (below_app (below_al hbw _) (Nat.le_refl _) (hO.alloc _) hgrow)
        clear hown' hgrow hO
        go_wp2_with fail
        go_roundw
        case rel => exact ⟨k + 1, by omega, by go_num, by rw [HSU.out]; exact HOWN.out, HB.out⟩
        case measure => simp [intOf]; omega
      · have hkt : k = L.length := by omega
        rw [List.take_of_length_le (by rw [HNL.out]; omega)] at hO
        have hr : RowOf Value.string wr _ NS := RowOf.of_owns hO
        have HR := Lib.hid hr
        clear hO hkt hr
        go_wp2_with fail
        refine (implJoin_one _ NS 47 _ HR.out HSZ.out HG.out.1 (by have := HNL.out; omega)).mono ?_
        rw [HANS.out]
        rintro e w7 ⟨rfl, b7⟩
        go_wp2_with fail
        go_ret2
        exact ⟨rfl, below_chain b1 (below_chain hbw b7)⟩
  · have hL : lineRes t x = ([], false) := by unfold lineRes; rw [if_neg hc]
    unfold namRes at hres
    rw [if_neg hc] at hres
    obtain ⟨rfl, rfl⟩ := Prod.mk.inj hres
    have HL := Lib.hid hL
    clear hres hL hl99 hc
    go_enter Try.func10, Try.ntmps10
    go_wp2_with fail
    refine (implLineTo_any _ t x _ H.out [] false HL.out).mono ?_
    rintro e w1 ⟨v1, rfl, ho, b1⟩
    go_wp2_with fail
    go_ret2
    exact ⟨rfl, b1⟩
end Go.Proofs.Ytpbjddiopfkgbaa
