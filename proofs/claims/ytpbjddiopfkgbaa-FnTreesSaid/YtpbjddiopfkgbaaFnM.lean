/- What a function and a tree of functions are, the paths, and what the functions of trees answer, as plain mathematics. No program is named here. -/
import Derived.Test.YtpbjddiopfkgbaaUpto
import Derived.Test.YtpbjddiopfkgbaaWordM
namespace Go.Proofs.Ytpbjddiopfkgbaa
set_option linter.unusedVariables false

structure Fn where
  id : Int
  parent : Int
  name : ByteArray
  deriving DecidableEq
def fnD : Fn := ⟨0, 0, ⟨#[]⟩⟩
def isFn (f : Fn) : Bool := decide (1 ≤ f.id ∧ f.id ≤ 99) && (decide (0 ≤ f.parent ∧ f.parent < f.id) && isWord f.name)
theorem isFn_iff {f : Fn} : isFn f = true ↔ (1 ≤ f.id ∧ f.id ≤ 99) ∧ (0 ≤ f.parent ∧ f.parent < f.id) ∧ isWord f.name = true := by simp [isFn]
theorem getF_lt {xs : List Fn} {i : Nat} (h : i < xs.length) : xs.getD i fnD = xs[i] := by simp [List.getD, List.getElem?_eq_getElem h]

/-- The place of a function, or the length. -/
def placeF (t : List Fn) (x : Int) : Nat := t.findIdx (fun f => decide (f.id = x))
def hasF (t : List Fn) (x : Int) : Bool := decide (placeF t x < t.length)
theorem placeF_le (t : List Fn) (x : Int) : placeF t x ≤ t.length := List.findIdx_le_length
theorem hasF_iff {t : List Fn} {x : Int} : hasF t x = true ↔ ∃ f ∈ t, f.id = x := by
  unfold hasF placeF
  rw [decide_eq_true_eq, List.findIdx_lt_length]
  simp
theorem placeF_id {t : List Fn} {x : Int} (h : hasF t x = true) : (t.getD (placeF t x) fnD).id = x := by
  have hl : placeF t x < t.length := of_decide_eq_true h
  rw [getF_lt hl]
  exact of_decide_eq_true (List.findIdx_getElem (p := fun f : Fn => decide (f.id = x)) (xs := t) (w := hl))
theorem placeF_is {t : List Fn} {x : Int} {i : Nat} (hi : i < t.length) (h1 : ∀ j, j < i → (t.getD j fnD).id ≠ x) (h2 : (t.getD i fnD).id = x) : placeF t x = i := by
  unfold placeF
  rw [List.findIdx_eq hi]
  refine ⟨by rw [getF_lt hi] at h2; simpa using h2, fun j hj => ?_⟩
  have := h1 j hj
  rw [getF_lt (by omega)] at this
  simpa using this
theorem placeF_none {t : List Fn} {x : Int} (h : ∀ j, j < t.length → (t.getD j fnD).id ≠ x) : placeF t x = t.length := by
  unfold placeF
  rw [List.findIdx_eq_length]
  intro f hf
  obtain ⟨j, hj, rfl⟩ := List.getElem_of_mem hf
  have := h j hj
  rw [getF_lt hj] at this
  simpa using this
theorem hasF_none {t : List Fn} {x : Int} (h : ∀ j, j < t.length → (t.getD j fnD).id ≠ x) : hasF t x = false := by
  unfold hasF
  rw [placeF_none h]
  simp
/-- A function of the same parent and name. -/
def sibF (t : List Fn) (f : Fn) : Bool := t.any (fun g => decide (g.parent = f.parent ∧ g.name = f.name))
theorem sibF_iff {t : List Fn} {f : Fn} : sibF t f = true ↔ ∃ g ∈ t, g.parent = f.parent ∧ g.name = f.name := by simp [sibF]
def prevF (t : List Fn) : Nat → Int
  | 0 => 0
  | j + 1 => (t.getD j fnD).id
/-- The i-th function is valid and in its place. -/
def fnAtB (t : List Fn) (i : Nat) : Bool :=
  isFn (t.getD i fnD) && (decide (prevF t i < (t.getD i fnD).id) && ((decide ((t.getD i fnD).parent = 0) || hasF (t.take i) (t.getD i fnD).parent) && !sibF (t.take i) (t.getD i fnD)))
def isTree (t : List Fn) : Bool := decide (t.length ≤ 15) && upto (fnAtB t) t.length
theorem fnAtB_iff {t : List Fn} {i : Nat} : fnAtB t i = true ↔ isFn (t.getD i fnD) = true ∧ prevF t i < (t.getD i fnD).id ∧ ((t.getD i fnD).parent = 0 ∨ hasF (t.take i) (t.getD i fnD).parent = true) ∧ sibF (t.take i) (t.getD i fnD) = false := by
  simp [fnAtB]
/-- A tree, by its members. -/
theorem isTree_iff {t : List Fn} : isTree t = true ↔ t.length ≤ 15 ∧ (∀ f ∈ t, isFn f = true) ∧ t.Pairwise (fun a b => a.id < b.id) ∧ (∀ f ∈ t, f.parent = 0 ∨ ∃ g ∈ t, g.id = f.parent) ∧ t.Pairwise (fun a b => ¬ (a.parent = b.parent ∧ a.name = b.name)) := by
  unfold isTree
  rw [Bool.and_eq_true, decide_eq_true_eq, upto_iff, List.pairwise_iff_getElem, List.pairwise_iff_getElem]
  constructor
  · rintro ⟨h0, h⟩
    have hs : ∀ i j (hj : j < t.length) (hij : i < j), (t[i]'(by omega)).id < t[j].id := by
      intro i j
      induction j with
      | zero => intro _ h; omega
      | succ j ih =>
        intro hj hij
        have h1 := (fnAtB_iff.1 (h (j + 1) hj)).2.1
        simp only [prevF] at h1
        rw [getF_lt hj, getF_lt (by omega)] at h1
        rcases Nat.lt_or_ge i j with h' | h'
        · have := ih (by omega) h'; omega
        · obtain rfl : i = j := by omega
          exact h1
    refine ⟨h0, ?_, fun i j hi hj hij => hs i j hj hij, ?_, ?_⟩
    · intro f hf
      obtain ⟨j, hj, rfl⟩ := List.getElem_of_mem hf
      have := (fnAtB_iff.1 (h j hj)).1
      rwa [getF_lt hj] at this
    · intro f hf
      obtain ⟨j, hj, rfl⟩ := List.getElem_of_mem hf
      have := (fnAtB_iff.1 (h j hj)).2.2.1
      rw [getF_lt hj] at this
      refine this.imp id fun h1 => ?_
      obtain ⟨g, hg, he⟩ := hasF_iff.1 h1
      exact ⟨g, List.mem_of_mem_take hg, he⟩
    · intro i j hi hj hij hc
      have := (fnAtB_iff.1 (h j hj)).2.2.2
      rw [getF_lt hj] at this
      have h2 : sibF (t.take j) t[j] = true := sibF_iff.2 ⟨t[i], by rw [List.mem_take_iff_getElem]; exact ⟨i, by omega, rfl⟩, hc⟩
      rw [h2] at this
      cases this
  · rintro ⟨h0, h1, h2, h3, h4⟩
    refine ⟨h0, fun j hj => ?_⟩
    rw [fnAtB_iff, getF_lt hj]
    have hf := h1 _ (List.getElem_mem hj)
    refine ⟨hf, ?_, ?_, ?_⟩
    · cases j with
      | zero => simp only [prevF]; have := (isFn_iff.1 hf).1; omega
      | succ j => simp only [prevF]; rw [getF_lt (by omega)]; exact h2 j (j + 1) (by omega) hj (by omega)
    · refine (h3 _ (List.getElem_mem hj)).imp id fun ⟨g, hg, he⟩ => ?_
      obtain ⟨k, hk, rfl⟩ := List.getElem_of_mem hg
      have hp := (isFn_iff.1 hf).2.1
      have hkj : k < j := by
        rcases Nat.lt_trichotomy k j with h' | h' | h'
        · exact h'
        · subst h'; omega
        · have := h2 j k hj hk h'; omega
      exact hasF_iff.2 ⟨t[k], by rw [List.mem_take_iff_getElem]; exact ⟨k, by omega, rfl⟩, he⟩
    · rcases hb : sibF (t.take j) t[j] with _ | _
      · rfl
      · obtain ⟨g, hg, he⟩ := sibF_iff.1 hb
        rw [List.mem_take_iff_getElem] at hg
        obtain ⟨k, hk, rfl⟩ := hg
        exact absurd he (h4 k j (by omega) hj (by omega))
theorem notTree {t : List Fn} {k : Nat} (hk : k < t.length) (h : fnAtB t k = false) : isTree t = false := by
  rcases hb : isTree t with _ | _
  · rfl
  · simp only [isTree, Bool.and_eq_true] at hb
    rw [upto_iff.1 hb.2 k hk] at h
    cases h
theorem tree_len {t : List Fn} (h : isTree t = true) : t.length ≤ 15 := (isTree_iff.1 h).1
theorem tree_fn {t : List Fn} (h : isTree t = true) {i : Nat} (hi : i < t.length) : isFn (t.getD i fnD) = true := by rw [getF_lt hi]; exact (isTree_iff.1 h).2.1 _ (List.getElem_mem hi)
theorem tree_sorted {t : List Fn} (h : isTree t = true) {i j : Nat} (hij : i < j) (hj : j < t.length) : (t.getD i fnD).id < (t.getD j fnD).id := by
  rw [getF_lt hj, getF_lt (by omega)]
  exact List.pairwise_iff_getElem.1 (isTree_iff.1 h).2.2.1 i j (by omega) hj hij
theorem tree_place {t : List Fn} (h : isTree t = true) {i : Nat} (hi : i < t.length) : placeF t (t.getD i fnD).id = i :=
  placeF_is hi (fun j hj => by have := tree_sorted h hj hi; omega) rfl
theorem tree_has {t : List Fn} {i : Nat} (hi : i < t.length) : hasF t (t.getD i fnD).id = true := hasF_iff.2 ⟨_, by rw [getF_lt hi]; exact List.getElem_mem hi, rfl⟩
/-- The parent of a function. -/
def parF (t : List Fn) (x : Int) : Int := (t.getD (placeF t x) fnD).parent
theorem par_ok {t : List Fn} (h : isTree t = true) {x : Int} (hx : hasF t x = true) : (1 ≤ x ∧ x ≤ 99) ∧ (0 ≤ parF t x ∧ parF t x < x) ∧ (parF t x = 0 ∨ hasF t (parF t x) = true) := by
  have hl : placeF t x < t.length := of_decide_eq_true hx
  have h1 := isFn_iff.1 (tree_fn h hl)
  have h2 := placeF_id hx
  rw [h2] at h1
  refine ⟨h1.1, h1.2.1, ?_⟩
  have h3 := (isTree_iff.1 h).2.2.2.1 _ (List.getElem_mem hl)
  unfold parF
  rw [getF_lt hl]
  exact h3.imp id fun h => hasF_iff.2 h
def lineN (t : List Fn) : Nat → Int → List Fn
  | 0, _ => []
  | n + 1, x => if 0 < x then lineN t n (parF t x) ++ [t.getD (placeF t x) fnD] else []
/-- The functions on the path of one, from a root to it. -/
def lineF (t : List Fn) (x : Int) : List Fn := lineN t x.toNat x
def pathF (t : List Fn) (x : Int) : List Int := (lineF t x).map (·.id)
theorem lineN_fuel {t : List Fn} (h : isTree t = true) : ∀ (n m : Nat) (x : Int), (x = 0 ∨ hasF t x = true) → x.toNat ≤ n → x.toNat ≤ m → lineN t n x = lineN t m x := by
  intro n
  induction n with
  | zero =>
    intro m x hx h1 h2
    have : ¬ 0 < x := by omega
    cases m with
    | zero => rfl
    | succ m => simp [lineN, this]
  | succ n ih =>
    intro m x hx h1 h2
    by_cases h0 : 0 < x
    · have hh := hx.resolve_left (by omega)
      obtain ⟨a, b, c⟩ := par_ok h hh
      cases m with
      | zero => omega
      | succ m => simp only [lineN, if_pos h0]; rw [ih m (parF t x) c (by omega) (by omega)]
    · cases m with
      | zero => simp [lineN, h0]
      | succ m => simp [lineN, h0]
theorem lineF_zero (t : List Fn) : lineF t 0 = [] := by simp [lineF, lineN]
theorem lineF_step {t : List Fn} (h : isTree t = true) {x : Int} (hx : hasF t x = true) : lineF t x = lineF t (parF t x) ++ [t.getD (placeF t x) fnD] := by
  obtain ⟨a, b, c⟩ := par_ok h hx
  unfold lineF
  obtain ⟨n, hn⟩ : ∃ n, x.toNat = n + 1 := ⟨x.toNat - 1, by omega⟩
  rw [hn, lineN, if_pos (by omega), lineN_fuel h n (parF t x).toNat (parF t x) c (by omega) (Nat.le_refl _)]
theorem pathF_zero (t : List Fn) : pathF t 0 = [] := by simp [pathF, lineF_zero]
theorem pathF_step {t : List Fn} (h : isTree t = true) {x : Int} (hx : hasF t x = true) : pathF t x = pathF t (parF t x) ++ [x] := by
  unfold pathF
  rw [lineF_step h hx, List.map_append, List.map_cons, List.map_nil, placeF_id hx]
/-- By induction along the path. -/
theorem path_ind {t : List Fn} (h : isTree t = true) {C : Int → Prop} (h0 : C 0) (hs : ∀ x, hasF t x = true → C (parF t x) → C x) : ∀ x, (x = 0 ∨ hasF t x = true) → C x := by
  have key : ∀ n : Nat, ∀ x : Int, x.toNat ≤ n → (x = 0 ∨ hasF t x = true) → C x := by
    intro n
    induction n with
    | zero =>
      rintro x hn (rfl | hx)
      · exact h0
      · have := (par_ok h hx).1; omega
    | succ n ih =>
      rintro x hn (rfl | hx)
      · exact h0
      · obtain ⟨a, b, c⟩ := par_ok h hx
        exact hs x hx (ih _ (by omega) c)
  exact fun x => key x.toNat x (Nat.le_refl _)
theorem path_len {t : List Fn} (h : isTree t = true) (x : Int) (hx : x = 0 ∨ hasF t x = true) : (lineF t x).length ≤ x.toNat := by
  refine path_ind h (C := fun x => (lineF t x).length ≤ x.toNat) (by simp [lineF_zero]) (fun x hx ih => ?_) x hx
  obtain ⟨a, b, c⟩ := par_ok h hx
  rw [lineF_step h hx, List.length_append]
  simp only [List.length_cons, List.length_nil]
  omega
theorem line_mem {t : List Fn} (h : isTree t = true) (x : Int) (hx : x = 0 ∨ hasF t x = true) : ∀ f ∈ lineF t x, f ∈ t ∧ f.id ≤ x := by
  refine path_ind h (C := fun x => ∀ f ∈ lineF t x, f ∈ t ∧ f.id ≤ x) (by simp [lineF_zero]) (fun x hx ih => ?_) x hx
  obtain ⟨a, b, c⟩ := par_ok h hx
  intro f hf
  rw [lineF_step h hx] at hf
  rcases List.mem_append.1 hf with h1 | h1
  · have := ih f h1
    exact ⟨this.1, by omega⟩
  · have hl : placeF t x < t.length := of_decide_eq_true hx
    rw [List.mem_singleton] at h1
    subst h1
    exact ⟨by rw [getF_lt hl]; exact List.getElem_mem hl, by rw [placeF_id hx]; omega⟩

/-- The ids, among the first k, of those under x. -/
def underF (t : List Fn) (x : Int) (k : Nat) : List Int := ((t.take k).filter (fun f => decide (x ∈ pathF t f.id))).map (·.id)
theorem underF_zero (t : List Fn) (x : Int) : underF t x 0 = [] := by simp [underF]
theorem underF_succ (t : List Fn) (x : Int) {k : Nat} (hk : k < t.length) : underF t x (k + 1) = if x ∈ pathF t (t.getD k fnD).id then underF t x k ++ [(t.getD k fnD).id] else underF t x k := by
  unfold underF
  rw [List.take_add_one, List.getElem?_eq_getElem hk, getF_lt hk, List.filter_append, List.map_append]
  by_cases h : x ∈ pathF t t[k].id
  · simp [h]
  · simp [h]
theorem underF_len (t : List Fn) (x : Int) (k : Nat) : (underF t x k).length ≤ k := by
  unfold underF
  rw [List.length_map]
  exact Nat.le_trans (List.length_filter_le _ _) (by rw [List.length_take]; omega)
theorem par_at {t : List Fn} (h : isTree t = true) {k : Nat} (hk : k < t.length) : parF t (t.getD k fnD).id = (t.getD k fnD).parent := by
  unfold parF
  rw [tree_place h hk]
theorem par_before {t : List Fn} (h : isTree t = true) {k : Nat} (hk : k < t.length) : (t.getD k fnD).parent = 0 ∨ ∃ j, j < k ∧ (t.getD j fnD).id = (t.getD k fnD).parent := by
  simp only [isTree, Bool.and_eq_true] at h
  have := (fnAtB_iff.1 (upto_iff.1 h.2 k hk)).2.2.1
  refine this.imp id fun h1 => ?_
  obtain ⟨g, hg, he⟩ := hasF_iff.1 h1
  rw [List.mem_take_iff_getElem] at hg
  obtain ⟨j, hj, rfl⟩ := hg
  exact ⟨j, by omega, by rw [getF_lt (by omega)]; exact he⟩
theorem mem_underF {t : List Fn} {x y : Int} {k : Nat} (hk : k ≤ t.length) : y ∈ underF t x k ↔ ∃ j, j < k ∧ (t.getD j fnD).id = y ∧ x ∈ pathF t y := by
  unfold underF
  simp only [List.mem_map, List.mem_filter, decide_eq_true_eq]
  constructor
  · rintro ⟨f, ⟨h1, h2⟩, rfl⟩
    rw [List.mem_take_iff_getElem] at h1
    obtain ⟨j, hj, rfl⟩ := h1
    exact ⟨j, by omega, by rw [getF_lt (by omega)], h2⟩
  · rintro ⟨j, hj, rfl, h2⟩
    refine ⟨t.getD j fnD, ⟨?_, h2⟩, rfl⟩
    rw [List.mem_take_iff_getElem]
    exact ⟨j, by omega, by rw [getF_lt (by omega)]⟩
/-- Who is under x: x itself, and whose parent is. -/
theorem under_step {t : List Fn} (h : isTree t = true) (x : Int) {k : Nat} (hk : k < t.length) : x ∈ pathF t (t.getD k fnD).id ↔ ((t.getD k fnD).id = x ∨ (t.getD k fnD).parent ∈ underF t x k) := by
  rw [pathF_step h (tree_has hk), par_at h hk, List.mem_append, List.mem_singleton, mem_underF (by omega)]
  constructor
  · rintro (h1 | h1)
    · rcases par_before h hk with h2 | ⟨j, hj, he⟩
      · rw [h2, pathF_zero] at h1; cases h1
      · exact .inr ⟨j, hj, he, h1⟩
    · exact .inl h1.symm
  · rintro (h1 | ⟨j, hj, he, h1⟩)
    · exact .inr h1.symm
    · exact .inl h1
theorem under_any {t : List Fn} (h : isTree t = true) (x : Int) : 0 < (underF t x t.length).length ↔ hasF t x = true := by
  constructor
  · intro h1
    obtain ⟨y, hy⟩ := List.exists_mem_of_length_pos h1
    obtain ⟨j, hj, rfl, h2⟩ := (mem_underF (Nat.le_refl _)).1 hy
    unfold pathF at h2
    obtain ⟨f, hf, he⟩ := List.mem_map.1 h2
    exact hasF_iff.2 ⟨f, (line_mem h _ (.inr (tree_has hj)) f hf).1, he⟩
  · intro h1
    have hl : placeF t x < t.length := of_decide_eq_true h1
    have h3 := placeF_id h1
    have : x ∈ underF t x t.length := (mem_underF (Nat.le_refl _)).2 ⟨placeF t x, hl, h3, by rw [pathF_step h h1]; simp⟩
    exact List.length_pos_of_mem this
theorem under_none {t : List Fn} (h : isTree t = true) {x : Int} (hx : hasF t x = false) : underF t x t.length = [] := by
  rcases Nat.eq_zero_or_pos (underF t x t.length).length with h1 | h1
  · exact List.length_eq_zero_iff.1 h1
  · rw [(under_any h x).1 h1] at hx; cases hx

/-- Without one function. -/
def delF (t : List Fn) (x : Int) : List Fn := t.filter (fun f => decide (f.id ≠ x))
def hasChild (t : List Fn) (x : Int) : Bool := t.any (fun f => decide (f.parent = x))
theorem hasChild_iff {t : List Fn} {x : Int} : hasChild t x = true ↔ ∃ f ∈ t, f.parent = x := by simp [hasChild]
theorem delF_eq {t : List Fn} (h : isTree t = true) {x : Int} (hx : hasF t x = true) : delF t x = t.take (placeF t x) ++ t.drop (placeF t x + 1) := by
  have hl : placeF t x < t.length := of_decide_eq_true hx
  have hk := placeF_id hx
  have e1 : t = t.take (placeF t x) ++ t.getD (placeF t x) fnD :: t.drop (placeF t x + 1) := by
    rw [getF_lt hl, List.getElem_cons_drop hl, List.take_append_drop]
  unfold delF
  conv => lhs; rw [e1]
  rw [List.filter_append, List.filter_cons, if_neg (by rw [hk]; simp)]
  congr 1
  · rw [List.filter_eq_self]
    intro a ha
    obtain ⟨j, hj, rfl⟩ := List.getElem_of_mem ha
    rw [List.length_take] at hj
    have := tree_sorted h (i := j) (j := placeF t x) (by omega) hl
    rw [hk, getF_lt (by omega)] at this
    simp only [List.getElem_take]
    simp; omega
  · rw [List.filter_eq_self]
    intro a ha
    obtain ⟨j, hj, rfl⟩ := List.getElem_of_mem ha
    rw [List.length_drop] at hj
    have := tree_sorted h (i := placeF t x) (j := placeF t x + 1 + j) (by omega) (by omega)
    rw [hk, getF_lt (i := placeF t x + 1 + j) (by omega)] at this
    simp only [List.getElem_drop]
    simp; omega
/-- What is left is a tree just if nobody's parent was taken away. -/
theorem del_tree {t : List Fn} (h : isTree t = true) {x : Int} (hx : hasF t x = true) : isTree (delF t x) = !hasChild t x := by
  obtain ⟨h1, h2, h3, h4, h5⟩ := isTree_iff.1 h
  have hx1 := (par_ok h hx).1
  rw [Bool.eq_iff_iff, isTree_iff]
  unfold delF
  constructor
  · rintro ⟨_, _, _, k4, _⟩
    rcases hc : hasChild t x with _ | _
    · rfl
    · obtain ⟨f, hf, he⟩ := hasChild_iff.1 hc
      have hp := (isFn_iff.1 (h2 f hf)).2.1
      have hm : f ∈ t.filter (fun f => decide (f.id ≠ x)) := List.mem_filter.2 ⟨hf, by simp; omega⟩
      rcases k4 f hm with k | ⟨g, hg, k⟩
      · omega
      · have := (List.mem_filter.1 hg).2
        simp at this
        omega
  · intro hc
    refine ⟨Nat.le_trans (List.length_filter_le _ _) h1, fun f hf => h2 f (List.mem_filter.1 hf).1, h3.filter _, fun f hf => ?_, h5.filter _⟩
    have hf' := (List.mem_filter.1 hf).1
    refine (h4 f hf').imp id fun ⟨g, hg, he⟩ => ⟨g, List.mem_filter.2 ⟨hg, ?_⟩, he⟩
    have : ¬ f.parent = x := fun e => by
      rw [hasChild_iff.2 ⟨f, hf', e⟩] at hc
      cases hc
    simp; omega
/-- A list whose beginning is none is no tree. -/
theorem tree_prefix {t : List Fn} {l : List Fn} (h : isTree (t ++ l) = true) : isTree t = true := by
  simp only [isTree, Bool.and_eq_true, decide_eq_true_eq, List.length_append] at h ⊢
  refine ⟨by omega, upto_true fun j hj => ?_⟩
  have := fnAtB_iff.1 (upto_iff.1 h.2 j (by omega))
  have e1 : (t ++ l).getD j fnD = t.getD j fnD := by rw [getF_lt hj, getF_lt (by rw [List.length_append]; omega), List.getElem_append_left hj]
  have e2 : (t ++ l).take j = t.take j := by rw [List.take_append_of_le_length (by omega)]
  have e3 : prevF (t ++ l) j = prevF t j := by
    cases j with
    | zero => rfl
    | succ i => simp only [prevF]; rw [getF_lt (xs := t ++ l) (i := i) (by rw [List.length_append]; omega), getF_lt (xs := t) (i := i) (by omega), List.getElem_append_left (by omega)]
  rw [e1, e2, e3] at this
  exact fnAtB_iff.2 this

/-- The id behind the last one. -/
def nextId (t : List Fn) : Int := if t.length = 0 then 1 else (t.getD (t.length - 1) fnD).id + 1

/-- The deepest among the first k, and their depth. -/
def deepF (t : List Fn) : Nat → List Int × Nat
  | 0 => ([], 0)
  | k + 1 =>
    let n := (pathF t (t.getD k fnD).id).length
    let p := deepF t k
    if p.2 < n then ([(t.getD k fnD).id], n) else if n = p.2 then (p.1 ++ [(t.getD k fnD).id], p.2) else p
end Go.Proofs.Ytpbjddiopfkgbaa
