/- Plain mathematics of chapter 3: paths as lists of parts, and the nodes of the program's tree as one list. Of no program. -/
import Derived.Test.YtgkfnmbjlfmcmaaGreatDoorZB3
set_option linter.unusedSimpArgs false
set_option linter.unusedVariables false
namespace Go.Proofs.YtgkfnmbjlfmcmaaGreatDoor

/-- Texts with slashes between. -/
def jl : List (List UInt8) → List UInt8
  | [] => []
  | [p] => p
  | p :: q :: ps => p ++ 47 :: jl (q :: ps)

theorem jl_snoc : ∀ (xs : List (List UInt8)) (y : List UInt8), xs ≠ [] → jl (xs ++ [y]) = jl xs ++ 47 :: y
  | [], _, h => absurd rfl h
  | [p], y, _ => rfl
  | p :: q :: ps, y, _ => by
    have ih := jl_snoc (q :: ps) y (by simp)
    rw [List.cons_append, List.cons_append, jl, ← List.cons_append, ih, jl, List.append_assoc, List.cons_append]

theorem cut_hit (c : UInt8) (l : List UInt8) : cut c (c :: l) = [] :: cut c l := by rw [cut, if_pos rfl]
theorem cut_miss {c b : UInt8} {l p : List UInt8} {ps : List (List UInt8)} (h : b ≠ c) (e : cut c l = p :: ps) : cut c (b :: l) = (b :: p) :: ps := by
  rw [cut, if_neg h, e]

theorem jl_cut : ∀ L : List UInt8, jl (cut 47 L) = L
  | [] => rfl
  | b :: L => by
    have ih := jl_cut L
    obtain ⟨p, ps, h⟩ := cut_cons 47 L
    rw [h] at ih
    by_cases e : b = 47
    · subst e; rw [cut_hit, h, jl, ih]; rfl
    · rw [cut_miss e h]
      cases ps with
      | nil => simpa [jl] using ih
      | cons q ps => rw [jl] at ih ⊢; rw [List.cons_append, ih]

/-- A part bears no slash, and is not empty. -/
def Good (P : List (List UInt8)) : Prop := ∀ p ∈ P, p ≠ [] ∧ (47 : UInt8) ∉ p

theorem cut_plain : ∀ p : List UInt8, (47 : UInt8) ∉ p → cut 47 p = [p]
  | [], _ => rfl
  | b :: l, h => by
    rw [List.mem_cons, not_or] at h
    exact cut_miss (Ne.symm h.1) (cut_plain l h.2)

theorem cut_glue : ∀ (p L : List UInt8), (47 : UInt8) ∉ p → cut 47 (p ++ 47 :: L) = p :: cut 47 L
  | [], L, _ => cut_hit 47 L
  | b :: l, L, h => by
    rw [List.mem_cons, not_or] at h
    rw [List.cons_append]
    exact cut_miss (Ne.symm h.1) (cut_glue l L h.2)

theorem cut_jl : ∀ P : List (List UInt8), P ≠ [] → (∀ p ∈ P, (47 : UInt8) ∉ p) → cut 47 (jl P) = P
  | [], h, _ => absurd rfl h
  | [p], _, h => cut_plain p (h p (by simp))
  | p :: q :: ps, _, h => by
    rw [jl, cut_glue _ _ (h p (by simp)), cut_jl (q :: ps) (by simp) (fun x hx => h x (by simp_all))]

/-- The parts of a path; of the empty one none. -/
def pth (s : ByteArray) : List (List UInt8) := if s.data.toList = [] then [] else cut 47 s.data.toList

theorem jl_pth (s : ByteArray) : jl (pth s) = s.data.toList := by
  unfold pth; split
  · rename_i h; rw [h]; rfl
  · exact jl_cut _

theorem jl_ne {P : List (List UInt8)} (h : Good P) (hn : P ≠ []) : jl P ≠ [] := by
  match P, hn with
  | [p], _ => exact (h p (by simp)).1
  | p :: q :: ps, _ => rw [jl]; simp

theorem jl_inj {P Q : List (List UInt8)} (hP : Good P) (hQ : Good Q) (h : jl P = jl Q) : P = Q := by
  by_cases h1 : P = []
  · subst h1
    by_cases h2 : Q = []
    · exact h2.symm
    · exact absurd h.symm (jl_ne hQ h2)
  · by_cases h2 : Q = []
    · subst h2; exact absurd h (jl_ne hP h1)
    · rw [← cut_jl P h1 (fun p hp => (hP p hp).2), ← cut_jl Q h2 (fun p hp => (hQ p hp).2), h]

theorem Good.dropLast {P : List (List UInt8)} (h : Good P) : Good P.dropLast := fun p hp => h p (List.dropLast_subset _ hp)
theorem Good.take {P : List (List UInt8)} (h : Good P) (k : Nat) : Good (P.take k) := fun p hp => h p (List.mem_of_mem_take hp)

/-- A node: the parts of its path, its numbers, its block, and what its two fields hold. -/
structure NodeM where
  path : List (List UInt8)
  ids : List Int
  ptr : Nat
  idsV : Value
  kidsV : Value

def NodeM.last (x : NodeM) : List UInt8 := x.path.getLastD []
def bts (l : List UInt8) : ByteArray := ⟨l.toArray⟩
theorem bts_list (l : List UInt8) : (bts l).data.toList = l := rfl
theorem bts_of (s : ByteArray) : bts s.data.toList = s := rfl
def NodeM.isKid (p : List (List UInt8)) (y : NodeM) : Bool := decide (y.path ≠ []) && decide (y.path.dropLast = p)

/-- The children, in the list's order. -/
def kids (T : List NodeM) (p : List (List UInt8)) : List NodeM := T.filter (NodeM.isKid p)

theorem isKid_iff {p : List (List UInt8)} {y : NodeM} : y.isKid p = true ↔ y.path = p ++ [y.last] := by
  unfold NodeM.isKid NodeM.last
  rw [Bool.and_eq_true, decide_eq_true_iff, decide_eq_true_iff]
  constructor
  · rintro ⟨h, rfl⟩
    rw [List.getLastD_eq_getLast?, List.getLast?_eq_some_getLast h]
    exact (List.dropLast_concat_getLast h).symm
  · intro h
    rw [h]
    simp

theorem kids_mem {T : List NodeM} {p : List (List UInt8)} {y : NodeM} : y ∈ kids T p ↔ y ∈ T ∧ y.path = p ++ [y.last] := by
  unfold kids; rw [List.mem_filter, isKid_iff]

theorem last_snoc {y : NodeM} {p : List (List UInt8)} {x : List UInt8} (h : y.path = p ++ [x]) : y.last = x := by
  unfold NodeM.last; rw [h]; simp

theorem kids_snoc {T : List NodeM} {p : List (List UInt8)} {y : NodeM} {x : List UInt8} (hy : y ∈ T) (h : y.path = p ++ [x]) : y ∈ kids T p := by
  rw [kids_mem, last_snoc h]; exact ⟨hy, h⟩

abbrev less (a b : List UInt8) : Bool := Op.bytesLess a b

theorem less_irrefl : ∀ a : List UInt8, less a a = false
  | [] => rfl
  | a :: l => by
    have := less_irrefl l
    simp only [less, Op.bytesLess] at this ⊢
    simp [this]

theorem less_trans : ∀ {a b c : List UInt8}, less a b = true → less b c = true → less a c = true
  | [], [], _, h, _ => by simp [less, Op.bytesLess] at h
  | [], _ :: _, [], _, h => by simp [less, Op.bytesLess] at h
  | [], _ :: _, _ :: _, _, _ => by simp [less, Op.bytesLess]
  | _ :: _, [], _, h, _ => by simp [less, Op.bytesLess] at h
  | _ :: _, _ :: _, [], _, h => by simp [less, Op.bytesLess] at h
  | a :: x, b :: y, c :: z, h, k => by
    simp only [less, Op.bytesLess, Bool.or_eq_true, Bool.and_eq_true, decide_eq_true_iff, beq_iff_eq] at h k ⊢
    rcases h with h | ⟨rfl, h⟩
    · rcases k with k | ⟨rfl, k⟩
      · exact .inl (UInt8.lt_trans h k)
      · exact .inl h
    · rcases k with k | ⟨rfl, k⟩
      · exact .inl k
      · exact .inr ⟨rfl, less_trans h k⟩

theorem less_tri : ∀ a b : List UInt8, less a b = true ∨ a = b ∨ less b a = true
  | [], [] => .inr (.inl rfl)
  | [], _ :: _ => .inl (by simp [less, Op.bytesLess])
  | _ :: _, [] => .inr (.inr (by simp [less, Op.bytesLess]))
  | a :: x, b :: y => by
    simp only [less, Op.bytesLess, Bool.or_eq_true, Bool.and_eq_true, decide_eq_true_iff, beq_iff_eq]
    have h3 : a.toNat < b.toNat ∨ a.toNat = b.toNat ∨ b.toNat < a.toNat := by omega
    rcases h3 with h | h | h
    · exact .inl (.inl (UInt8.lt_iff_toNat_lt.2 h))
    · have e : a = b := UInt8.toNat_inj.1 h
      subst e
      rcases less_tri x y with h | h | h
      · exact .inl (.inr ⟨rfl, h⟩)
      · exact .inr (.inl (by rw [h]))
      · exact .inr (.inr (.inr ⟨rfl, h⟩))
    · exact .inr (.inr (.inl (UInt8.lt_iff_toNat_lt.2 h)))

theorem less_asymm {a b : List UInt8} (h : less a b = true) : less b a = false := by
  cases e : less b a
  · rfl
  · have := less_trans h e; rw [less_irrefl] at this; cases this

theorem less_prefix : ∀ (p : List UInt8) {a b : List UInt8}, less (p ++ a) (p ++ b) = less a b
  | [], _, _ => rfl
  | c :: p, a, b => by
    have := less_prefix p (a := a) (b := b)
    simp only [less] at this ⊢
    simp [Op.bytesLess, this]

theorem less_longer : ∀ (p : List UInt8) {a : List UInt8}, a ≠ [] → less p (p ++ a) = true
  | [], a, h => by cases a with | nil => exact absurd rfl h | cons => simp [less, Op.bytesLess]
  | c :: p, a, h => by
    have := less_longer p h
    simp only [less] at this ⊢
    simp [Op.bytesLess, this]

theorem leB_less (a b : ByteArray) : leB a b = !(less b.toList a.toList) := by
  unfold leB
  rcases less_tri a.toList b.toList with h | h | h
  · rw [less_asymm h]; simp only [less] at h; rw [h]; rfl
  · rw [h, less_irrefl]; simp
  · have h2 := less_asymm h
    rw [h]
    have hne : (a.toList == b.toList) = false := by
      cases e : (a.toList == b.toList)
      · rfl
      · rw [beq_iff_eq] at e; rw [e, less_irrefl] at h; cases h
    simp only [less] at h2
    rw [h2, hne]; rfl

theorem cmp_neg : ∀ a b : List UInt8, decide (Lib.compareBytes a b < 0) = less a b
  | [], [] => by simp [Lib.compareBytes, less, Op.bytesLess]
  | [], _ :: _ => by simp [Lib.compareBytes, less, Op.bytesLess]
  | _ :: _, [] => by simp [Lib.compareBytes, less, Op.bytesLess]
  | a :: x, b :: y => by
    have ih := cmp_neg x y
    rw [Lib.compareBytes]
    simp only [less, Op.bytesLess] at ih ⊢
    by_cases h : a < b
    · simp [h]
    · by_cases h2 : b < a
      · have : ¬ a = b := fun e => by subst e; exact UInt8.lt_irrefl _ h2
        simp [h, h2, this]
      · have : a = b := UInt8.toNat_inj.1 (by rw [UInt8.lt_iff_toNat_lt] at h h2; omega)
        subst this
        simp [ih]

theorem cmp_zero : ∀ a b : List UInt8, decide (Lib.compareBytes a b = 0) = (a == b)
  | [], [] => by simp [Lib.compareBytes]
  | [], _ :: _ => by simp [Lib.compareBytes]
  | _ :: _, [] => by simp [Lib.compareBytes]
  | a :: x, b :: y => by
    have ih := cmp_zero x y
    rw [Lib.compareBytes]
    by_cases h : a < b
    · have : ¬ a = b := fun e => by subst e; exact UInt8.lt_irrefl _ h
      simp [h, this]
    · by_cases h2 : b < a
      · have : ¬ a = b := fun e => by subst e; exact UInt8.lt_irrefl _ h2
        simp [h, h2, this]
      · have : a = b := UInt8.toNat_inj.1 (by rw [UInt8.lt_iff_toNat_lt] at h h2; omega)
        subst this
        simp [ih]

/-- What the list of nodes is like: its paths rise, each one's front part is there, its parts are good. -/
structure TreeOk (T : List NodeM) : Prop where
  closed : ∀ x ∈ T, x.path ≠ [] → ∃ y ∈ T, y.path = x.path.dropLast
  good : ∀ x ∈ T, Good x.path
  sorted : T.Pairwise fun x y => less (jl x.path) (jl y.path) = true

/-- The children's last parts rise. -/
theorem TreeOk.kids_rise {T : List NodeM} (h : TreeOk T) (p : List (List UInt8)) : (kids T p).Pairwise fun x y => less x.last y.last = true := by
  have hs := h.sorted.filter (NodeM.isKid p)
  refine List.Pairwise.imp_of_mem ?_ hs
  intro a b ha hb hab
  obtain ⟨_, ea⟩ := kids_mem.1 ha
  obtain ⟨_, eb⟩ := kids_mem.1 hb
  rw [ea, eb] at hab
  by_cases hp : p = []
  · subst hp; simpa [jl] using hab
  · rw [jl_snoc _ _ hp, jl_snoc _ _ hp, show jl p ++ 47 :: a.last = (jl p ++ [47]) ++ a.last by simp, show jl p ++ 47 :: b.last = (jl p ++ [47]) ++ b.last by simp, less_prefix] at hab
    exact hab

theorem cut_noslash : ∀ (L : List UInt8), ∀ p ∈ cut 47 L, (47 : UInt8) ∉ p
  | [], p, h => by rw [cut] at h; rw [List.mem_singleton.1 h]; simp
  | b :: L, p, h => by
    have ih := cut_noslash L
    obtain ⟨q, ps, e⟩ := cut_cons 47 L
    by_cases hb : b = 47
    · subst hb
      rw [cut_hit] at h
      rcases List.mem_cons.1 h with rfl | h
      · simp
      · exact ih p h
    · rw [cut_miss hb e] at h
      rcases List.mem_cons.1 h with rfl | h
      · intro h2
        rcases List.mem_cons.1 h2 with h2 | h2
        · exact hb h2.symm
        · exact ih q (by rw [e]; simp) h2
      · exact ih p (by rw [e]; simp [h])

theorem partF_ne {p : ByteArray} {b : Bool} (h : partF p b = true) : p.data.toList ≠ [] := by
  unfold partF at h
  intro e
  have e2 : p.toList = [] := by simpa [Lib.toList_data] using e
  have e3 : p.size = 0 := by show p.data.size = 0; rw [← Array.length_toList, e]; rfl
  simp [e2, isWord, e3] at h

/-- The parts of a filter. -/
theorem filter_good {s : ByteArray} (h : filterP (parts s 47) = true) : pth s = (parts s 47).map (·.data.toList) ∧ Good (pth s) ∧ pth s ≠ [] := by
  have hg : ∀ q ∈ (parts s 47).map (·.data.toList), q ≠ [] ∧ (47 : UInt8) ∉ q := fun q hq => by
    refine ⟨?_, cut_noslash s.data.toList q (by rw [← parts_data]; exact hq)⟩
    obtain ⟨p, hp, rfl⟩ := List.mem_map.1 hq
    obtain ⟨j, hj, rfl⟩ := List.mem_iff_getElem.1 hp
    cases e : partF (parts s 47)[j] (decide (j + 1 = (parts s 47).length))
    · rw [filterP_bad hj e] at h; cases h
    · exact partF_ne e
  have hne : s.data.toList ≠ [] := fun e => by
    have h1 : (parts s 47).map (·.data.toList) = [[]] := by rw [parts_data, e]; rfl
    exact (hg [] (by rw [h1]; simp)).1 rfl
  have e : pth s = (parts s 47).map (·.data.toList) := by rw [pth, if_neg hne, parts_data]
  refine ⟨e, by rw [e]; exact hg, ?_⟩
  rw [e]
  intro h0
  have h1 := parts_pos s 47
  have h2 := congrArg List.length h0
  rw [List.length_map, List.length_nil] at h2; omega

end Go.Proofs.YtgkfnmbjlfmcmaaGreatDoor
