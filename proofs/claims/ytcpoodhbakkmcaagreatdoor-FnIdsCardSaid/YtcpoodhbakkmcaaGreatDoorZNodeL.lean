/- Plain mathematics of chapter 3: the list of knots and the program's tree. -/
import Derived.Test.YtcpoodhbakkmcaaGreatDoorZB6
set_option linter.unusedSimpArgs false
set_option linter.unusedVariables false
namespace Go.Proofs.YtcpoodhbakkmcaaGreatDoor

def keyOf (y : NodeM) : List (List UInt8) × List Int := (y.path, y.ids)
def keyK (k : KnotM) : List (List UInt8) × List Int := (pth k.1, k.2)

theorem list_toList (s : ByteArray) : s.toList = s.data.toList := Lib.toList_data s

theorem aboveTo_skip (s : ByteArray) : ∀ (d j : Nat), (∀ i, j ≤ i → i < j + d → s.data.toList[i]? ≠ some 47) → aboveTo s (j + d) = aboveTo s j
  | 0, _, _ => rfl
  | d + 1, j, h => by
    rw [← Nat.add_assoc, aboveTo, if_neg (h (j + d) (by omega) (by omega))]
    exact aboveTo_skip s d j (fun i h1 h2 => h i h1 (by omega))

/-- What is ahead of the last slash. -/
theorem above_pth {s : ByteArray} (hg : Good (pth s)) (hne : pth s ≠ []) : (above s).data.toList = jl (pth s).dropLast := by
  have hj := jl_pth s
  have hd := List.dropLast_concat_getLast hne
  obtain ⟨P, hP⟩ : ∃ P, (pth s).dropLast = P := ⟨_, rfl⟩
  obtain ⟨x, hx⟩ : ∃ x, (pth s).getLast hne = x := ⟨_, rfl⟩
  rw [hP, hx] at hd
  have hxs : (47 : UInt8) ∉ x := (hg x (by rw [← hx]; exact List.getLast_mem hne)).2
  rw [hP]
  rw [← hd] at hj
  by_cases h0 : P = []
  · subst h0
    have hs : s.data.toList = x := by rw [← hj]; rfl
    unfold above
    have := aboveTo_skip s s.size 0 (fun i _ hi e => by
      rw [hs] at e
      exact hxs (List.mem_of_getElem? e))
    rw [Nat.zero_add] at this
    rw [this]; rfl
  · rw [jl_snoc P x h0] at hj
    have hsz : s.size = (jl P).length + 1 + x.length := by
      show s.data.size = _
      rw [← Array.length_toList, ← hj]; simp; omega
    unfold above
    have := aboveTo_skip s x.length ((jl P).length + 1) (fun i h1 h2 e => by
      rw [← hj, List.getElem?_append_right (by omega), show i - (jl P).length = (i - (jl P).length - 1) + 1 by omega, List.getElem?_cons_succ] at e
      exact hxs (List.mem_of_getElem? e))
    rw [hsz, this, aboveTo, if_pos (by rw [← hj, List.getElem?_append_right (Nat.le_refl _)]; simp), extract_list, List.drop_zero, ← hj, List.take_left]

theorem pth_above {s : ByteArray} (hg : Good (pth s)) (hne : pth s ≠ []) : pth (above s) = (pth s).dropLast := by
  have h := above_pth hg hne
  by_cases h0 : (pth s).dropLast = []
  · rw [h0] at h ⊢
    rw [pth, if_pos (by rw [h]; rfl)]
  · rw [pth, if_neg (by rw [h]; exact jl_ne hg.dropLast h0), h, cut_jl _ h0 (fun p hp => (hg.dropLast p hp).2)]

theorem find_from (p : ByteArray) : ∀ (l : List KnotM) (k : Nat), 0 ≤ findFrom p l k ↔ ∃ x ∈ l, x.1.toList = p.toList
  | [], k => by simp [findFrom]
  | a :: l, k => by
    rw [findFrom]
    by_cases h : a.1.toList = p.toList
    · rw [if_pos (beq_iff_eq.2 h)]; simp [h]
    · rw [if_neg (by rw [beq_iff_eq]; exact h), find_from p l (k + 1)]; simp [h]

theorem find_ge {l : List KnotM} {p : ByteArray} : 0 ≤ find l p ↔ ∃ x ∈ l, x.1.toList = p.toList := find_from p l 0

theorem pth_inj {a b : ByteArray} (h : pth a = pth b) : a.data.toList = b.data.toList := by rw [← jl_pth a, ← jl_pth b, h]

/-- What a right list of knots has at each place. -/
theorem trie_at {l : List KnotM} (h : trieB l = true) {j : Nat} (hj : j < l.length) (h1 : 1 ≤ j) :
    less (l[j - 1]'(by omega)).1.toList l[j].1.toList = true ∧ filterP (parts l[j].1 47) = true ∧ rises l[j].2 = true ∧ (∃ x ∈ l, x.1.toList = (above l[j].1).toList) ∧ (l[j].2.isEmpty = false ∨ childB l l[j].1 = true) := by
  have hk : knotOk l (l[j - 1]'(by omega)) l[j] = true := by
    cases e : knotOk l (l[j - 1]'(by omega)) l[j]
    · rw [knotsTo_bad h1 hj e] at h; cases h
    · rfl
  rw [knotOk, leB_less, Bool.and_eq_true, Bool.and_eq_true, Bool.and_eq_true, Bool.and_eq_true, decide_eq_true_iff, find_ge, Bool.or_eq_true, Bool.not_not, Bool.not_eq_true'] at hk
  exact ⟨hk.1, hk.2.1, hk.2.2.1, hk.2.2.2.1, hk.2.2.2.2⟩

theorem trie_head {l : List KnotM} (h : trieB l = true) : headOk l = true := by rw [trieB, Bool.and_eq_true] at h; exact h.1

theorem trie_lt {l : List KnotM} (h : trieB l = true) : ∀ (d i : Nat) (hj : i + d + 1 < l.length), less (l[i]'(by omega)).1.toList l[i + d + 1].1.toList = true
  | 0, i, hj => (trie_at h hj (by omega)).1
  | d + 1, i, hj => less_trans (trie_lt h d i (by omega)) (trie_at h (j := i + (d + 1) + 1) hj (by omega)).1

theorem trie_no_less {l : List KnotM} {k : Nat} (hk : k < l.length) (h1 : 1 ≤ k) (h : less (l[k - 1]'(by omega)).1.toList l[k].1.toList = false) : trieB l = false := by
  cases e : trieB l
  · rfl
  · rw [(trie_at e hk h1).1] at h; cases h

theorem key_mem {T : List NodeM} {l : List KnotM} (hk : T.map keyOf = l.map keyK) {x : KnotM} (hx : x ∈ l) : ∃ y ∈ T, y.path = pth x.1 ∧ y.ids = x.2 := by
  have : keyK x ∈ T.map keyOf := by rw [hk]; exact List.mem_map_of_mem hx
  obtain ⟨y, hy, e⟩ := List.mem_map.1 this
  simp only [keyOf, keyK, Prod.mk.injEq] at e
  exact ⟨y, hy, e⟩
theorem key_mem' {T : List NodeM} {l : List KnotM} (hk : T.map keyOf = l.map keyK) {y : NodeM} (hy : y ∈ T) : ∃ x ∈ l, y.path = pth x.1 ∧ y.ids = x.2 := by
  have : keyOf y ∈ l.map keyK := by rw [← hk]; exact List.mem_map_of_mem hy
  obtain ⟨x, hx, e⟩ := List.mem_map.1 this
  simp only [keyOf, keyK, Prod.mk.injEq] at e
  exact ⟨x, hx, e.1.symm, e.2.symm⟩

theorem ptr_some {T : List NodeM} {P : List (List UInt8)} {y : NodeM} (hy : y ∈ T) (h : y.path = P) : (ptrOf T P).isSome = true := by
  unfold ptrOf
  cases e : T.find? fun y => decide (y.path = P) with
  | none => have := List.find?_eq_none.1 e y hy; simp [h] at this
  | some _ => rfl

theorem trie_no_link {l : List KnotM} {T : List NodeM} {k : Nat} (hk : k < l.length) (h1 : 1 ≤ k) (hT : T.map keyOf = (l.take k).map keyK) (h : linkB T l[k].1 l[k].2 = false) : trieB l = false := by
  cases e : trieB l
  · rfl
  · obtain ⟨_, a2, a3, ⟨x, hx, hxa⟩, _⟩ := trie_at e hk h1
    rw [linkB, a2, a3] at h
    obtain ⟨g1, g2, g3⟩ := filter_good a2
    obtain ⟨i, hi, rfl⟩ := List.mem_iff_getElem.1 hx
    have hap := above_pth g2 g3
    rw [list_toList, list_toList, hap] at hxa
    have hlt : less l[i].1.toList l[k].1.toList = true := by
      rw [list_toList, hxa, list_toList, ← jl_pth l[k].1]
      have hd := List.dropLast_concat_getLast g3
      by_cases h0 : (pth l[k].1).dropLast = []
      · rw [h0]
        have := jl_ne g2 g3
        cases e2 : jl (pth l[k].1) with
        | nil => exact absurd e2 this
        | cons => rfl
      · rw [← hd, List.dropLast_concat, jl_snoc _ _ h0]
        exact less_longer _ (by simp)
    have hik : i < k := by
      rcases Nat.lt_trichotomy i k with h2 | h2 | h2
      · exact h2
      · subst h2; rw [less_irrefl] at hlt; cases hlt
      · have := trie_lt e (i - k - 1) k (by omega)
        have e3 : k + (i - k - 1) + 1 = i := by omega
        simp only [e3] at this
        rw [less_asymm this] at hlt; cases hlt
    obtain ⟨y, hy, hyp, _⟩ := key_mem hT (x := l[i]) (List.mem_take_iff_getElem.2 ⟨i, by omega, rfl⟩)
    have : y.path = (pth l[k].1).dropLast := by
      rw [hyp, ← pth_above g2 g3]
      unfold pth
      rw [hxa, hap]
    rw [ptr_some hy this] at h
    cases h

theorem hasE_yes {T : List NodeM} : ∀ (n : Nat) (p : List (List UInt8)), hasE T n p = true → ∃ y ∈ T, y.path ≠ [] ∧ emptyB T y = true
  | 0, p, h => by cases h
  | n + 1, p, h => by
    rw [hasE, List.any_eq_true] at h
    obtain ⟨c, hc, h⟩ := h
    rw [Bool.or_eq_true] at h
    rcases h with h | h
    · exact ⟨c, (kids_mem.1 hc).1, by rw [(kids_mem.1 hc).2]; simp, h⟩
    · exact hasE_yes n c.path h

theorem hasE_up {T : List NodeM} (hT : TreeOk T) {y : NodeM} (hy : y ∈ T) (he : emptyB T y = true) : ∀ (r : List (List UInt8)) (n : Nat) (p : List (List UInt8)), r ≠ [] → y.path = p ++ r → r.length ≤ n → hasE T n p = true
  | [], _, _, h, _, _ => absurd rfl h
  | a :: r, 0, _, _, _, h => by simp at h
  | a :: r, n + 1, p, _, e, h => by
    obtain ⟨z, hz, ez⟩ := hT.front (y.path.length - (p.length + 1)) (p.length + 1) y hy (by rw [e]; simp)
    have e2 : z.path = p ++ [a] := by rw [ez, e, List.take_length_add_append]; rfl
    rw [hasE, List.any_eq_true]
    refine ⟨z, kids_snoc hz e2, ?_⟩
    rw [Bool.or_eq_true]
    cases r with
    | nil => exact .inl (by rw [hT.same hz hy (by rw [e2, e])]; exact he)
    | cons b r => exact .inr (hasE_up hT hy he (b :: r) n z.path (by simp) (by rw [e2, e]; simp) (by simpa using h))

theorem pth_len {s : ByteArray} (h : filterP (parts s 47) = true) : (pth s).length ≤ 6 := by
  rw [(filter_good h).1, List.length_map]
  rw [filterP, Bool.and_eq_true, decide_eq_true_iff] at h
  exact h.1

/-- The tree tells whether the list is right. -/
theorem trie_of_tree {l : List KnotM} {T : List NodeM} (hT : TreeOk T) (hk : T.map keyOf = l.map keyK) (h0 : headOk l = true)
    (hall : ∀ j (h : j < l.length), 1 ≤ j → less (l[j - 1]'(by omega)).1.toList l[j].1.toList = true ∧ filterP (parts l[j].1 47) = true ∧ rises l[j].2 = true) : trieB l = !(hasE T 6 []) := by
  have hfil : ∀ x ∈ l, pth x.1 ≠ [] → filterP (parts x.1 47) = true := fun x hx hne => by
    obtain ⟨j, hj, rfl⟩ := List.mem_iff_getElem.1 hx
    by_cases h1 : 1 ≤ j
    · exact (hall j hj h1).2.1
    · obtain rfl : j = 0 := by omega
      cases l with
      | nil => simp at hj
      | cons a l =>
        rw [headOk, Bool.and_eq_true, beq_iff_eq, list_toList] at h0
        exact absurd (by simp [pth, h0.1]) hne
  have hchild : ∀ x ∈ l, childB l x.1 = !(kids T (pth x.1)).isEmpty := fun x hx => by
    rw [Bool.eq_iff_iff, Bool.not_eq_true', List.isEmpty_eq_false_iff_exists_mem]
    constructor
    · intro h
      rw [childB, List.any_eq_true] at h
      obtain ⟨z, hz, ez⟩ := h
      rw [beq_iff_eq, list_toList, list_toList] at ez
      have hzl : z ∈ l := List.mem_of_mem_drop hz
      obtain ⟨j, hj, rfl⟩ := List.mem_iff_getElem.1 hz
      rw [List.getElem_drop] at ez hzl
      rw [List.length_drop] at hj
      have hf := (hall (1 + j) (by omega) (by omega)).2.1
      obtain ⟨g1, g2, g3⟩ := filter_good hf
      obtain ⟨y, hy, hyp, _⟩ := key_mem hk hzl
      have hab := pth_above g2 g3
      have e : pth x.1 = (pth l[1 + j].1).dropLast := by
        rw [← hab]; unfold pth; rw [ez]
      refine ⟨y, kids_snoc hy (x := (pth l[1 + j].1).getLast g3) ?_⟩
      rw [hyp, e, List.dropLast_concat_getLast g3]
    · rintro ⟨y, hy⟩
      obtain ⟨hyT, hyp⟩ := kids_mem.1 hy
      obtain ⟨z, hz, hzp, _⟩ := key_mem' hk hyT
      have hne : pth z.1 ≠ [] := by rw [← hzp, hyp]; simp
      obtain ⟨g1, g2, g3⟩ := filter_good (hfil z hz hne)
      rw [childB, List.any_eq_true]
      obtain ⟨j, hj, rfl⟩ := List.mem_iff_getElem.1 hz
      have h1 : 1 ≤ j := by
        rcases Nat.lt_or_ge 0 j with h | h
        · exact h
        · obtain rfl : j = 0 := by omega
          cases l with
          | nil => simp at hj
          | cons a l =>
            rw [headOk, Bool.and_eq_true, beq_iff_eq, list_toList] at h0
            exact absurd (by simp [pth, h0.1]) hne
      refine ⟨l[j], List.mem_iff_getElem.2 ⟨j - 1, by rw [List.length_drop]; omega, by rw [List.getElem_drop]; congr 1; omega⟩, ?_⟩
      rw [beq_iff_eq, list_toList, list_toList]
      apply pth_inj
      rw [pth_above g2 g3, ← hzp, hyp, List.dropLast_concat]
  cases e : hasE T 6 []
  · have hno : ∀ y ∈ T, y.path ≠ [] → emptyB T y = false := fun y hy hne => by
      cases e2 : emptyB T y
      · rfl
      · obtain ⟨x, hx, hxp, _⟩ := key_mem' hk hy
        have := hasE_up hT hy e2 y.path 6 [] hne rfl (by rw [hxp]; exact pth_len (hfil x hx (by rw [← hxp]; exact hne)))
        rw [e] at this; cases this
    rw [trieB, h0]
    show knotsTo l l.length = true
    unfold knotsTo
    rw [List.all_eq_true]
    intro j hj
    have hj := List.mem_range.1 hj
    rw [knot_at hj]
    by_cases h1 : 1 ≤ j
    · obtain ⟨a1, a2, a3⟩ := hall j hj h1
      obtain ⟨g1, g2, g3⟩ := filter_good a2
      obtain ⟨y, hy, hyp, hyi⟩ := key_mem hk (List.getElem_mem hj)
      have hne : y.path ≠ [] := by rw [hyp]; exact g3
      have hE := hno y hy hne
      rw [emptyB, hyp, hyi] at hE
      have hf : 0 ≤ find l (above l[j].1) := by
        rw [find_ge]
        obtain ⟨z, hz, ez⟩ := hT.closed y hy hne
        obtain ⟨x, hx, hxp, _⟩ := key_mem' hk hz
        refine ⟨x, hx, ?_⟩
        rw [list_toList, list_toList]
        apply pth_inj
        rw [pth_above g2 g3, ← hxp, ez, hyp]
      rw [knot_at (by omega), knotOk, leB_less, a1, a2, a3, decide_eq_true hf, hchild _ (List.getElem_mem hj), Bool.or_eq_true]
      right
      cases e1 : l[j].2.isEmpty
      · rfl
      · rw [e1] at hE; simpa using hE
    · rw [Bool.or_eq_true]; left; exact decide_eq_true (by omega)
  · obtain ⟨y, hy, hne, hye⟩ := hasE_yes 6 [] e
    cases e2 : trieB l
    · rfl
    · obtain ⟨x, hx, hxp, hxi⟩ := key_mem' hk hy
      obtain ⟨j, hj, rfl⟩ := List.mem_iff_getElem.1 hx
      have h1 : 1 ≤ j := by
        rcases Nat.lt_or_ge 0 j with h | h
        · exact h
        · obtain rfl : j = 0 := by omega
          cases l with
          | nil => simp at hj
          | cons a l =>
            rw [headOk, Bool.and_eq_true, beq_iff_eq, list_toList] at h0
            exact absurd (by rw [hxp]; simp [pth, h0.1]) hne
      have := (trie_at e2 hj h1).2.2.2.2
      rw [emptyB, hxp, hxi, Bool.and_eq_true] at hye
      rw [hchild _ hx, hye.1, hye.2] at this
      simp at this

end Go.Proofs.YtcpoodhbakkmcaaGreatDoor
