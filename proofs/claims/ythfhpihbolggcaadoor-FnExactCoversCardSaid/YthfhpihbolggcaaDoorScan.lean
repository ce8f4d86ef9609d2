/- Plain mathematics of chapter 2, as a walk over two lists side by side tells it. -/
import Derived.Test.YthfhpihbolggcaaDoorMatch
namespace Go.Proofs.YthfhpihbolggcaaDoor

/-- Does a part cover another? -/
def partC (p q : ByteArray) : Bool := if isPlus p then isPlus q || isWord q else alike p q

/-- What pairs tell, in order. -/
def runC : List (ByteArray × ByteArray) → Bool
  | [] => true
  | x :: r => isHash x.1 || (partC x.1 x.2 && runC r)

/-- Part k of a list; the empty text behind its end. -/
def partQ (L : List ByteArray) (k : Nat) : ByteArray := L.getD k ⟨#[]⟩

/-- The first k pairs. -/
def uptoP (F T : List ByteArray) (k : Nat) : List (ByteArray × ByteArray) := (List.range k).map fun j => (partQ F j, partQ T j)

theorem uptoP_succ (F T : List ByteArray) (k : Nat) : uptoP F T (k + 1) = uptoP F T k ++ [(partQ F k, partQ T k)] := by simp [uptoP, List.range_succ]
theorem uptoP_len (F T : List ByteArray) (k : Nat) : (uptoP F T k).length = k := by simp [uptoP]

theorem partQ_tail (L : List ByteArray) (k : Nat) : partQ L (k + 1) = partQ L.tail k := by
  cases L <;> simp [partQ]

theorem uptoP_cons (F T : List ByteArray) (k : Nat) : uptoP F T (k + 1) = (partQ F 0, partQ T 0) :: uptoP F.tail T.tail k := by
  simp [uptoP, List.range_succ_eq_map, partQ_tail]

theorem uptoP_prefix (F T : List ByteArray) {k n : Nat} (h : k ≤ n) : ∃ r, uptoP F T n = uptoP F T k ++ r := by
  obtain ⟨d, rfl⟩ := Nat.le.dest h
  induction d with
  | zero => exact ⟨[], by simp⟩
  | succ d ih =>
    obtain ⟨r, hr⟩ := ih (by omega)
    exact ⟨r ++ [(partQ F (k + d), partQ T (k + d))], by rw [← Nat.add_assoc, uptoP_succ, hr, List.append_assoc]⟩

theorem nil_toList : (⟨#[]⟩ : ByteArray).toList = [] := by rw [Go.ByteArray.toList_eq]
theorem nil_hash : isHash ⟨#[]⟩ = false := by rw [isHash, nil_toList]; rfl
theorem nil_plus : isPlus ⟨#[]⟩ = false := by rw [isPlus, nil_toList]; rfl
theorem nil_word : isWord ⟨#[]⟩ = false := by rfl

theorem hash_word {q : ByteArray} (h : isHash q = true) : isWord q = false := by
  have h2 : q.data.toList = [35] := by
    have := h
    rw [isHash, Go.ByteArray.toList_eq] at this
    simpa using this
  unfold isWord lowAll
  rw [h2]; rfl

theorem hash_plus {q : ByteArray} (h : isHash q = true) : isPlus q = false := by
  have h2 : q.toList = [35] := by simpa [isHash] using h
  rw [isPlus, h2]; rfl

theorem word_some {q : ByteArray} (h : isWord q = true) : q.toList ≠ [] := by
  intro e
  rw [Go.ByteArray.toList_eq] at e
  have h2 : q.size = 0 := by
    have : q.data.toList.length = 0 := by rw [e]; rfl
    simpa using this
  unfold isWord at h
  simp [h2] at h

theorem hash_alike {p q : ByteArray} (h : alike p q = true) : isHash q = isHash p := by
  simp only [alike, beq_iff_eq] at h
  rw [isHash, isHash, h]

/-- A part that may stand in a filter. -/
def goodF (q : ByteArray) : Prop := q.toList ≠ [] ∧ (isHash q || isPlus q || isWord q) = true

theorem goodF_word {q : ByteArray} (h : isWord q = true) : goodF q := ⟨word_some h, by rw [h]; simp⟩

theorem goodF_of {p : ByteArray} {b : Bool} (h : partF p b = true) : goodF p := by
  unfold partF at h
  cases hw : isWord p
  · rw [hw] at h
    cases hp : isPlus p
    · have hp2 : (p.toList == [43]) = false := hp
      rw [hp2] at h
      have h2 : isHash p = true := by simp [isHash] at h ⊢; exact h.2
      exact ⟨by have : p.toList = [35] := by simpa [isHash] using h2
                rw [this]; simp, by rw [h2]; rfl⟩
    · exact ⟨by have : p.toList = [43] := by simpa [isPlus] using hp
                rw [this]; simp, by rw [hp]; simp⟩
  · exact goodF_word hw

theorem filterP_good {F : List ByteArray} (h : filterP F = true) : ∀ p ∈ F, goodF p := by
  intro p hp
  obtain ⟨i, hi, rfl⟩ := List.getElem_of_mem hp
  unfold filterP at h
  rw [Bool.and_eq_true] at h
  have h2 := h.2
  unfold filterTo at h2
  rw [List.all_eq_true] at h2
  have h3 := h2 i (by simpa using hi)
  have h4 : F.getD i ByteArray.empty = F[i] := by simp [hi]
  rw [h4] at h3
  exact goodF_of h3

theorem topicP_good {T : List ByteArray} (h : topicP T = true) : ∀ q ∈ T, isWord q = true := by
  unfold topicP at h
  rw [Bool.and_eq_true, List.all_eq_true] at h
  exact h.2

theorem nil_alike {q : ByteArray} (h : q.toList ≠ []) : alike ⟨#[]⟩ q = false := by
  rw [alike, nil_toList]
  cases e : q.toList
  · exact absurd e h
  · rfl

theorem alike_nil {q : ByteArray} (h : q.toList ≠ []) : alike q ⟨#[]⟩ = false := by
  rw [alike, nil_toList]
  cases e : q.toList
  · exact absurd e h
  · rfl

theorem partC_nilL {q : ByteArray} (h : q.toList ≠ []) : partC ⟨#[]⟩ q = false := by
  unfold partC; rw [nil_plus, nil_alike h]; rfl

theorem partC_nilR {q : ByteArray} (h : q.toList ≠ []) : partC q ⟨#[]⟩ = false := by
  unfold partC; rw [nil_plus, nil_word, alike_nil h]; cases isPlus q <;> rfl

theorem runC_cover : ∀ F T : List ByteArray, (∀ p ∈ F, goodF p) → (∀ q ∈ T, goodF q) → runC (uptoP F T (max F.length T.length)) = coverP F T
  | [], [], _, _ => rfl
  | [], q :: T, _, hT => by
    have hq := hT q (by simp)
    rw [List.length_nil, List.length_cons, Nat.zero_max, uptoP_cons, runC, coverP]
    show (isHash ⟨#[]⟩ || (partC ⟨#[]⟩ q && _)) = false
    rw [nil_hash, partC_nilL hq.1]; rfl
  | p :: F, [], hF, _ => by
    have hp := hF p (by simp)
    rw [List.length_nil, List.length_cons, Nat.max_zero, uptoP_cons, runC, coverP]
    show (isHash p || (partC p ⟨#[]⟩ && _)) = isHash p
    rw [partC_nilR hp.1]; cases isHash p <;> rfl
  | p :: F, q :: T, hF, hT => by
    have hq := hT q (by simp)
    have ih := runC_cover F T (fun x hx => hF x (by simp [hx])) (fun x hx => hT x (by simp [hx]))
    rw [List.length_cons, List.length_cons, Nat.succ_max_succ, uptoP_cons, runC, coverP]
    show (isHash p || (partC p q && runC (uptoP F T _))) = _
    rw [ih]
    cases hp : isHash p
    · unfold partC
      cases hpp : isPlus p
      · cases ha : alike p q
        · simp
        · rw [hash_alike ha, hp]; rfl
      · cases hh : isHash q
        · have := hq.2; rw [hh] at this
          simp at this ⊢
          rcases this with h | h <;> simp [h]
        · rw [hash_word hh, hash_plus hh]; rfl
    · rfl

theorem runC_match : ∀ F T : List ByteArray, (∀ p ∈ F, goodF p) → (∀ q ∈ T, isWord q = true) → runC (uptoP F T (max F.length T.length)) = matchP F T
  | [], [], _, _ => rfl
  | [], q :: T, _, hT => by
    have hq := goodF_word (hT q (by simp))
    rw [List.length_nil, List.length_cons, Nat.zero_max, uptoP_cons, runC, matchP]
    show (isHash ⟨#[]⟩ || (partC ⟨#[]⟩ q && _)) = false
    rw [nil_hash, partC_nilL hq.1]; rfl
  | p :: F, [], hF, _ => by
    have hp := hF p (by simp)
    rw [List.length_nil, List.length_cons, Nat.max_zero, uptoP_cons, runC, matchP]
    show (isHash p || (partC p ⟨#[]⟩ && _)) = isHash p
    rw [partC_nilR hp.1]; cases isHash p <;> rfl
  | p :: F, q :: T, hF, hT => by
    have hq := hT q (by simp)
    have ih := runC_match F T (fun x hx => hF x (by simp [hx])) (fun x hx => hT x (by simp [hx]))
    rw [List.length_cons, List.length_cons, Nat.succ_max_succ, uptoP_cons, runC, matchP]
    show (isHash p || (partC p q && runC (uptoP F T _))) = _
    rw [ih]
    unfold partC
    cases isHash p <;> cases isPlus p <;> simp [hq]

theorem runC_step (pre : List (ByteArray × ByteArray)) (x : ByteArray × ByteArray) (h : ∀ r, runC (pre ++ r) = runC r) (hh : isHash x.1 = false) (hp : partC x.1 x.2 = true) : ∀ r, runC ((pre ++ [x]) ++ r) = runC r := by
  intro r
  rw [List.append_assoc, h]
  show (isHash x.1 || (partC x.1 x.2 && runC r)) = runC r
  rw [hh, hp]; rfl

theorem runC_yes (pre : List (ByteArray × ByteArray)) (x : ByteArray × ByteArray) (h : ∀ r, runC (pre ++ r) = runC r) (hh : isHash x.1 = true) : ∀ r, runC ((pre ++ [x]) ++ r) = true := by
  intro r
  rw [List.append_assoc, h]
  show (isHash x.1 || (partC x.1 x.2 && runC r)) = true
  rw [hh]; rfl

theorem runC_no (pre : List (ByteArray × ByteArray)) (x : ByteArray × ByteArray) (h : ∀ r, runC (pre ++ r) = runC r) (hh : isHash x.1 = false) (hp : partC x.1 x.2 = false) : ∀ r, runC ((pre ++ [x]) ++ r) = false := by
  intro r
  rw [List.append_assoc, h]
  show (isHash x.1 || (partC x.1 x.2 && runC r)) = false
  rw [hh, hp]; rfl

end Go.Proofs.YthfhpihbolggcaaDoor
