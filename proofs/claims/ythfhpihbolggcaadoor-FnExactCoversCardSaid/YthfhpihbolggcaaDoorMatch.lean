/- Plain mathematics of chapter 2: when the parts of a filter match those of a topic, and when they cover those of a filter. -/
import Derived.Test.YthfhpihbolggcaaDoorCut
import Derived.Laws.Strings
namespace Go.Proofs.YthfhpihbolggcaaDoor

def isPlus (p : ByteArray) : Bool := p.toList == [43]
def isHash (p : ByteArray) : Bool := p.toList == [35]
def alike (p q : ByteArray) : Bool := p.toList == q.toList

/-- Do the parts of a filter match those of a topic? -/
def matchP : List ByteArray → List ByteArray → Bool
  | [], [] => true
  | [], _ :: _ => false
  | p :: _, [] => isHash p
  | p :: ps, t :: ts => isHash p || ((isPlus p || alike p t) && matchP ps ts)

/-- Do the parts of a filter cover those of another? -/
def coverP : List ByteArray → List ByteArray → Bool
  | [], [] => true
  | [], _ :: _ => false
  | p :: _, [] => isHash p
  | p :: ps, q :: qs => isHash p || ((!isHash q) && (isPlus p || alike p q) && coverP ps qs)

/-- 'Matches'. -/
def matchB (f t : ByteArray) : Bool := filterP (parts f 47) && topicP (parts t 47) && matchP (parts f 47) (parts t 47)
/-- 'Covers'. -/
def coverB (a b : ByteArray) : Bool := filterP (parts a 47) && filterP (parts b 47) && coverP (parts a 47) (parts b 47)

theorem matchP_end (F T : List ByteArray) (k : Nat) (hF : F.length ≤ k) (hT : k ≤ T.length) : matchP (F.drop k) (T.drop k) = decide (k = T.length) := by
  rw [List.drop_of_length_le hF]
  by_cases h : k = T.length
  · rw [List.drop_of_length_le (by omega)]; simp [matchP, h]
  · rw [List.drop_eq_getElem_cons (show k < T.length by omega)]; simp [matchP, h]

theorem coverP_end (F T : List ByteArray) (k : Nat) (hF : F.length ≤ k) (hT : k ≤ T.length) : coverP (F.drop k) (T.drop k) = decide (k = T.length) := by
  rw [List.drop_of_length_le hF]
  by_cases h : k = T.length
  · rw [List.drop_of_length_le (by omega)]; simp [coverP, h]
  · rw [List.drop_eq_getElem_cons (show k < T.length by omega)]; simp [coverP, h]

theorem matchP_hash {F T : List ByteArray} {k : Nat} (h : k < F.length) (hp : isHash F[k] = true) : matchP (F.drop k) (T.drop k) = true := by
  rw [List.drop_eq_getElem_cons h]
  cases T.drop k <;> simp [matchP, hp]

theorem coverP_hash {F T : List ByteArray} {k : Nat} (h : k < F.length) (hp : isHash F[k] = true) : coverP (F.drop k) (T.drop k) = true := by
  rw [List.drop_eq_getElem_cons h]
  cases T.drop k <;> simp [coverP, hp]

theorem matchP_out {F T : List ByteArray} {k : Nat} (h : k < F.length) (hp : isHash F[k] = false) (hT : T.length ≤ k) : matchP (F.drop k) (T.drop k) = false := by
  rw [List.drop_eq_getElem_cons h, List.drop_of_length_le hT]; simp [matchP, hp]

theorem coverP_out {F T : List ByteArray} {k : Nat} (h : k < F.length) (hp : isHash F[k] = false) (hT : T.length ≤ k) : coverP (F.drop k) (T.drop k) = false := by
  rw [List.drop_eq_getElem_cons h, List.drop_of_length_le hT]; simp [coverP, hp]

theorem matchP_in {F T : List ByteArray} {k : Nat} (h : k < F.length) (hT : k < T.length) (hp : isHash F[k] = false) : matchP (F.drop k) (T.drop k) = ((isPlus F[k] || alike F[k] T[k]) && matchP (F.drop (k + 1)) (T.drop (k + 1))) := by
  rw [List.drop_eq_getElem_cons h, List.drop_eq_getElem_cons hT, matchP, hp, Bool.false_or]

theorem coverP_in {F T : List ByteArray} {k : Nat} (h : k < F.length) (hT : k < T.length) (hp : isHash F[k] = false) : coverP (F.drop k) (T.drop k) = ((!isHash T[k]) && (isPlus F[k] || alike F[k] T[k]) && coverP (F.drop (k + 1)) (T.drop (k + 1))) := by
  rw [List.drop_eq_getElem_cons h, List.drop_eq_getElem_cons hT, coverP, hp, Bool.false_or]

theorem alike_refl (p : ByteArray) : alike p p = true := by simp [alike]
theorem alike_trans {p q r : ByteArray} (h : alike p q = true) (k : alike q r = true) : alike p r = true := by
  simp only [alike, beq_iff_eq] at *; rw [h, k]
theorem plus_alike {p q : ByteArray} (h : alike p q = true) (k : isPlus q = true) : isPlus p = true := by
  simp only [alike, isPlus, beq_iff_eq] at *; rw [h, k]

theorem matchP_self : ∀ L : List ByteArray, matchP L L = true
  | [] => rfl
  | p :: L => by rw [matchP, alike_refl, matchP_self L]; simp

theorem coverP_self : ∀ L : List ByteArray, coverP L L = true
  | [] => rfl
  | p :: L => by rw [coverP, alike_refl, coverP_self L]; cases isHash p <;> simp

/-- What covers matches all that is matched. -/
theorem cover_match : ∀ A B T : List ByteArray, coverP A B = true → matchP B T = true → matchP A T = true
  | [], [], _, _, h => h
  | [], _ :: _, _, h, _ => by simp [coverP] at h
  | p :: ps, [], T, h, _ => by
    rw [coverP] at h
    cases T <;> simp [matchP, h]
  | p :: ps, q :: qs, T, h, k => by
    rw [coverP] at h
    by_cases hp : isHash p = true
    · cases T <;> simp [matchP, hp]
    · have hp2 : isHash p = false := by simpa using hp
      rw [hp2, Bool.false_or, Bool.and_eq_true, Bool.and_eq_true] at h
      obtain ⟨⟨hq, ha⟩, hc⟩ := h
      have hq2 : isHash q = false := by simpa using hq
      cases T with
      | nil => rw [matchP, hq2] at k; cases k
      | cons t ts =>
        rw [matchP, hq2, Bool.false_or, Bool.and_eq_true] at k
        obtain ⟨ka, kc⟩ := k
        rw [matchP, hp2, Bool.false_or, Bool.and_eq_true]
        refine ⟨?_, cover_match ps qs ts hc kc⟩
        rw [Bool.or_eq_true] at ha ka ⊢
        rcases ha with ha | ha
        · exact .inl ha
        · rcases ka with ka | ka
          · exact .inl (plus_alike ha ka)
          · exact .inr (alike_trans ha ka)

theorem matchB_self {x : ByteArray} (h : topicP (parts x 47) = true) (hf : filterP (parts x 47) = true) : matchB x x = true := by
  rw [matchB, h, hf, matchP_self]; rfl

theorem hash_isHash : isHash ⟨#[35]⟩ = true := by rw [isHash, Go.ByteArray.toList_eq]; rfl

theorem hash_parts : parts ⟨#[35]⟩ 47 = [⟨#[35]⟩] := by
  apply lists_ext; rw [parts_data]; rfl

theorem hash_filterP : filterP (parts ⟨#[35]⟩ 47) = true := by
  rw [hash_parts]; simp [filterP, filterTo, partF, Go.ByteArray.toList_eq]

theorem matchB_all {x : ByteArray} (h : topicP (parts x 47) = true) : matchB ⟨#[35]⟩ x = true := by
  rw [matchB, h, hash_filterP, hash_parts]
  cases parts x 47 <;> simp [matchP, hash_isHash]

theorem coverB_self {x : ByteArray} (h : filterP (parts x 47) = true) : coverB x x = true := by
  rw [coverB, h, coverP_self]; rfl

theorem coverB_all {x : ByteArray} (h : filterP (parts x 47) = true) : coverB ⟨#[35]⟩ x = true := by
  rw [coverB, h, hash_filterP, hash_parts]
  cases parts x 47 <;> simp [coverP, hash_isHash]

theorem coverB_match {p q x : ByteArray} (h : coverB p q = true) (k : matchB q x = true) : matchB p x = true := by
  simp only [coverB, matchB, Bool.and_eq_true] at *
  exact ⟨⟨h.1.1, k.1.2⟩, cover_match _ _ _ h.2 k.2⟩

end Go.Proofs.YthfhpihbolggcaaDoor
