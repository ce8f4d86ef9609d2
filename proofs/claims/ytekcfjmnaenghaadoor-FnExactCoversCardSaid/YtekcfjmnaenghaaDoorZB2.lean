/- Small texts, laid together. -/
import Derived.Test.YtekcfjmnaenghaaDoorZCut
import Derived.Laws.Strings
import Derived.Test.YtekcfjmnaenghaaDoorZB1
import Derived.Lib.SmallJoins
import Derived.BigQuiet
import Derived.Deep.QuietTactic
set_option linter.unusedSimpArgs false
set_option linter.unusedVariables false
/- Plain mathematics of chapter 2: when the parts of a filter match those of a topic, and when they cover those of a filter. -/
namespace Go.Proofs.YtekcfjmnaenghaaDoor

def isPlus (p : ByteArray) : Bool := p.toList == [43]
def isHash (p : ByteArray) : Bool := p.toList == [35]
def alike (p q : ByteArray) : Bool := p.toList == q.toList

/-- Do the parts of a filter match those of a topic? -/
def matchP : List ByteArray → List ByteArray → Bool
  | [], [] => true
  | [], _ :: _ => false
  | p :: _, [] => isHash p
  | p :: ps, t :: ts => isHash p || ((isPlus p || alike p t) && matchP ps ts)

/-- Do the parts of a filter cover those of another? -/
def coverP : List ByteArray → List ByteArray → Bool
  | [], [] => true
  | [], _ :: _ => false
  | p :: _, [] => isHash p
  | p :: ps, q :: qs => isHash p || ((!isHash q) && (isPlus p || alike p q) && coverP ps qs)

/-- 'Matches'. -/
def matchB (f t : ByteArray) : Bool := filterP (parts f 47) && topicP (parts t 47) && matchP (parts f 47) (parts t 47)
/-- 'Covers'. -/
def coverB (a b : ByteArray) : Bool := filterP (parts a 47) && filterP (parts b 47) && coverP (parts a 47) (parts b 47)

theorem matchP_end (F T : List ByteArray) (k : Nat) (hF : F.length ≤ k) (hT : k ≤ T.length) : matchP (F.drop k) (T.drop k) = decide (k = T.length) := by
  rw [List.drop_of_length_le hF]
  by_cases h : k = T.length
  · rw [List.drop_of_length_le (by omega)]; simp [matchP, h]
  · rw [List.drop_eq_getElem_cons (show k < T.length by omega)]; simp [matchP, h]

theorem coverP_end (F T : List ByteArray) (k : Nat) (hF : F.length ≤ k) (hT : k ≤ T.length) : coverP (F.drop k) (T.drop k) = decide (k = T.length) := by
  rw [List.drop_of_length_le hF]
  by_cases h : k = T.length
  · rw [List.drop_of_length_le (by omega)]; simp [coverP, h]
  · rw [List.drop_eq_getElem_cons (show k < T.length by omega)]; simp [coverP, h]

theorem matchP_hash {F T : List ByteArray} {k : Nat} (h : k < F.length) (hp : isHash F[k] = true) : matchP (F.drop k) (T.drop k) = true := by
  rw [List.drop_eq_getElem_cons h]
  cases T.drop k <;> simp [matchP, hp]

theorem coverP_hash {F T : List ByteArray} {k : Nat} (h : k < F.length) (hp : isHash F[k] = true) : coverP (F.drop k) (T.drop k) = true := by
  rw [List.drop_eq_getElem_cons h]
  cases T.drop k <;> simp [coverP, hp]

theorem matchP_out {F T : List ByteArray} {k : Nat} (h : k < F.length) (hp : isHash F[k] = false) (hT : T.length ≤ k) : matchP (F.drop k) (T.drop k) = false := by
  rw [List.drop_eq_getElem_cons h, List.drop_of_length_le hT]; simp [matchP, hp]

theorem coverP_out {F T : List ByteArray} {k : Nat} (h : k < F.length) (hp : isHash F[k] = false) (hT : T.length ≤ k) : coverP (F.drop k) (T.drop k) = false := by
  rw [List.drop_eq_getElem_cons h, List.drop_of_length_le hT]; simp [coverP, hp]

theorem matchP_in {F T : List ByteArray} {k : Nat} (h : k < F.length) (hT : k < T.length) (hp : isHash F[k] = false) : matchP (F.drop k) (T.drop k) = ((isPlus F[k] || alike F[k] T[k]) && matchP (F.drop (k + 1)) (T.drop (k + 1))) := by
  rw [List.drop_eq_getElem_cons h, List.drop_eq_getElem_cons hT, matchP, hp, Bool.false_or]

theorem coverP_in {F T : List ByteArray} {k : Nat} (h : k < F.length) (hT : k < T.length) (hp : isHash F[k] = false) : coverP (F.drop k) (T.drop k) = ((!isHash T[k]) && (isPlus F[k] || alike F[k] T[k]) && coverP (F.drop (k + 1)) (T.drop (k + 1))) := by
  rw [List.drop_eq_getElem_cons h, List.drop_eq_getElem_cons hT, coverP, hp, Bool.false_or]

theorem alike_refl (p : ByteArray) : alike p p = true := by simp [alike]
theorem alike_trans {p q r : ByteArray} (h : alike p q = true) (k : alike q r = true) : alike p r = true := by
  simp only [alike, beq_iff_eq] at *; rw [h, k]
theorem plus_alike {p q : ByteArray} (h : alike p q = true) (k : isPlus q = true) : isPlus p = true := by
  simp only [alike, isPlus, beq_iff_eq] at *; rw [h, k]

theorem matchP_self : ∀ L : List ByteArray, matchP L L = true
  | [] => rfl
  | p :: L => by rw [matchP, alike_refl, matchP_self L]; simp

theorem coverP_self : ∀ L : List ByteArray, coverP L L = true
  | [] => rfl
  | p :: L => by rw [coverP, alike_refl, coverP_self L]; cases isHash p <;> simp

/-- What covers matches all that is matched. -/
theorem cover_match : ∀ A B T : List ByteArray, coverP A B = true → matchP B T = true → matchP A T = true
  | [], [], _, _, h => h
  | [], _ :: _, _, h, _ => by simp [coverP] at h
  | p :: ps, [], T, h, _ => by
    rw [coverP] at h
    cases T <;> simp [matchP, h]
  | p :: ps, q :: qs, T, h, k => by
    rw [coverP] at h
    by_cases hp : isHash p = true
    · cases T <;> simp [matchP, hp]
    · have hp2 : isHash p = false := by simpa using hp
      rw [hp2, Bool.false_or, Bool.and_eq_true, Bool.and_eq_true] at h
      obtain ⟨⟨hq, ha⟩, hc⟩ := h
      have hq2 : isHash q = false := by simpa using hq
      cases T with
      | nil => rw [matchP, hq2] at k; cases k
      | cons t ts =>
        rw [matchP, hq2, Bool.false_or, Bool.and_eq_true] at k
        obtain ⟨ka, kc⟩ := k
        rw [matchP, hp2, Bool.false_or, Bool.and_eq_true]
        refine ⟨?_, cover_match ps qs ts hc kc⟩
        rw [Bool.or_eq_true] at ha ka ⊢
        rcases ha with ha | ha
        · exact .inl ha
        · rcases ka with ka | ka
          · exact .inl (plus_alike ha ka)
          · exact .inr (alike_trans ha ka)

theorem matchB_self {x : ByteArray} (h : topicP (parts x 47) = true) (hf : filterP (parts x 47) = true) : matchB x x = true := by
  rw [matchB, h, hf, matchP_self]; rfl

theorem hash_isHash : isHash ⟨#[35]⟩ = true := by rw [isHash, Go.ByteArray.toList_eq]; rfl

theorem hash_parts : parts ⟨#[35]⟩ 47 = [⟨#[35]⟩] := by
  apply lists_ext; rw [parts_data]; rfl

theorem hash_filterP : filterP (parts ⟨#[35]⟩ 47) = true := by
  rw [hash_parts]; simp [filterP, filterTo, partF, Go.ByteArray.toList_eq]

theorem matchB_all {x : ByteArray} (h : topicP (parts x 47) = true) : matchB ⟨#[35]⟩ x = true := by
  rw [matchB, h, hash_filterP, hash_parts]
  cases parts x 47 <;> simp [matchP, hash_isHash]

theorem coverB_self {x : ByteArray} (h : filterP (parts x 47) = true) : coverB x x = true := by
  rw [coverB, h, coverP_self]; rfl

theorem coverB_all {x : ByteArray} (h : filterP (parts x 47) = true) : coverB ⟨#[35]⟩ x = true := by
  rw [coverB, h, hash_filterP, hash_parts]
  cases parts x 47 <;> simp [coverP, hash_isHash]

theorem coverB_match {p q x : ByteArray} (h : coverB p q = true) (k : matchB q x = true) : matchB p x = true := by
  simp only [coverB, matchB, Bool.and_eq_true] at *
  exact ⟨⟨h.1.1, k.1.2⟩, cover_match _ _ _ h.2 k.2⟩

end Go.Proofs.YtekcfjmnaenghaaDoor

/- Plain mathematics of chapter 2, as a walk over two lists side by side tells it. -/
namespace Go.Proofs.YtekcfjmnaenghaaDoor

/-- Does a part cover another? -/
def partC (p q : ByteArray) : Bool := if isPlus p then isPlus q || isWord q else alike p q

/-- What pairs tell, in order. -/
def runC : List (ByteArray × ByteArray) → Bool
  | [] => true
  | x :: r => isHash x.1 || (partC x.1 x.2 && runC r)

/-- Part k of a list; the empty text behind its end. -/
def partQ (L : List ByteArray) (k : Nat) : ByteArray := L.getD k ⟨#[]⟩

/-- The first k pairs. -/
def uptoP (F T : List ByteArray) (k : Nat) : List (ByteArray × ByteArray) := (List.range k).map fun j => (partQ F j, partQ T j)

theorem uptoP_succ (F T : List ByteArray) (k : Nat) : uptoP F T (k + 1) = uptoP F T k ++ [(partQ F k, partQ T k)] := by simp [uptoP, List.range_succ]
theorem uptoP_len (F T : List ByteArray) (k : Nat) : (uptoP F T k).length = k := by simp [uptoP]

theorem partQ_tail (L : List ByteArray) (k : Nat) : partQ L (k + 1) = partQ L.tail k := by
  cases L <;> simp [partQ]

theorem uptoP_cons (F T : List ByteArray) (k : Nat) : uptoP F T (k + 1) = (partQ F 0, partQ T 0) :: uptoP F.tail T.tail k := by
  simp [uptoP, List.range_succ_eq_map, partQ_tail]

theorem uptoP_prefix (F T : List ByteArray) {k n : Nat} (h : k ≤ n) : ∃ r, uptoP F T n = uptoP F T k ++ r := by
  obtain ⟨d, rfl⟩ := Nat.le.dest h
  induction d with
  | zero => exact ⟨[], by simp⟩
  | succ d ih =>
    obtain ⟨r, hr⟩ := ih (by omega)
    exact ⟨r ++ [(partQ F (k + d), partQ T (k + d))], by rw [← Nat.add_assoc, uptoP_succ, hr, List.append_assoc]⟩

theorem nil_toList : (⟨#[]⟩ : ByteArray).toList = [] := by rw [Go.ByteArray.toList_eq]
theorem nil_hash : isHash ⟨#[]⟩ = false := by rw [isHash, nil_toList]; rfl
theorem nil_plus : isPlus ⟨#[]⟩ = false := by rw [isPlus, nil_toList]; rfl
theorem nil_word : isWord ⟨#[]⟩ = false := by rfl

theorem hash_word {q : ByteArray} (h : isHash q = true) : isWord q = false := by
  have h2 : q.data.toList = [35] := by
    have := h
    rw [isHash, Go.ByteArray.toList_eq] at this
    simpa using this
  unfold isWord lowAll
  rw [h2]; rfl

theorem hash_plus {q : ByteArray} (h : isHash q = true) : isPlus q = false := by
  have h2 : q.toList = [35] := by simpa [isHash] using h
  rw [isPlus, h2]; rfl

theorem word_some {q : ByteArray} (h : isWord q = true) : q.toList ≠ [] := by
  intro e
  rw [Go.ByteArray.toList_eq] at e
  have h2 : q.size = 0 := by
    have : q.data.toList.length = 0 := by rw [e]; rfl
    simpa using this
  unfold isWord at h
  simp [h2] at h

theorem hash_alike {p q : ByteArray} (h : alike p q = true) : isHash q = isHash p := by
  simp only [alike, beq_iff_eq] at h
  rw [isHash, isHash, h]

/-- A part that may stand in a filter. -/
def goodF (q : ByteArray) : Prop := q.toList ≠ [] ∧ (isHash q || isPlus q || isWord q) = true

theorem goodF_word {q : ByteArray} (h : isWord q = true) : goodF q := ⟨word_some h, by rw [h]; simp⟩

theorem goodF_of {p : ByteArray} {b : Bool} (h : partF p b = true) : goodF p := by
  unfold partF at h
  cases hw : isWord p
  · rw [hw] at h
    cases hp : isPlus p
    · have hp2 : (p.toList == [43]) = false := hp
      rw [hp2] at h
      have h2 : isHash p = true := by simp [isHash] at h ⊢; exact h.2
      exact ⟨by have : p.toList = [35] := by simpa [isHash] using h2
                rw [this]; simp, by rw [h2]; rfl⟩
    · exact ⟨by have : p.toList = [43] := by simpa [isPlus] using hp
                rw [this]; simp, by rw [hp]; simp⟩
  · exact goodF_word hw

theorem filterP_good {F : List ByteArray} (h : filterP F = true) : ∀ p ∈ F, goodF p := by
  intro p hp
  obtain ⟨i, hi, rfl⟩ := List.getElem_of_mem hp
  unfold filterP at h
  rw [Bool.and_eq_true] at h
  have h2 := h.2
  unfold filterTo at h2
  rw [List.all_eq_true] at h2
  have h3 := h2 i (by simpa using hi)
  have h4 : F.getD i ByteArray.empty = F[i] := by simp [hi]
  rw [h4] at h3
  exact goodF_of h3

theorem topicP_good {T : List ByteArray} (h : topicP T = true) : ∀ q ∈ T, isWord q = true := by
  unfold topicP at h
  rw [Bool.and_eq_true, List.all_eq_true] at h
  exact h.2

theorem nil_alike {q : ByteArray} (h : q.toList ≠ []) : alike ⟨#[]⟩ q = false := by
  rw [alike, nil_toList]
  cases e : q.toList
  · exact absurd e h
  · rfl

theorem alike_nil {q : ByteArray} (h : q.toList ≠ []) : alike q ⟨#[]⟩ = false := by
  rw [alike, nil_toList]
  cases e : q.toList
  · exact absurd e h
  · rfl

theorem partC_nilL {q : ByteArray} (h : q.toList ≠ []) : partC ⟨#[]⟩ q = false := by
  unfold partC; rw [nil_plus, nil_alike h]; rfl

theorem partC_nilR {q : ByteArray} (h : q.toList ≠ []) : partC q ⟨#[]⟩ = false := by
  unfold partC; rw [nil_plus, nil_word, alike_nil h]; cases isPlus q <;> rfl

theorem runC_cover : ∀ F T : List ByteArray, (∀ p ∈ F, goodF p) → (∀ q ∈ T, goodF q) → runC (uptoP F T (max F.length T.length)) = coverP F T
  | [], [], _, _ => rfl
  | [], q :: T, _, hT => by
    have hq := hT q (by simp)
    rw [List.length_nil, List.length_cons, Nat.zero_max, uptoP_cons, runC, coverP]
    show (isHash ⟨#[]⟩ || (partC ⟨#[]⟩ q && _)) = false
    rw [nil_hash, partC_nilL hq.1]; rfl
  | p :: F, [], hF, _ => by
    have hp := hF p (by simp)
    rw [List.length_nil, List.length_cons, Nat.max_zero, uptoP_cons, runC, coverP]
    show (isHash p || (partC p ⟨#[]⟩ && _)) = isHash p
    rw [partC_nilR hp.1]; cases isHash p <;> rfl
  | p :: F, q :: T, hF, hT => by
    have hq := hT q (by simp)
    have ih := runC_cover F T (fun x hx => hF x (by simp [hx])) (fun x hx => hT x (by simp [hx]))
    rw [List.length_cons, List.length_cons, Nat.succ_max_succ, uptoP_cons, runC, coverP]
    show (isHash p || (partC p q && runC (uptoP F T _))) = _
    rw [ih]
    cases hp : isHash p
    · unfold partC
      cases hpp : isPlus p
      · cases ha : alike p q
        · simp
        · rw [hash_alike ha, hp]; rfl
      · cases hh : isHash q
        · have := hq.2; rw [hh] at this
          simp at this ⊢
          rcases this with h | h <;> simp [h]
        · rw [hash_word hh, hash_plus hh]; rfl
    · rfl

theorem runC_match : ∀ F T : List ByteArray, (∀ p ∈ F, goodF p) → (∀ q ∈ T, isWord q = true) → runC (uptoP F T (max F.length T.length)) = matchP F T
  | [], [], _, _ => rfl
  | [], q :: T, _, hT => by
    have hq := goodF_word (hT q (by simp))
    rw [List.length_nil, List.length_cons, Nat.zero_max, uptoP_cons, runC, matchP]
    show (isHash ⟨#[]⟩ || (partC ⟨#[]⟩ q && _)) = false
    rw [nil_hash, partC_nilL hq.1]; rfl
  | p :: F, [], hF, _ => by
    have hp := hF p (by simp)
    rw [List.length_nil, List.length_cons, Nat.max_zero, uptoP_cons, runC, matchP]
    show (isHash p || (partC p ⟨#[]⟩ && _)) = isHash p
    rw [partC_nilR hp.1]; cases isHash p <;> rfl
  | p :: F, q :: T, hF, hT => by
    have hq := hT q (by simp)
    have ih := runC_match F T (fun x hx => hF x (by simp [hx])) (fun x hx => hT x (by simp [hx]))
    rw [List.length_cons, List.length_cons, Nat.succ_max_succ, uptoP_cons, runC, matchP]
    show (isHash p || (partC p q && runC (uptoP F T _))) = _
    rw [ih]
    unfold partC
    cases isHash p <;> cases isPlus p <;> simp [hq]

theorem runC_step (pre : List (ByteArray × ByteArray)) (x : ByteArray × ByteArray) (h : ∀ r, runC (pre ++ r) = runC r) (hh : isHash x.1 = false) (hp : partC x.1 x.2 = true) : ∀ r, runC ((pre ++ [x]) ++ r) = runC r := by
  intro r
  rw [List.append_assoc, h]
  show (isHash x.1 || (partC x.1 x.2 && runC r)) = runC r
  rw [hh, hp]; rfl

theorem runC_yes (pre : List (ByteArray × ByteArray)) (x : ByteArray × ByteArray) (h : ∀ r, runC (pre ++ r) = runC r) (hh : isHash x.1 = true) : ∀ r, runC ((pre ++ [x]) ++ r) = true := by
  intro r
  rw [List.append_assoc, h]
  show (isHash x.1 || (partC x.1 x.2 && runC r)) = true
  rw [hh]; rfl

theorem runC_no (pre : List (ByteArray × ByteArray)) (x : ByteArray × ByteArray) (h : ∀ r, runC (pre ++ r) = runC r) (hh : isHash x.1 = false) (hp : partC x.1 x.2 = false) : ∀ r, runC ((pre ++ [x]) ++ r) = false := by
  intro r
  rw [List.append_assoc, h]
  show (isHash x.1 || (partC x.1 x.2 && runC r)) = false
  rw [hh, hp]; rfl

end Go.Proofs.YtekcfjmnaenghaaDoor

/- The walks of spec.l1Split and spec.PartsOf: the list of the parts, in memory of the call's own. -/
namespace Go.Proofs.YtekcfjmnaenghaaDoor
open Go.RowKit

theorem Tryd.infoString : (Tryd.prog.info? 9).map (fun i => (i.zero, i.size, i.bytes)) = some (some (.string ByteArray.empty), 1, 16) := by kernel_rfl

/-- The cells of a list of texts. -/
abbrev texts (l : List ByteArray) : List Value := l.map Value.string

theorem texts_snoc (l : List ByteArray) (x : ByteArray) : texts l ++ [.string x] = texts (l ++ [x]) := by simp [texts]

theorem one_string (x : ByteArray) : ∀ u ∈ [Value.string x], u.oneCell' = true := by
  intro u hu; simp at hu; subst hu; rfl

/-- What an append of one text has done: below B all is as it was. -/
theorem below_append {B : Nat} {w wr w' : World} {v : Value} {n : Nat} {xs : List Value} {o : Obj} {e : TypeId} {size : Nat} (hB : B ≤ wr.heap.size) (h : Below B w wr) (hown : wr.ownsRow B e size v n xs) (hg : (wr.alloc o).grownBy w' v.ownBlock) : Below B w w' :=
  (h.alloc hB o).grown hg (by simp; omega) (fun k hk => (hown.lt k hk).1)

set_option maxRecDepth 100000 in
set_option maxHeartbeats 800000 in
theorem specSplit_any (s : ByteArray) (c : UInt8) (w : World) (hs : s.size ≤ 1048576) :
    Calls Tryd.prog 56 #[.string s, .int .u8 (c.toNat : Int)] w fun e w' =>
      ∃ v, e = .returned v ∧ w'.ownsRow w.heap.size 9 1 v (parts s c).length (texts (parts s c)) ∧ Below w.heap.size w w' := by
  obtain ⟨i0, hi, hz0, hz1, hz2⟩ := info_parts Tryd.infoString
  go_enter Tryd.func56, Tryd.ntmps56
  go_wp2
  go_loopw [5, 6, 7] (fun v f i wr => ∃ (k fr : Nat) (l : List ByteArray), Hid (cutTo s c k = (l, fr)) ∧ k ≤ s.size + 1 ∧ fr ≤ k ∧ l.length ≤ k ∧ i = .int .i64 k ∧ f = .int .i64 fr ∧
      Hid (wr.ownsRow w.heap.size 9 1 v l.length (texts l)) ∧ Hid (Below w.heap.size w wr)) (fun _ _ i _ => s.size + 1 - (intOf i).toNat)
  case atStart => exact ⟨0, 0, [], rfl, Nat.zero_le _, Nat.zero_le _, Nat.zero_le _, rfl, rfl, World.ownsRow_made _ _ _ (Nat.le_refl _) (Nat.zero_le _) rfl, (Below.refl _ _).alloc (Nat.le_refl _) _⟩
  case round =>
    obtain ⟨k, fr, l, HC, hk, hfr, hl, rfl, rfl, H1, H2⟩ := hrel
    by_cases hd : k ≤ s.size
    · by_cases hhit : s.size ≤ k ∨ s.data.toList[k]? = some c
      · have HH : Hid (cutTo s c (k + 1) = (l ++ [s.extract fr k], k + 1)) := Lib.hid (by rw [cutTo_hit hhit, HC.out])
        have htest : k = s.size ∨ (k < s.size ∧ ∃ h : k < s.size, ((s[k].toNat : Int) == (c.toNat : Int)) = true) := by
          rcases hhit with h | h
          · exact .inl (by omega)
          · by_cases e : k = s.size
            · exact .inl e
            · refine .inr ⟨by omega, by omega, ?_⟩
              have hk2 : k < s.data.toList.length := show k < s.size by omega
              rw [List.getElem?_eq_getElem hk2] at h
              have e3 : s[k] = c := Option.some.inj h
              rw [e3]; simp
        clear hhit
        have htest2 : ((k : Int) == (s.size : Int)) = true ∨ (k < s.size ∧ ∃ h : k < s.size, ((s[k].toNat : Int) == (c.toNat : Int)) = true) := by
          rcases htest with h | h
          · exact .inl (by subst h; simp)
          · exact .inr h
        clear htest
        rcases htest2 with hc | ⟨hlt, hlt2, hc⟩
        all_goals
          go_wp2_with (at_builtin; go_must (refine wpList_append_own _ rfl _ _ 50 rfl w.heap.size 9 i0 (.string ByteArray.empty) 1 16 Tryd.underlying50 hi hz0 hz1 hz2 rfl (by decide) _ _ _ rfl (H1.out.alloc _) ⟨wr.heap.size, 0, none⟩ 1 1 [.string (s.extract fr k)] rfl rfl (cell_one_new _ _ _) (one_string _) (by unfold maxLen; omega) (by omega) (by have := H2.out.size; simp; omega) ?_))
          intro v' w1 hown' hgrow _
          have R1 : Hid (w1.ownsRow w.heap.size 9 1 v' (l ++ [s.extract fr k]).length (texts (l ++ [s.extract fr k]))) := Lib.hid (by rw [← texts_snoc]; simpa using hown')
          have R2 : Hid (Below w.heap.size w w1) := Lib.hid (below_append H2.out.size H2.out H1.out hgrow)
          clear hown' hgrow H1 H2 HC
          go_wp2
          go_roundw
          case rel => exact ⟨k + 1, k + 1, l ++ [s.extract fr k], HH, by omega, Nat.le_refl _, by simp; omega, by go_num, by go_num, R1, R2⟩
          case measure => simp [intOf]; omega
      · have HH : Hid (cutTo s c (k + 1) = (l, fr)) := Lib.hid (by rw [cutTo_miss (by omega) (fun e => hhit (.inr e)), HC.out])
        have hlt : k < s.size := by omega
        have hc : ((s[k].toNat : Int) == (c.toNat : Int)) = false := by
          have hk2 : k < s.data.toList.length := hlt
          have h3 : s[k] ≠ c := fun e => hhit (.inr (by rw [List.getElem?_eq_getElem hk2]; exact congrArg some e))
          rw [beq_eq_false_iff_ne]
          intro e
          exact h3 (UInt8.toNat_inj.1 (by omega))
        have hc0 : ((k : Int) == (s.size : Int)) = false := by rw [beq_eq_false_iff_ne]; omega
        clear hhit HC
        go_wp2
        go_roundw
        case rel => exact ⟨k + 1, fr, l, HH, by omega, by omega, by omega, by go_num, rfl, H1, H2⟩
        case measure => simp [intOf]; omega
    · obtain rfl : k = s.size + 1 := by omega
      have HP : Hid (parts s c = l) := Lib.hid (by unfold parts; rw [HC.out])
      clear HC
      go_wp2
      go_ret
      exact ⟨_, rfl, by rw [HP.out]; exact H1.out, H2.out⟩

theorem specParts_any (s : ByteArray) (w : World) (hs : s.size ≤ 1048576) :
    Calls Tryd.prog 36 #[.string s] w fun e w' =>
      ∃ v, e = .returned v ∧ w'.ownsRow w.heap.size 9 1 v (parts s 47).length (texts (parts s 47)) ∧ Below w.heap.size w w' := by
  go_enter Tryd.func36, Tryd.ntmps36
  go_wp2_with (go_at_call 56; refine (specSplit_any s 47 w hs).mono ?_; rintro e w' ⟨v, rfl, h1, h2⟩)
  go_ret
  exact ⟨_, rfl, h1, h2⟩

end Go.Proofs.YtekcfjmnaenghaaDoor

/- A row of texts, opened. -/
namespace Go.Proofs.YtekcfjmnaenghaaDoor
open Go.RowKit

/-- A row of texts that the call owns, opened: where it lies, and each cell. -/
theorem row_open {w : World} {B : Nat} {v : Value} {l : List ByteArray} {E : TypeId} (h : w.ownsRow B E 1 v l.length (texts l)) (hl : 0 < l.length) :
    ∃ g cap, v = .slice (some ⟨g, 0, none⟩) l.length cap ∧ B ≤ g ∧ g < w.heap.size ∧ (∀ j (hj : j < l.length), w.cell? ⟨g, j, none⟩ = some (.string l[j])) ∧ (∀ j, w.frozen? ⟨g, j, none⟩ = false) := by
  obtain ⟨g, cap, rfl⟩ := Joins.ownsRow_form h hl
  have hlt := h.lt g rfl
  refine ⟨g, cap, rfl, hlt.1, hlt.2, fun j hj => ?_, fun j => h.frozenAt j⟩
  rw [h.cellAt j (by omega)]
  simp [texts, hj]

end Go.Proofs.YtekcfjmnaenghaaDoor

/- The walk of impl.PartsOf. -/
namespace Go.Proofs.YtekcfjmnaenghaaDoor
open Go.RowKit

theorem implParts_any (s : ByteArray) (m : Int) (w : World) (hs : s.size ≤ 1048576) (hm : w.cell? ⟨0, 0, none⟩ = some (.int .i64 m)) :
    Calls Tryd.prog 51 #[.string s] w fun e w' =>
      ∃ v, e = .returned v ∧ w'.ownsRow w.heap.size 9 1 v (parts s 47).length (texts (parts s 47)) ∧ Below w.heap.size w w' := by
  have c := Tryd.strings_Split s ⟨#[47]⟩ m w (by omega) hm (Nat.le_refl 1)
  rw [splitB_parts, countB_parts] at c
  have hp := parts_le s 47
  go_enter Tryd.func51, Tryd.ntmps51
  go_wp2_with (go_at_call 64; refine c.mono ?_; rintro e w' ⟨rfl, rfl⟩)
  go_ret
  refine ⟨_, rfl, ?_, (Below.refl _ _).alloc (Nat.le_refl _) _⟩
  have := World.ownsRow_lit (base := w.heap.size) (e := 9) (size := 1) w (texts (parts s 47)).toArray (parts s 47).length (Nat.le_refl _) (by unfold maxLen; omega) (by simp)
  simpa using this

end Go.Proofs.YtekcfjmnaenghaaDoor

/- The walk of impl.partCovers: does a part cover another? -/
namespace Go.Proofs.YtekcfjmnaenghaaDoor
open Go.RowKit

theorem wordOk_all (s : ByteArray) (w : World) : Calls Tryd.prog 52 #[.string s] w fun e w' => e = .returned (.bool (isWord s)) ∧ Below w.heap.size w w' := by
  by_cases h : s.size ≤ maxLen
  · exact wordOk_any s w h
  · unfold maxLen at h
    go_enter Tryd.func52, Tryd.ntmps52
    go_wp2
    go_ret
    exact ⟨ret_bool (by unfold isWord; grind), Below.refl _ _⟩

set_option maxRecDepth 100000 in
set_option maxHeartbeats 800000 in
theorem partCovers_any (p q : ByteArray) (w : World) :
    Calls Tryd.prog 54 #[.string p, .string q] w fun e w' => e = .returned (.bool (partC p q)) ∧ Below w.heap.size w w' := by
  have cw := wordOk_all q w
  cases hP : isPlus p
  · have hP2 : (p.toList == [43]) = false := hP
    have hE : partC p q = (p.toList == q.toList) := by unfold partC; rw [hP]; rfl
    rw [hE]
    clear cw hP hE
    go_enter Tryd.func54, Tryd.ntmps54
    go_wp2
    go_ret
    exact ⟨rfl, Below.refl _ _⟩
  · have hP2 : (p.toList == [43]) = true := hP
    cases hQ : isPlus q
    · have hQ2 : (q.toList == [43]) = false := hQ
      have hE : partC p q = isWord q := by unfold partC; rw [hP, hQ]; rfl
      rw [hE]
      clear hP hQ hE
      go_enter Tryd.func54, Tryd.ntmps54
      go_wp2_with (go_at_call 52; refine cw.mono ?_; rintro e w' ⟨rfl, hb⟩)
      go_ret
      exact ⟨rfl, hb⟩
    · have hQ2 : (q.toList == [43]) = true := hQ
      have hE : partC p q = true := by unfold partC; rw [hP, hQ]; rfl
      rw [hE]
      clear cw hP hQ hE
      go_enter Tryd.func54, Tryd.ntmps54
      go_wp2
      go_ret
      exact ⟨rfl, Below.refl _ _⟩

end Go.Proofs.YtekcfjmnaenghaaDoor

/- The walk of the reference's FilterOk: is a text a filter? -/
namespace Go.Proofs.YtekcfjmnaenghaaDoor
open Go.RowKit

set_option maxRecDepth 100000 in
set_option maxHeartbeats 1600000 in
theorem specFilter_any (s : ByteArray) (w : World) (hs : s.size ≤ 1048576) :
    Calls Tryd.prog 34 #[.string s] w fun e w' => e = .returned (.bool (filterP (parts s 47))) ∧ Below w.heap.size w w' := by
  have hpos := parts_pos s 47
  have hple := parts_le s 47
  have hps : Hid (∀ p ∈ parts s 47, p.size ≤ s.size) := Lib.hid (fun p h => parts_size h)
  obtain ⟨l, hl⟩ : ∃ l, parts s 47 = l := ⟨_, rfl⟩
  have hc := fun w => specParts_any s w hs
  rw [hl] at hpos hple hps ⊢
  simp only [hl] at hc
  clear hl
  go_enter Tryd.func34, Tryd.ntmps34
  go_wp2_with (go_at_call 36; refine (hc w).mono ?_; clear hc; rintro e w1 ⟨v, rfl, h1, h2⟩; obtain ⟨g, cap, rfl, hg1, hg2, hcell, _⟩ := row_open h1 hpos; have HC := Lib.hid hcell; have H2 := Lib.hid h2; clear h1 h2 hcell)
  go_loop [4] (fun i => ∃ k : Nat, k ≤ l.length ∧ i = .int .i64 k ∧ Hid (filterTo l k = true)) (fun i => l.length - (intOf i).toNat)
  case atStart => exact ⟨0, Nat.zero_le _, rfl, rfl⟩
  case round =>
    obtain ⟨k, hk, rfl, HL⟩ := hrel
    by_cases hlt : k < l.length
    · have hcx := HC.out k hlt
      have hsz : Hid (l[k].size ≤ maxLen) := Lib.hid (by have := hps.out _ (List.getElem_mem hlt); unfold maxLen; omega)
      obtain ⟨p, hp⟩ : ∃ p, l[k] = p := ⟨_, rfl⟩
      have HP : Hid (l[k] = p) := hp
      rw [hp] at hcx hsz
      clear hp
      have cw := specWord_any p w1 hsz.out
      obtain ⟨b, hb⟩ : ∃ b, isWord p = b := ⟨_, rfl⟩
      rw [hb] at cw
      have HB := Lib.hid hb
      clear hb
      cases b
      · go_wp2_with (go_at_call 55; refine cw.mono ?_; rintro e w' ⟨rfl, rfl⟩)
        all_goals first
          | (go_round
             case rel => exact ⟨k + 1, by omega, by go_num, Lib.hid (filterTo_next hlt HP.out HL.out (by have := HB.out; unfold partF; grind))⟩
             case measure => simp [intOf]; omega)
          | (go_ret; exact ⟨ret_bool (filterP_no hlt HP.out (by have := HB.out; unfold partF; grind)).symm, H2.out⟩)
      · go_wp2_with (go_at_call 55; refine cw.mono ?_; rintro e w' ⟨rfl, rfl⟩)
        go_round
        case rel => exact ⟨k + 1, by omega, by go_num, Lib.hid (filterTo_next hlt HP.out HL.out (by have := HB.out; unfold partF; grind))⟩
        case measure => simp [intOf]; omega
    · obtain rfl : k = l.length := by omega
      have HE := Lib.hid (filterP_end HL.out)
      clear HL
      go_wp2
      go_ret
      exact ⟨ret_bool (by rw [HE.out]; grind), H2.out⟩

end Go.Proofs.YtekcfjmnaenghaaDoor

/- The walk of impl.FilterOk: is a text a filter? -/
namespace Go.Proofs.YtekcfjmnaenghaaDoor
open Go.RowKit

set_option maxRecDepth 100000 in
set_option maxHeartbeats 1600000 in
theorem implFilter_any (s : ByteArray) (m : Int) (w : World) (hs : s.size ≤ 1048576) (hm : w.cell? ⟨0, 0, none⟩ = some (.int .i64 m)) :
    Calls Tryd.prog 31 #[.string s] w fun e w' => e = .returned (.bool (filterP (parts s 47))) ∧ Below w.heap.size w w' := by
  have hpos := parts_pos s 47
  have hple := parts_le s 47
  have hps : Hid (∀ p ∈ parts s 47, p.size ≤ s.size) := Lib.hid (fun p h => parts_size h)
  obtain ⟨l, hl⟩ : ∃ l, parts s 47 = l := ⟨_, rfl⟩
  have hc := implParts_any s m w hs hm
  rw [hl] at hpos hple hps hc ⊢
  clear hl hm
  by_cases h6 : l.length ≤ 6
  · go_enter Tryd.func31, Tryd.ntmps31
    go_wp2_with (go_at_call 51; refine hc.mono ?_; clear hc; rintro e w1 ⟨v, rfl, h1, h2⟩; obtain ⟨g, cap, rfl, hg1, hg2, hcell, _⟩ := row_open h1 hpos; have HC := Lib.hid hcell; have H2 := Lib.hid h2; clear h1 h2 hcell)
    go_loopw [14] (fun i wr => ∃ k : Nat, k ≤ l.length ∧ i = .int .i64 k ∧ Hid (filterTo l k = true) ∧ Hid (Below w1.heap.size w1 wr)) (fun i _ => l.length - (intOf i).toNat)
    case atStart => exact ⟨0, Nat.zero_le _, rfl, rfl, Below.refl _ _⟩
    case round =>
      obtain ⟨k, hk, rfl, HL, HW⟩ := hrel
      by_cases hlt : k < l.length
      · have hcx : wr.cell? ⟨g, k, none⟩ = some (.string l[k]) := (HW.out.cell hg2).trans (HC.out k hlt)
        have hsz : Hid (l[k].size ≤ maxLen) := Lib.hid (by have := hps.out _ (List.getElem_mem hlt); unfold maxLen; omega)
        obtain ⟨p, hp⟩ : ∃ p, l[k] = p := ⟨_, rfl⟩
        have HP : Hid (l[k] = p) := hp
        rw [hp] at hcx hsz
        clear hp
        have cw := wordOk_any p wr hsz.out
        obtain ⟨b, hb⟩ : ∃ b, isWord p = b := ⟨_, rfl⟩
        rw [hb] at cw
        have HB := Lib.hid hb
        clear hb
        cases b
        all_goals
          go_wp2_with (go_at_call 52; refine cw.mono ?_; rintro e w' ⟨rfl, hb⟩)
          all_goals first
            | (go_roundw
               case rel => exact ⟨k + 1, by omega, by go_num, Lib.hid (filterTo_next hlt HP.out HL.out (by have := HB.out; unfold partF; grind)), HW.out.trans (hb.mono HW.out.size)⟩
               case measure => simp [intOf]; omega)
            | (go_ret; exact ⟨ret_bool (filterP_no hlt HP.out (by have := HB.out; unfold partF; grind)).symm, H2.out.trans ((HW.out.trans (hb.mono HW.out.size)).mono H2.out.size)⟩)
      · obtain rfl : k = l.length := by omega
        have HE := Lib.hid (filterP_end HL.out)
        clear HL
        go_wp2
        go_ret
        exact ⟨ret_bool (by rw [HE.out]; grind), H2.out.trans (HW.out.mono H2.out.size)⟩
  · have hf : Hid (filterP l = false) := Lib.hid (by simp [filterP, h6])
    go_enter Tryd.func31, Tryd.ntmps31
    go_wp2_with (go_at_call 51; refine hc.mono ?_; clear hc; rintro e w1 ⟨v, rfl, h1, h2⟩; obtain ⟨g, cap, rfl, hg1, hg2, hcell, _⟩ := row_open h1 hpos; have HC := Lib.hid hcell; have H2 := Lib.hid h2; clear h1 h2 hcell)
    go_ret
    exact ⟨ret_bool hf.out.symm, H2.out⟩

end Go.Proofs.YtekcfjmnaenghaaDoor

/- The walk of the reference's Covers. -/
namespace Go.Proofs.YtekcfjmnaenghaaDoor
open Go.RowKit

set_option maxRecDepth 100000 in
set_option maxHeartbeats 1600000 in
theorem specCovers_any (f t : ByteArray) (w : World) (hf : f.size ≤ 1048576) (ht : t.size ≤ 1048576) :
    Calls Tryd.prog 13 #[.string f, .string t] w fun e w' => e = .returned (.bool (coverB f t)) ∧ Below w.heap.size w w' := by
  have c1 := specFilter_any f w hf
  have C2 := Lib.hid (fun w => specFilter_any t w ht)
  have C3 := Lib.hid (fun w => specParts_any f w hf)
  have C4 := Lib.hid (fun w => specParts_any t w ht)
  have hpf := parts_pos f 47
  have hpt := parts_pos t 47
  have hlf := parts_le f 47
  have hlt := parts_le t 47
  have HB : Hid (coverB f t = (filterP (parts f 47) && filterP (parts t 47) && coverP (parts f 47) (parts t 47))) := rfl
  obtain ⟨F, hF⟩ : ∃ F, parts f 47 = F := ⟨_, rfl⟩
  obtain ⟨T, hT⟩ : ∃ T, parts t 47 = T := ⟨_, rfl⟩
  rw [hF] at c1 C3 hpf hlf HB
  rw [hT] at C2 C4 hpt hlt HB
  clear hF hT
  obtain ⟨bf, hbf⟩ : ∃ b, filterP F = b := ⟨_, rfl⟩
  obtain ⟨bt, hbt⟩ : ∃ b, filterP T = b := ⟨_, rfl⟩
  rw [hbf] at c1 HB
  rw [hbt] at C2 HB
  clear hbf hbt
  cases bf
  · go_enter Tryd.func13, Tryd.ntmps13
    go_wp2_with fail
    refine c1.mono ?_
    rintro e w1 ⟨rfl, b1⟩
    have B1 := Lib.hid b1
    clear b1 c1
    go_wp2
    go_ret
    exact ⟨ret_bool (by rw [HB.out]; rfl), B1.out⟩
  · cases bt
    · go_enter Tryd.func13, Tryd.ntmps13
      go_wp2_with fail
      refine c1.mono ?_
      rintro e w1 ⟨rfl, b1⟩
      have B1 := Lib.hid b1
      clear b1 c1
      go_wp2_with fail
      refine (C2.out w1).mono ?_
      rintro e w2 ⟨rfl, b2⟩
      have B2 := Lib.hid (B1.out.trans (b2.mono B1.out.size))
      clear b2 B1
      go_wp2
      go_ret
      exact ⟨ret_bool (by rw [HB.out]; rfl), B2.out⟩
    · go_enter Tryd.func13, Tryd.ntmps13
      go_wp2_with fail
      refine c1.mono ?_
      rintro e w1 ⟨rfl, b1⟩
      have B1 := Lib.hid b1
      clear b1 c1
      go_wp2_with fail
      refine (C2.out w1).mono ?_
      rintro e w2 ⟨rfl, b2⟩
      have B2 := Lib.hid (B1.out.trans (b2.mono B1.out.size))
      clear b2 B1
      go_wp2_with fail
      refine (C3.out w2).mono ?_
      rintro e w3 ⟨v3, rfl, o3, b3⟩
      obtain ⟨gf, cf, rfl, _, hgf, hcf, _⟩ := row_open o3 hpf
      have HCF := Lib.hid hcf
      have B3 := Lib.hid (B2.out.trans (b3.mono B2.out.size))
      clear b3 B2 o3 hcf
      go_wp2_with fail
      refine (C4.out w3).mono ?_
      rintro e w4 ⟨v4, rfl, o4, b4⟩
      obtain ⟨gt, ct, rfl, _, hgt, hct, _⟩ := row_open o4 hpt
      have HCT := Lib.hid hct
      have HCF2 : Hid (∀ j (hj : j < F.length), w4.cell? ⟨gf, j, none⟩ = some (.string F[j])) := Lib.hid (fun j hj => (below_cell b4 hgf).trans (HCF.out j hj))
      have hgf4 : gf < w4.heap.size := Nat.lt_of_lt_of_le hgf b4.size
      have B4 := Lib.hid (B3.out.trans (b4.mono B3.out.size))
      clear b4 B3 o4 hct HCF C2 C3 C4
      go_wp2_with fail
      go_loopw [7] (fun i wr => ∃ k : Nat, k ≤ F.length ∧ k ≤ T.length ∧ i = .int .i64 k ∧ Hid (coverP F T = coverP (F.drop k) (T.drop k)) ∧ Hid (Below w4.heap.size w4 wr)) (fun i _ => F.length - (intOf i).toNat)
      case atStart => exact ⟨0, Nat.zero_le _, Nat.zero_le _, rfl, rfl, Below.refl _ _⟩
      case round =>
        obtain ⟨k, hkF, hkT, rfl, HM, HW⟩ := hrel
        by_cases hk : k < F.length
        · have hp := (below_cell HW.out hgf4).trans (HCF2.out k hk)
          cases hA : isHash F[k]
          · have hA2 : (F[k].toList == [35]) = false := hA
            by_cases hk2 : k < T.length
            · have hq := (below_cell HW.out hgt).trans (HCT.out k hk2)
              have hi1 : (k : Int) < (T.length : Int) := by omega
              have hi2 : decide (T.length ≤ k) = false := decide_eq_false (by omega)
              have HIN := Lib.hid (coverP_in hk hk2 hA)
              obtain ⟨p, hpp⟩ : ∃ p, F[k] = p := ⟨_, rfl⟩
              obtain ⟨q, hqq⟩ : ∃ q, T[k] = q := ⟨_, rfl⟩
              rw [hpp] at hp hA2 HIN
              rw [hqq] at hq HIN
              clear hpp hqq hA
              cases hG : isHash q
              all_goals have HG := Lib.hid hG
              · have hG2 : (q.toList == [35]) = false := hG
                clear hG
                cases hP : isPlus p
                · have hP2 : (p.toList == [43]) = false := hP
                  have hP3 : (!(p.toList == [43])) = true := by rw [hP2]; rfl
                  cases hQ : alike p q
                  · have hQ2 : (p.toList == q.toList) = false := hQ
                    have hQ3 : (!(p.toList == q.toList)) = true := by rw [hQ2]; rfl
                    have HE : Hid (coverP F T = false) := Lib.hid (by rw [HM.out, HIN.out, HG.out, hP, hQ]; rfl)
                    clear hP hQ HIN HM
                    go_wp2_with fail
                    go_quiet (fail)
                    go_wp2
                    go_ret
                    exact ⟨ret_bool (by rw [HB.out, HE.out]; rfl), below_drewN (below_end B4.out HW.out) _⟩
                  · have hQ2 : (p.toList == q.toList) = true := hQ
                    have hQ3 : (!(p.toList == q.toList)) = false := by rw [hQ2]; rfl
                    have HN : Hid (coverP F T = coverP (F.drop (k + 1)) (T.drop (k + 1))) := Lib.hid (by rw [HM.out, HIN.out, HG.out, hP, hQ]; rfl)
                    clear hP hQ HIN HM
                    go_wp2_with fail
                    go_quiet (fail)
                    go_wp2
                    go_roundw
                    case rel => exact ⟨k + 1, by omega, by omega, by go_num, HN, below_drewN HW.out _⟩
                    case measure => simp [intOf]; omega
                · have hP2 : (p.toList == [43]) = true := hP
                  have hP3 : (!(p.toList == [43])) = false := by rw [hP2]; rfl
                  have HN : Hid (coverP F T = coverP (F.drop (k + 1)) (T.drop (k + 1))) := Lib.hid (by rw [HM.out, HIN.out, HG.out, hP]; rfl)
                  clear hP HIN HM
                  go_wp2_with fail
                  go_quiet (fail)
                  go_wp2
                  go_roundw
                  case rel => exact ⟨k + 1, by omega, by omega, by go_num, HN, below_drewN HW.out _⟩
                  case measure => simp [intOf]; omega
              · have hG2 : (q.toList == [35]) = true := hG
                have HE : Hid (coverP F T = false) := Lib.hid (by rw [HM.out, HIN.out, hG]; rfl)
                clear hG HIN HM
                go_wp2_with fail
                go_quiet (fail)
                go_wp2
                go_ret
                exact ⟨ret_bool (by rw [HB.out, HE.out]; rfl), below_drewN (below_end B4.out HW.out) _⟩
            · have HE : Hid (coverP F T = false) := Lib.hid (by rw [HM.out, coverP_out hk hA (by omega)])
              have hi2 : decide (T.length ≤ k) = true := decide_eq_true (by omega)
              obtain ⟨p, hpp⟩ : ∃ p, F[k] = p := ⟨_, rfl⟩
              rw [hpp] at hp hA2
              clear hpp hA HM
              go_wp2_with fail
              go_quiet (fail)
              go_wp2
              go_ret
              exact ⟨ret_bool (by rw [HB.out, HE.out]; rfl), below_drewN (below_end B4.out HW.out) _⟩
          · have hA2 : (F[k].toList == [35]) = true := hA
            have HE : Hid (coverP F T = true) := Lib.hid (by rw [HM.out, coverP_hash hk hA])
            obtain ⟨p, hpp⟩ : ∃ p, F[k] = p := ⟨_, rfl⟩
            rw [hpp] at hp hA2
            clear hpp hA HM
            go_wp2
            go_ret
            exact ⟨ret_bool (by rw [HB.out, HE.out]; rfl), below_end B4.out HW.out⟩
        · obtain rfl : k = F.length := by omega
          have HE : Hid (coverP F T = decide (F.length = T.length)) := Lib.hid (by rw [HM.out, coverP_end F T _ (Nat.le_refl _) hkT])
          clear HM
          go_wp2
          go_ret
          exact ⟨ret_bool (by rw [HB.out, HE.out]; grind), below_end B4.out HW.out⟩

end Go.Proofs.YtekcfjmnaenghaaDoor

/- The walk of the reference's TopicOk: is a text a topic? -/
namespace Go.Proofs.YtekcfjmnaenghaaDoor
open Go.RowKit

set_option maxRecDepth 100000 in
set_option maxHeartbeats 800000 in
theorem specTopic_any (s : ByteArray) (w : World) (hs : s.size ≤ 1048576) :
    Calls Tryd.prog 35 #[.string s] w fun e w' => e = .returned (.bool (topicP (parts s 47))) ∧ Below w.heap.size w w' := by
  have hpos := parts_pos s 47
  have hple := parts_le s 47
  have hps : Hid (∀ p ∈ parts s 47, p.size ≤ s.size) := Lib.hid (fun p h => parts_size h)
  obtain ⟨l, hl⟩ : ∃ l, parts s 47 = l := ⟨_, rfl⟩
  have hc := fun w => specParts_any s w hs
  rw [hl] at hpos hple hps ⊢
  simp only [hl] at hc
  clear hl
  go_enter Tryd.func35, Tryd.ntmps35
  go_wp2_with (go_at_call 36; refine (hc w).mono ?_; clear hc; rintro e w1 ⟨v, rfl, h1, h2⟩; obtain ⟨g, cap, rfl, hg1, hg2, hcell, _⟩ := row_open h1 hpos; have HC := Lib.hid hcell; have H2 := Lib.hid h2; clear h1 h2 hcell)
  go_loop [4] (fun i => ∃ k : Nat, k ≤ l.length ∧ i = .int .i64 k ∧ Hid ((l.take k).all isWord = true)) (fun i => l.length - (intOf i).toNat)
  case atStart => exact ⟨0, Nat.zero_le _, rfl, rfl⟩
  case round =>
    obtain ⟨k, hk, rfl, HL⟩ := hrel
    by_cases hlt : k < l.length
    · have hcx := HC.out k hlt
      have hsz : Hid (l[k].size ≤ maxLen) := Lib.hid (by have := hps.out _ (List.getElem_mem hlt); unfold maxLen; omega)
      cases hw : isWord l[k]
      · have HB := Lib.hid (topicP_bad hlt hw)
        have cw := specWord_any l[k] w1 hsz.out
        rw [hw] at cw
        clear hw
        go_wp2_with (go_at_call 55; refine cw.mono ?_; rintro e w' ⟨rfl, rfl⟩)
        go_ret
        exact ⟨ret_bool HB.out.symm, H2.out⟩
      · have HN : Hid ((l.take (k + 1)).all isWord = true) := Lib.hid (by rw [all_snoc l k hlt, HL.out, hw]; rfl)
        have cw := specWord_any l[k] w1 hsz.out
        rw [hw] at cw
        clear hw
        go_wp2_with (go_at_call 55; refine cw.mono ?_; rintro e w' ⟨rfl, rfl⟩)
        go_round
        case rel => exact ⟨k + 1, by omega, by go_num, HN⟩
        case measure => simp [intOf]; omega
    · obtain rfl : k = l.length := by omega
      have HE := Lib.hid (topicP_end HL.out)
      clear HL
      go_wp2
      go_ret
      exact ⟨ret_bool (by rw [HE.out]; grind), H2.out⟩

end Go.Proofs.YtekcfjmnaenghaaDoor

/- The walks of impl.PartsOf and impl.TopicOk: is a text a topic? -/
namespace Go.Proofs.YtekcfjmnaenghaaDoor
open Go.RowKit

set_option maxRecDepth 100000 in
set_option maxHeartbeats 800000 in
theorem implTopic_any (s : ByteArray) (m : Int) (w : World) (hs : s.size ≤ 1048576) (hm : w.cell? ⟨0, 0, none⟩ = some (.int .i64 m)) :
    Calls Tryd.prog 32 #[.string s] w fun e w' => e = .returned (.bool (topicP (parts s 47))) ∧ Below w.heap.size w w' := by
  have hpos := parts_pos s 47
  have hple := parts_le s 47
  have hps : Hid (∀ p ∈ parts s 47, p.size ≤ s.size) := Lib.hid (fun p h => parts_size h)
  obtain ⟨l, hl⟩ : ∃ l, parts s 47 = l := ⟨_, rfl⟩
  have hc := implParts_any s m w hs hm
  rw [hl] at hpos hple hps hc ⊢
  clear hl hm
  by_cases h6 : l.length ≤ 6
  · go_enter Tryd.func32, Tryd.ntmps32
    go_wp2_with (go_at_call 51; refine hc.mono ?_; clear hc; rintro e w1 ⟨v, rfl, h1, h2⟩; obtain ⟨g, cap, rfl, hg1, hg2, hcell, _⟩ := row_open h1 hpos; have HC := Lib.hid hcell; have H2 := Lib.hid h2; clear h1 h2 hcell)
    go_loopw [13] (fun i wr => ∃ k : Nat, k ≤ l.length ∧ i = .int .i64 k ∧ Hid ((l.take k).all isWord = true) ∧ Hid (Below w1.heap.size w1 wr)) (fun i _ => l.length - (intOf i).toNat)
    case atStart => exact ⟨0, Nat.zero_le _, rfl, rfl, Below.refl _ _⟩
    case round =>
      obtain ⟨k, hk, rfl, HL, HW⟩ := hrel
      by_cases hlt : k < l.length
      · have hcx : wr.cell? ⟨g, k, none⟩ = some (.string l[k]) := (HW.out.cell hg2).trans (HC.out k hlt)
        have hsz : Hid (l[k].size ≤ maxLen) := Lib.hid (by have := hps.out _ (List.getElem_mem hlt); unfold maxLen; omega)
        cases hw : isWord l[k]
        · have HB := Lib.hid (topicP_bad hlt hw)
          have cw := wordOk_any l[k] wr hsz.out
          rw [hw] at cw
          clear hw
          go_wp2_with (go_at_call 52; refine cw.mono ?_; rintro e w' ⟨rfl, hb⟩)
          go_ret
          exact ⟨ret_bool HB.out.symm, H2.out.trans ((HW.out.trans (hb.mono HW.out.size)).mono H2.out.size)⟩
        · have HN : Hid ((l.take (k + 1)).all isWord = true) := Lib.hid (by rw [all_snoc l k hlt, HL.out, hw]; rfl)
          have cw := wordOk_any l[k] wr hsz.out
          rw [hw] at cw
          clear hw
          go_wp2_with (go_at_call 52; refine cw.mono ?_; rintro e w' ⟨rfl, hb⟩)
          go_roundw
          case rel => exact ⟨k + 1, by omega, by go_num, HN, HW.out.trans (hb.mono HW.out.size)⟩
          case measure => simp [intOf]; omega
      · obtain rfl : k = l.length := by omega
        have HE := Lib.hid (topicP_end HL.out)
        clear HL
        go_wp2
        go_ret
        exact ⟨ret_bool (by rw [HE.out]; grind), H2.out.trans (HW.out.mono H2.out.size)⟩
  · have hf : Hid (topicP l = false) := Lib.hid (by simp [topicP, h6])
    go_enter Tryd.func32, Tryd.ntmps32
    go_wp2_with (go_at_call 51; refine hc.mono ?_; clear hc; rintro e w1 ⟨v, rfl, h1, h2⟩; obtain ⟨g, cap, rfl, hg1, hg2, hcell, _⟩ := row_open h1 hpos; have HC := Lib.hid hcell; have H2 := Lib.hid h2; clear h1 h2 hcell)
    go_ret
    exact ⟨ret_bool hf.out.symm, H2.out⟩

end Go.Proofs.YtekcfjmnaenghaaDoor
