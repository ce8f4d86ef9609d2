/- Small texts, laid together. -/
import Derived.Test.YtekcfjmnaenghaaDoorZCut
import Derived.Laws.Strings
import Derived.Test.YtekcfjmnaenghaaDoorZB1
import Derived.Lib.SmallJoins
import Derived.BigQuiet
import Derived.Deep.QuietTactic
set_option linter.unusedSimpArgs false
set_option linter.unusedVariables false
/- Plain mathematics of chapter 2: when the parts of a filter match those of a topic, and when they cover those of a filter. -/
namespace Go.Proofs.YtekcfjmnaenghaaDoor

def isPlus (p : ByteArray) : Bool := p.toList == [43]
def isHash (p : ByteArray) : Bool := p.toList == [35]
def alike (p q : ByteArray) : Bool := p.toList == q.toList

/-- Do the parts of a filter match those of a topic? -/
def matchP : List ByteArray → List ByteArray → Bool
  | [], [] => true
  | [], _ :: _ => false
  | p :: _, [] => isHash p
  | p :: ps, t :: ts => isHash p || ((isPlus p || alike p t) && matchP ps ts)

/-- Do the parts of a filter cover those of another? -/
def coverP : List ByteArray → List ByteArray → Bool
  | [], [] => true
  | [], _ :: _ => false
  | p :: _, [] => isHash p
  | p :: ps, q :: qs => isHash p || ((!isHash q) && (isPlus p || alike p q) && coverP ps qs)

/-- 'Matches'. -/
def matchB (f t : ByteArray) : Bool := filterP (parts f 47) && topicP (parts t 47) && matchP (parts f 47) (parts t 47)
/-- 'Covers'. -/
def coverB (a b : ByteArray) : Bool := filterP (parts a 47) && filterP (parts b 47) && coverP (parts a 47) (parts b 47)

theorem matchP_end (F T : List ByteArray) (k : Nat) (hF : F.length ≤ k) (hT : k ≤ T.length) : matchP (F.drop k) (T.drop k) = decide (k = T.length) := by
  rw [List.drop_of_length_le hF]
  by_cases h : k = T.length
  · rw [List.drop_of_length_le (by omega)]; simp [matchP, h]
  · rw [List.drop_eq_getElem_cons (show k < T.length by omega)]; simp [matchP, h]

theorem coverP_end (F T : List ByteArray) (k : Nat) (hF : F.length ≤ k) (hT : k ≤ T.length) : coverP (F.drop k) (T.drop k) = decide (k = T.length) := by
  rw [List.drop_of_length_le hF]
  by_cases h : k = T.length
  · rw [List.drop_of_length_le (by omega)]; simp [coverP, h]
  · rw [List.drop_eq_getElem_cons (show k < T.length by omega)]; simp [coverP, h]

theorem matchP_hash {F T : List ByteArray} {k : Nat} (h : k < F.length) (hp : isHash F[k] = true) : matchP (F.drop k) (T.drop k) = true := by
  rw [List.drop_eq_getElem_cons h]
  cases T.drop k <;> simp [matchP, hp]

theorem coverP_hash {F T : List ByteArray} {k : Nat} (h : k < F.length) (hp : isHash F[k] = true) : coverP (F.drop k) (T.drop k) = true := by
  rw [List.drop_eq_getElem_cons h]
  cases T.drop k <;> simp [coverP, hp]

theorem matchP_out {F T : List ByteArray} {k : Nat} (h : k < F.length) (hp : isHash F[k] = false) (hT : T.length ≤ k) : matchP (F.drop k) (T.drop k) = false := by
  rw [List.drop_eq_getElem_cons h, List.drop_of_length_le hT]; simp [matchP, hp]

theorem coverP_out {F T : List ByteArray} {k : Nat} (h : k < F.length) (hp : isHash F[k] = false) (hT : T.length ≤ k) : coverP (F.drop k) (T.drop k) = false := by
  rw [List.drop_eq_getElem_cons h, List.drop_of_length_le hT]; simp [coverP, hp]

theorem matchP_in {F T : List ByteArray} {k : Nat} (h : k < F.length) (hT : k < T.length) (hp : isHash F[k] = false) : matchP (F.drop k) (T.drop k) = ((isPlus F[k] || alike F[k] T[k]) && matchP (F.drop (k + 1)) (T.drop (k + 1))) := by
  rw [List.drop_eq_getElem_cons h, List.drop_eq_getElem_cons hT, matchP, hp, Bool.false_or]

theorem coverP_in {F T : List ByteArray} {k : Nat} (h : k < F.length) (hT : k < T.length) (hp : isHash F[k] = false) : coverP (F.drop k) (T.drop k) = ((!isHash T[k]) && (isPlus F[k] || alike F[k] T[k]) && coverP (F.drop (k + 1)) (T.drop (k + 1))) := by
  rw [List.drop_eq_getElem_cons h, List.drop_eq_getElem_cons hT, coverP, hp, Bool.false_or]

theorem alike_refl (p : ByteArray) : alike p p = true := by simp [alike]
theorem alike_trans {p q r : ByteArray} (h : alike p q = true) (k : alike q r = true) : alike p r = true := by
  simp only [alike, beq_iff_eq] at *; rw [h, k]
theorem plus_alike {p q : ByteArray} (h : alike p q = true) (k : isPlus q = true) : isPlus p = true := by
  simp only [alike, isPlus, beq_iff_eq] at *; rw [h, k]

theorem matchP_self : ∀ L : List ByteArray, matchP L L = true
  | [] => rfl
  | p :: L => by rw [matchP, alike_refl, matchP_self L]; simp

theorem coverP_self : ∀ L : List ByteArray, coverP L L = true
  | [] => rfl
  | p :: L => by rw [coverP, alike_refl, coverP_self L]; cases isHash p <;> simp

/-- What covers matches all that is matched. -/
theorem cover_match : ∀ A B T : List ByteArray, coverP A B = true → matchP B T = true → matchP A T = true
  | [], [], _, _, h => h
  | [], _ :: _, _, h, _ => by simp [coverP] at h
  | p :: ps, [], T, h, _ => by
    rw [coverP] at h
    cases T <;> simp [matchP, h]
  | p :: ps, q :: qs, T, h, k => by
    rw [coverP] at h
    by_cases hp : isHash p = true
    · cases T <;> simp [matchP, hp]
    · have hp2 : isHash p = false := by simpa using hp
      rw [hp2, Bool.false_or, Bool.and_eq_true, Bool.and_eq_true] at h
      obtain ⟨⟨hq, ha⟩, hc⟩ := h
      have hq2 : isHash q = false := by simpa using hq
      cases T with
      | nil => rw [matchP, hq2] at k; cases k
      | cons t ts =>
        rw [matchP, hq2, Bool.false_or, Bool.and_eq_true] at k
        obtain ⟨ka, kc⟩ := k
        rw [matchP, hp2, Bool.false_or, Bool.and_eq_true]
        refine ⟨?_, cover_match ps qs ts hc kc⟩
        rw [Bool.or_eq_true] at ha ka ⊢
        rcases ha with ha | ha
        · exact .inl ha
        · rcases ka with ka | ka
          · exact .inl (plus_alike ha ka)
          · exact .inr (alike_trans ha ka)

theorem matchB_self {x : ByteArray} (h : topicP (parts x 47) = true) (hf : filterP (parts x 47) = true) : matchB x x = true := by
  rw [matchB, h, hf, matchP_self]; rfl

theorem hash_isHash : isHash ⟨#[35]⟩ = true := by rw [isHash, Go.ByteArray.toList_eq]; rfl

theorem hash_parts : parts ⟨#[35]⟩ 47 = [⟨#[35]⟩] := by
  apply lists_ext; rw [parts_data]; rfl

theorem hash_filterP : filterP (parts ⟨#[35]⟩ 47) = true := by
  rw [hash_parts]; simp [filterP, filterTo, partF, Go.ByteArray.toList_eq]

theorem matchB_all {x : ByteArray} (h : topicP (parts x 47) = true) : matchB ⟨#[35]⟩ x = true := by
  rw [matchB, h, hash_filterP, hash_parts]
  cases parts x 47 <;> simp [matchP, hash_isHash]

theorem coverB_self {x : ByteArray} (h : filterP (parts x 47) = true) : coverB x x = true := by
  rw [coverB, h, coverP_self]; rfl

theorem coverB_all {x : ByteArray} (h : filterP (parts x 47) = true) : coverB ⟨#[35]⟩ x = true := by
  rw [coverB, h, hash_filterP, hash_parts]
  cases parts x 47 <;> simp [coverP, hash_isHash]

theorem coverB_match {p q x : ByteArray} (h : coverB p q = true) (k : matchB q x = true) : matchB p x = true := by
  simp only [coverB, matchB, Bool.and_eq_true] at *
  exact ⟨⟨h.1.1, k.1.2⟩, cover_match _ _ _ h.2 k.2⟩

end Go.Proofs.YtekcfjmnaenghaaDoor

/- Plain mathematics of chapter 2, as a walk over two lists side by side tells it. -/
namespace Go.Proofs.YtekcfjmnaenghaaDoor

/-- Does a part cover another? -/
def partC (p q : ByteArray) : Bool := if isPlus p then isPlus q || isWord q else alike p q

/-- What pairs tell, in order. -/
def runC : List (ByteArray × ByteArray) → Bool
  | [] => true
  | x :: r => isHash x.1 || (partC x.1 x.2 && runC r)

/-- Part k of a list; the empty text behind its end. -/
def partQ (L : List ByteArray) (k : Nat) : ByteArray := L.getD k ⟨#[]⟩

/-- The first k pairs. -/
def uptoP (F T : List ByteArray) (k : Nat) : List (ByteArray × ByteArray) := (List.range k).map fun j => (partQ F j, partQ T j)

theorem uptoP_succ (F T : List ByteArray) (k : Nat) : uptoP F T (k + 1) = uptoP F T k ++ [(partQ F k, partQ T k)] := by simp [uptoP, List.range_succ]
theorem uptoP_len (F T : List ByteArray) (k : Nat) : (uptoP F T k).length = k := by simp [uptoP]

theorem partQ_tail (L : List ByteArray) (k : Nat) : partQ L (k + 1) = partQ L.tail k := by
  cases L <;> simp [partQ]

theorem uptoP_cons (F T : List ByteArray) (k : Nat) : uptoP F T (k + 1) = (partQ F 0, partQ T 0) :: uptoP F.tail T.tail k := by
  simp [uptoP, List.range_succ_eq_map, partQ_tail]

theorem uptoP_prefix (F T : List ByteArray) {k n : Nat} (h : k ≤ n) : ∃ r, uptoP F T n = uptoP F T k ++ r := by
  obtain ⟨d, rfl⟩ := Nat.le.dest h
  induction d with
  | zero => exact ⟨[], by simp⟩
  | succ d ih =>
    obtain ⟨r, hr⟩ := ih (by omega)
    exact ⟨r ++ [(partQ F (k + d), partQ T (k + d))], by rw [← Nat.add_assoc, uptoP_succ, hr, List.append_assoc]⟩

theorem nil_toList : (⟨#[]⟩ : ByteArray).toList = [] := by rw [Go.ByteArray.toList_eq]
theorem nil_hash : isHash ⟨#[]⟩ = false := by rw [isHash, nil_toList]; rfl
theorem nil_plus : isPlus ⟨#[]⟩ = false := by rw [isPlus, nil_toList]; rfl
theorem nil_word : isWord ⟨#[]⟩ = false := by rfl

theorem hash_word {q : ByteArray} (h : isHash q = true) : isWord q = false := by
  have h2 : q.data.toList = [35] := by
    have := h
    rw [isHash, Go.ByteArray.toList_eq] at this
    simpa using this
  unfold isWord lowAll
  rw [h2]; rfl

theorem hash_plus {q : ByteArray} (h : isHash q = true) : isPlus q = false := by
  have h2 : q.toList = [35] := by simpa [isHash] using h
  rw [isPlus, h2]; rfl

theorem word_some {q : ByteArray} (h : isWord q = true) : q.toList ≠ [] := by
  intro e
  rw [Go.ByteArray.toList_eq] at e
  have h2 : q.size = 0 := by
    have : q.data.toList.length = 0 := by rw [e]; rfl
    simpa using this
  unfold isWord at h
  simp [h2] at h

theorem hash_alike {p q : ByteArray} (h : alike p q = true) : isHash q = isHash p := by
  simp only [alike, beq_iff_eq] at h
  rw [isHash, isHash, h]

/-- A part that may stand in a filter. -/
def goodF (q : ByteArray) : Prop := q.toList ≠ [] ∧ (isHash q || isPlus q || isWord q) = true

theorem goodF_word {q : ByteArray} (h : isWord q = true) : goodF q := ⟨word_some h, by rw [h]; simp⟩

theorem goodF_of {p : ByteArray} {b : Bool} (h : partF p b = true) : goodF p := by
  unfold partF at h
  cases hw : isWord p
  · rw [hw] at h
    cases hp : isPlus p
    · have hp2 : (p.toList == [43]) = false := hp
      rw [hp2] at h
      have h2 : isHash p = true := by simp [isHash] at h ⊢; exact h.2
      exact ⟨by have : p.toList = [35] := by simpa [isHash] using h2
                rw [this]; simp, by rw [h2]; rfl⟩
    · exact ⟨by have : p.toList = [43] := by simpa [isPlus] using hp
                rw [this]; simp, by rw [hp]; simp⟩
  · exact goodF_word hw

theorem filterP_good {F : List ByteArray} (h : filterP F = true) : ∀ p ∈ F, goodF p := by
  intro p hp
  obtain ⟨i, hi, rfl⟩ := List.getElem_of_mem hp
  unfold filterP at h
  rw [Bool.and_eq_true] at h
  have h2 := h.2
  unfold filterTo at h2
  rw [List.all_eq_true] at h2
  have h3 := h2 i (by simpa using hi)
  have h4 : F.getD i ByteArray.empty = F[i] := by simp [hi]
  rw [h4] at h3
  exact goodF_of h3

theorem topicP_good {T : List ByteArray} (h : topicP T = true) : ∀ q ∈ T, isWord q = true := by
  unfold topicP at h
  rw [Bool.and_eq_true, List.all_eq_true] at h
  exact h.2

theorem nil_alike {q : ByteArray} (h : q.toList ≠ []) : alike ⟨#[]⟩ q = false := by
  rw [alike, nil_toList]
  cases e : q.toList
  · exact absurd e h
  · rfl

theorem alike_nil {q : ByteArray} (h : q.toList ≠ []) : alike q ⟨#[]⟩ = false := by
  rw [alike, nil_toList]
  cases e : q.toList
  · exact absurd e h
  · rfl

theorem partC_nilL {q : ByteArray} (h : q.toList ≠ []) : partC ⟨#[]⟩ q = false := by
  unfold partC; rw [nil_plus, nil_alike h]; rfl

theorem partC_nilR {q : ByteArray} (h : q.toList ≠ []) : partC q ⟨#[]⟩ = false := by
  unfold partC; rw [nil_plus, nil_word, alike_nil h]; cases isPlus q <;> rfl

theorem runC_cover : ∀ F T : List ByteArray, (∀ p ∈ F, goodF p) → (∀ q ∈ T, goodF q) → runC (uptoP F T (max F.length T.length)) = coverP F T
  | [], [], _, _ => rfl
  | [], q :: T, _, hT => by
    have hq := hT q (by simp)
    rw [List.length_nil, List.length_cons, Nat.zero_max, uptoP_cons, runC, coverP]
    show (isHash ⟨#[]⟩ || (partC ⟨#[]⟩ q && _)) = false
    rw [nil_hash, partC_nilL hq.1]; rfl
  | p :: F, [], hF, _ => by
    have hp := hF p (by simp)
    rw [List.length_nil, List.length_cons, Nat.max_zero, uptoP_cons, runC, coverP]
    show (isHash p || (partC p ⟨#[]⟩ && _)) = isHash p
    rw [partC_nilR hp.1]; cases isHash p <;> rfl
  | p :: F, q :: T, hF, hT => by
    have hq := hT q (by simp)
    have ih := runC_cover F T (fun x hx => hF x (by simp [hx])) (fun x hx => hT x (by simp [hx]))
    rw [List.length_cons, List.length_cons, Nat.succ_max_succ, uptoP_cons, runC, coverP]
    show (isHash p || (partC p q && runC (uptoP F T _))) = _
    rw [ih]
    cases hp : isHash p
    · unfold partC
      cases hpp : isPlus p
      · cases ha : alike p q
        · simp
        · rw [hash_alike ha, hp]; rfl
      · cases hh : isHash q
        · have := hq.2; rw [hh] at this
          simp at this ⊢
          rcases this with h | h <;> simp [h]
        · rw [hash_word hh, hash_plus hh]; rfl
    · rfl

theorem runC_match : ∀ F T : List ByteArray, (∀ p ∈ F, goodF p) → (∀ q ∈ T, isWord q = true) → runC (uptoP F T (max F.length T.length)) = matchP F T
  | [], [], _, _ => rfl
  | [], q :: T, _, hT => by
    have hq := goodF_word (hT q (by simp))
    rw [List.length_nil, List.length_cons, Nat.zero_max, uptoP_cons, runC, matchP]
    show (isHash ⟨#[]⟩ || (partC ⟨#[]⟩ q && _)) = false
    rw [nil_hash, partC_nilL hq.1]; rfl
  | p :: F, [], hF, _ => by
    have hp := hF p (by simp)
    rw [List.length_nil, List.length_cons, Nat.max_zero, uptoP_cons, runC, matchP]
    show (isHash p || (partC p ⟨#[]⟩ && _)) = isHash p
    rw [partC_nilR hp.1]; cases isHash p <;> rfl
  | p :: F, q :: T, hF, hT => by
    have hq := hT q (by simp)
    have ih := runC_match F T (fun x hx => hF x (by simp [hx])) (fun x hx => hT x (by simp [hx]))
    rw [List.length_cons, List.length_cons, Nat.succ_max_succ, uptoP_cons, runC, matchP]
    show (isHash p || (partC p q && runC (uptoP F T _))) = _
    rw [ih]
    unfold partC
    cases isHash p <;> cases isPlus p <;> simp [hq]

theorem runC_step (pre : List (ByteArray × ByteArray)) (x : ByteArray × ByteArray) (h : ∀ r, runC (pre ++ r) = runC r) (hh : isHash x.1 = false) (hp : partC x.1 x.2 = true) : ∀ r, runC ((pre ++ [x]) ++ r) = runC r := by
  intro r
  rw [List.append_assoc, h]
  show (isHash x.1 || (partC x.1 x.2 && runC r)) = runC r
  rw [hh, hp]; rfl

theorem runC_yes (pre : List (ByteArray × ByteArray)) (x : ByteArray × ByteArray) (h : ∀ r, runC (pre ++ r) = runC r) (hh : isHash x.1 = true) : ∀ r, runC ((pre ++ [x]) ++ r) = true := by
  intro r
  rw [List.append_assoc, h]
  show (isHash x.1 || (partC x.1 x.2 && runC r)) = true
  rw [hh]; rfl

theorem runC_no (pre : List (ByteArray × ByteArray)) (x : ByteArray × ByteArray) (h : ∀ r, runC (pre ++ r) = runC r) (hh : isHash x.1 = false) (hp : partC x.1 x.2 = false) : ∀ r, runC ((pre ++ [x]) ++ r) = false := by
  intro r
  rw [List.append_assoc, h]
  show (isHash x.1 || (partC x.1 x.2 && runC r)) = false
  rw [hh, hp]; rfl

end Go.Proofs.YtekcfjmnaenghaaDoor

/- The walks of spec.l1Split and spec.PartsOf: the list of the parts, in memory of the call's own. -/
namespace Go.Proofs.YtekcfjmnaenghaaDoor
open Go.RowKit

theorem Tryd.infoString : (Tryd.prog.info? 9).map (fun i => (i.zero, i.size, i.bytes)) = some (some (.string ByteArray.empty), 1, 16) := by kernel_rfl

/-- The cells of a list of texts. -/
abbrev texts (l : List ByteArray) : List Value := l.map Value.string

theorem texts_snoc (l : List ByteArray) (x : ByteArray) : texts l ++ [.string x] = texts (l ++ [x]) := by simp [texts]

theorem one_string (x : ByteArray) : ∀ u ∈ [Value.string x], u.oneCell' = true := by
  intro u hu; simp at hu; subst hu; rfl

/-- What an append of one text has done: below B all is as it was. -/
theorem below_append {B : Nat} {w wr w' : World} {v : Value} {n : Nat} {xs : List Value} {o : Obj} {e : TypeId} {size : Nat} (hB : B ≤ wr.heap.size) (h : Below B w wr) (hown : wr.ownsRow B e size v n xs) (hg : (wr.alloc o).grownBy w' v.ownBlock) : Below B w w' :=
  (h.alloc hB o).grown hg (by simp; omega) (fun k hk => (hown.lt k hk).1)

set_option maxRecDepth 100000 in
set_option maxHeartbeats 800000 in
theorem specSplit_any (s : ByteArray) (c : UInt8) (w : World) (hs : s.size ≤ 1048576) :
    Calls Tryd.prog 56 #[.string s, .int .u8 (c.toNat : Int)] w fun e w' =>
      ∃ v, e = .returned v ∧ w'.ownsRow w.heap.size 9 1 v (parts s c).length (texts (parts s c)) ∧ Below w.heap.size w w' := by
  obtain ⟨i0, hi, hz0, hz1, hz2⟩ := info_parts Tryd.infoString
  go_enter Tryd.func56, Tryd.ntmps56
  go_wp2
  go_loopw [5, 6, 7] (fun v f i wr => ∃ (k fr : Nat) (l : List ByteArray), Hid (cutTo s c k = (l, fr)) ∧ k ≤ s.size + 1 ∧ fr ≤ k ∧ l.length ≤ k ∧ i = .int .i64 k ∧ f = .int .i64 fr ∧
      Hid (wr.ownsRow w.heap.size 9 1 v l.length (texts l)) ∧ Hid (Below w.heap.size w wr)) (fun _ _ i _ => s.size + 1 - (intOf i).toNat)
  case atStart => exact ⟨0, 0, [], rfl, Nat.zero_le _, Nat.zero_le _, Nat.zero_le _, rfl, rfl, World.ownsRow_made _ _ _ (Nat.le_refl _) (Nat.zero_le _) rfl, (Below.refl _ _).alloc (Nat.le_refl _) _⟩
  case round =>
    obtain ⟨k, fr, l, HC, hk, hfr, hl, rfl, rfl, H1, H2⟩ := hrel
    by_cases hd : k ≤ s.size
    · by_cases hhit : s.size ≤ k ∨ s.data.toList[k]? = some c
      · have HH : Hid (cutTo s c (k + 1) = (l ++ [s.extract fr k], k + 1)) := Lib.hid (by rw [cutTo_hit hhit, HC.out])
        have htest : k = s.size ∨ (k < s.size ∧ ∃ h : k < s.size, ((s[k].toNat : Int) == (c.toNat : Int)) = true) := by
          rcases hhit with h | h
          · exact .inl (by omega)
          · by_cases e : k = s.size
            · exact .inl e
            · refine .inr ⟨by omega, by omega, ?_⟩
              have hk2 : k < s.data.toList.length := show k < s.size by omega
              rw [List.getElem?_eq_getElem hk2] at h
              have e3 : s[k] = c := Option.some.inj h
              rw [e3]; simp
        clear hhit
        have htest2 : ((k : Int) == (s.size : Int)) = true ∨ (k < s.size ∧ ∃ h : k < s.size, ((s[k].toNat : Int) == (c.toNat : Int)) = true) := by
          rcases htest with h | h
          · exact .inl (by subst h; simp)
          · exact .inr h
        clear htest
        rcases htest2 with hc | ⟨hlt, hlt2, hc⟩
        all_goals
          go_wp2_with (at_builtin; go_must (refine wpList_append_own _ rfl _ _ 50 rfl w.heap.size 9 i0 (.string ByteArray.empty) 1 16 Tryd.underlying50 hi hz0 hz1 hz2 rfl (by decide) _ _ _ rfl (H1.out.alloc _) ⟨wr.heap.size, 0, none⟩ 1 1 [.string (s.extract fr k)] rfl rfl (cell_one_new _ _ _) (one_string _) (by unfold maxLen; omega) (by omega) (by have := H2.out.size; simp; omega) ?_))
          intro v' w1 hown' hgrow _
          have R1 : Hid (w1.ownsRow w.heap.size 9 1 v' (l ++ [s.extract fr k]).length (texts (l ++ [s.extract fr k]))) := Lib.hid (by rw [← texts_snoc]; simpa using hown')
          have R2 : Hid (Below w.heap.size w w1) := Lib.hid (below_append H2.out.size H2.out H1.out hgrow)
          clear hown' hgrow H1 H2 HC
          go_wp2
          go_roundw
          case rel => exact ⟨k + 1, k + 1, l ++ [s.extract fr k], HH, by omega, Nat.le_refl _, by simp; omega, by go_num, by go_num, R1, R2⟩
          case measure => simp [intOf]; omega
      · have HH : Hid (cutTo s c (k + 1) = (l, fr)) := Lib.hid (by rw [cutTo_miss (by omega) (fun e => hhit (.inr e)), HC.out])
        have hlt : k < s.size := by omega
        have hc : ((s[k].toNat : Int) == (c.toNat : Int)) = false := by
          have hk2 : k < s.data.toList.length := hlt
          have h3 : s[k] ≠ c := fun e => hhit (.inr (by rw [List.getElem?_eq_getElem hk2]; exact congrArg some e))
          rw [beq_eq_false_iff_ne]
          intro e
          exact h3 (UInt8.toNat_inj.1 (by omega))
        have hc0 : ((k : Int) == (s.size : Int)) = false := by rw [beq_eq_false_iff_ne]; omega
        clear hhit HC
        go_wp2
        go_roundw
        case rel => exact ⟨k + 1, fr, l, HH, by omega, by omega, by omega, by go_num, rfl, H1, H2⟩
        case measure => simp [intOf]; omega
    · obtain rfl : k = s.size + 1 := by omega
      have HP : Hid (parts s c = l) := Lib.hid (by unfold parts; rw [HC.out])
      clear HC
      go_wp2
      go_ret
      exact ⟨_, rfl, by rw [HP.out]; exact H1.out, H2.out⟩

theorem specParts_any (s : ByteArray) (w : World) (hs : s.size ≤ 1048576) :
    Calls Tryd.prog 36 #[.string s] w fun e w' =>
      ∃ v, e = .returned v ∧ w'.ownsRow w.heap.size 9 1 v (parts s 47).length (texts (parts s 47)) ∧ Below w.heap.size w w' := by
  go_enter Tryd.func36, Tryd.ntmps36
  go_wp2_with (go_at_call 56; refine (specSplit_any s 47 w hs).mono ?_; rintro e w' ⟨v, rfl, h1, h2⟩)
  go_ret
  exact ⟨_, rfl, h1, h2⟩

end Go.Proofs.YtekcfjmnaenghaaDoor

/- A row of texts, opened. -/
namespace Go.Proofs.YtekcfjmnaenghaaDoor
open Go.RowKit

/-- A row of texts that the call owns, opened: where it lies, and each cell. -/
theorem row_open {w : World} {B : Nat} {v : Value} {l : List ByteArray} {E : TypeId} (h : w.ownsRow B E 1 v l.length (texts l)) (hl : 0 < l.length) :
    ∃ g cap, v = .slice (some ⟨g, 0, none⟩) l.length cap ∧ B ≤ g ∧ g < w.heap.size ∧ (∀ j (hj : j < l.length), w.cell? ⟨g, j, none⟩ = some (.string l[j])) ∧ (∀ j, w.frozen? ⟨g, j, none⟩ = false) := by
  obtain ⟨g, cap, rfl⟩ := Joins.ownsRow_form h hl
  have hlt := h.lt g rfl
  refine ⟨g, cap, rfl, hlt.1, hlt.2, fun j hj => ?_, fun j => h.frozenAt j⟩
  rw [h.cellAt j (by omega)]
  simp [texts, hj]

end Go.Proofs.YtekcfjmnaenghaaDoor

/- (Dice, what names no function of the laws.) -/
namespace Go.Proofs.YtekcfjmnaenghaaDoor
open Go.RowKit

theorem and_u64 (x : Int) (M : Nat) (hM : M < 2147483648) : 0 ≤ bits .and .u64 x (M : Int) ∧ bits .and .u64 x (M : Int) ≤ M := by
  have e : bits .and .u64 x (M : Int) = IntKind.u64.wrap ((BitVec.ofInt 64 x &&& BitVec.ofInt 64 (M : Int)).toNat : Int) := rfl
  have h2 : (BitVec.ofInt 64 (M : Int)).toNat = M := by
    rw [BitVec.ofInt_natCast, BitVec.toNat_ofNat]; exact Nat.mod_eq_of_lt (by omega)
  have h3 : (BitVec.ofInt 64 x).toNat &&& M ≤ M := Nat.and_le_right
  rw [e, BitVec.toNat_and, h2, IntKind.wrap_u64]
  omega

theorem and_i64 (x : Int) (M : Nat) (hM : M < 2147483648) : 0 ≤ bits .and .i64 x (M : Int) ∧ bits .and .i64 x (M : Int) ≤ M := by
  have e : bits .and .i64 x (M : Int) = IntKind.i64.wrap ((BitVec.ofInt 64 x &&& BitVec.ofInt 64 (M : Int)).toNat : Int) := rfl
  have h2 : (BitVec.ofInt 64 (M : Int)).toNat = M := by
    rw [BitVec.ofInt_natCast, BitVec.toNat_ofNat]; exact Nat.mod_eq_of_lt (by omega)
  have h3 : (BitVec.ofInt 64 x).toNat &&& M ≤ M := Nat.and_le_right
  rw [e, BitVec.toNat_and, h2, IntKind.wrap_i64]
  omega

theorem mask_u64 (x : Int) : ∃ r : Nat, r ≤ 16777215 ∧ wrap64 (bits .and .u64 x 16777215) = r := by
  have h : 0 ≤ bits .and .u64 x 16777215 ∧ bits .and .u64 x 16777215 ≤ 16777215 := and_u64 x 16777215 (by decide)
  refine ⟨(bits .and .u64 x 16777215).toNat, by omega, ?_⟩
  unfold wrap64
  omega

theorem u64_nonneg (x : Int) : 0 ≤ IntKind.u64.wrap x := by rw [IntKind.wrap_u64]; omega

/-- The bytes of the code can be read; they lie below block g. -/
def CodeAt (g : Nat) (a : Option Addr) (len : Nat) (w : World) : Prop :=
  len = 0 ∨ ∃ b o, a = some ⟨b, o, none⟩ ∧ b < g ∧ ∀ j, j < len → ∃ z : Nat, z < 256 ∧ w.cell? ⟨b, o + j, none⟩ = some (.int .u8 z)

theorem CodeAt.below {g : Nat} {a : Option Addr} {len : Nat} {w w' : World} (h : CodeAt g a len w) (hb : ∀ k, k < g → w'.heap[k]? = w.heap[k]?) : CodeAt g a len w' := by
  rcases h with h | ⟨b, o, ha, hbg, hc⟩
  · exact .inl h
  · refine .inr ⟨b, o, ha, hbg, fun j hj => ?_⟩
    obtain ⟨z, hz, e⟩ := hc j hj
    exact ⟨z, hz, (World.cell?_of_block (hb b hbg)).trans e⟩

theorem CodeAt.mono {g g' : Nat} {a : Option Addr} {len : Nat} {w : World} (h : CodeAt g a len w) (hg : g ≤ g') : CodeAt g' a len w := by
  rcases h with h | ⟨b, o, ha, hb, hc⟩
  · exact .inl h
  · exact .inr ⟨b, o, ha, Nat.lt_of_lt_of_le hb hg, hc⟩

theorem big_any (a : Option Addr) (len cap : Nat) (w : World) :
    Calls Tryd.prog 7 #[.slice a len cap] w fun e w' => e = .returned (.bool (decide (4096 < len))) ∧ w = w' := by
  go_enter Tryd.func7, Tryd.ntmps7
  go_wp2
  go_ret
  exact ⟨ret_bool (by grind), rfl⟩

theorem CodeAt.grown {g : Nat} {a : Option Addr} {len : Nat} {w w' : World} (h : CodeAt g a len w) (hg : g ≤ w.heap.size) (hb : w.grownBy w' (some g)) : CodeAt g a len w' :=
  h.below fun k hk => hb.block k (by omega) (by simp; omega)

/-- A cell of a literal, laid ahead of a throw. -/
theorem pick_lit {w w1 : World} {E : TypeId} {cs : Array Value} {g r : Nat} (h : (w.alloc (.cells cs E)).grownBy w1 (some g)) (hg : g < w.heap.size) : w1.cell? ⟨w.heap.size, r, none⟩ = cs[r]? := by
  rw [World.cell?_of_block (a := ⟨w.heap.size, r, none⟩) (h.block w.heap.size (by simp) (by simp; omega)), World.cell?_alloc_at _ _ _ _ rfl]

/-! ### Texts with slashes between -/

theorem cut_eq (c : UInt8) (l : List UInt8) : cut c (c :: l) = [] :: cut c l := by rw [cut, if_pos rfl]
theorem cut_ne {c x : UInt8} {l p : List UInt8} {ps : List (List UInt8)} (h : ¬ x = c) (hl : cut c l = p :: ps) : cut c (x :: l) = (x :: p) :: ps := by rw [cut, if_neg h, hl]

theorem cut_app (c : UInt8) (a b : List UInt8) : cut c (a ++ c :: b) = cut c a ++ cut c b := by
  induction a with
  | nil => rw [List.nil_append, cut_eq]; rfl
  | cons x a ih =>
    obtain ⟨p, ps, h⟩ := cut_cons c a
    rw [List.cons_append]
    by_cases e : x = c
    · subst e; rw [cut_eq, cut_eq, ih]; rfl
    · rw [h] at ih
      rw [cut_ne e (ih.trans (List.cons_append ..)), cut_ne e h]; rfl

theorem cut_none (c : UInt8) (b : List UInt8) (h : c ∉ b) : cut c b = [b] := by
  induction b with
  | nil => rfl
  | cons x b ih =>
    simp only [List.mem_cons, not_or] at h
    rw [cut, if_neg (fun e => h.1 e.symm), ih h.2]

theorem parts_of_cut {s : ByteArray} {c : UInt8} {L : List ByteArray} (h : cut c s.data.toList = L.map (·.data.toList)) : parts s c = L :=
  lists_ext (by rw [parts_data, h])

theorem parts_one {s : ByteArray} {c : UInt8} (h : c ∉ s.data.toList) : parts s c = [s] := parts_of_cut (by rw [cut_none c _ h]; rfl)

theorem parts_app {s x : ByteArray} (h : (47 : UInt8) ∉ x.data.toList) : parts (s ++ ⟨#[47]⟩ ++ x) 47 = parts s 47 ++ [x] := by
  refine parts_of_cut ?_
  have e : (s ++ ⟨#[47]⟩ ++ x).data.toList = s.data.toList ++ 47 :: x.data.toList := by simp [ByteArray.data_append]
  rw [e, cut_app, cut_none _ _ h, ← parts_data]
  simp

/-- A part of a name as the dice draw it: a word or a plus, without a slash. -/
def goodPart (f : Bool) (p : ByteArray) : Prop := (isWord p = true ∨ (f = true ∧ p.toList = [43])) ∧ (47 : UInt8) ∉ p.data.toList

/-- A text of n parts, all of them good. -/
def NameN (f : Bool) (s : ByteArray) (n : Nat) : Prop := (parts s 47).length = n ∧ ∀ p ∈ parts s 47, goodPart f p

theorem NameN.one {f : Bool} {s : ByteArray} (h : goodPart f s) : NameN f s 1 := by
  rw [NameN, parts_one h.2]; exact ⟨rfl, fun p hp => by simp at hp; rw [hp]; exact h⟩

theorem NameN.next {f : Bool} {s x : ByteArray} {n : Nat} (h : NameN f s n) (hx : goodPart f x) : NameN f (s ++ ⟨#[47]⟩ ++ x) (n + 1) := by
  rw [NameN, parts_app hx.2]
  refine ⟨by simp [h.1], fun p hp => ?_⟩
  simp at hp
  rcases hp with hp | rfl
  · exact h.2 p hp
  · exact hx

theorem NameN.topic {s : ByteArray} {n : Nat} (h : NameN false s n) (hn : n ≤ 6) : topicP (parts s 47) = true := by
  rw [topicP, Bool.and_eq_true, decide_eq_true_iff, List.all_eq_true]
  refine ⟨by rw [h.1]; exact hn, fun p hp => ?_⟩
  rcases (h.2 p hp).1 with h | ⟨h, _⟩
  · exact h
  · cases h

theorem partF_good {f b : Bool} {p : ByteArray} (h : goodPart f p) : partF p b = true := by
  unfold partF
  rcases h.1 with h | ⟨_, h⟩ <;> simp [h]

theorem filterTo_all {l : List ByteArray} (h : ∀ j (hj : j < l.length), partF l[j] (decide (j + 1 = l.length)) = true) : filterTo l l.length = true := by
  rw [filterTo, List.all_eq_true]
  intro j hj
  have hj2 := List.mem_range.1 hj
  rw [List.getD_eq_getElem?_getD, List.getElem?_eq_getElem hj2]
  exact h j hj2

theorem NameN.filter {f : Bool} {s : ByteArray} {n : Nat} (h : NameN f s n) (hn : n ≤ 6) : filterP (parts s 47) = true := by
  rw [filterP, Bool.and_eq_true, decide_eq_true_iff]
  exact ⟨by rw [h.1]; exact hn, filterTo_all fun j hj => partF_good (h.2 _ (List.getElem_mem hj))⟩

theorem NameN.filterAll {f : Bool} {s : ByteArray} {n : Nat} (h : NameN f s n) (hn : n ≤ 5) : filterP (parts (s ++ ⟨#[47]⟩ ++ ⟨#[35]⟩) 47) = true := by
  rw [parts_app (x := ⟨#[35]⟩) (by decide), filterP, Bool.and_eq_true, decide_eq_true_iff]
  refine ⟨by simp [h.1]; omega, filterTo_all fun j hj => ?_⟩
  by_cases e : j < (parts s 47).length
  · rw [List.getElem_append_left e]; exact partF_good (h.2 _ (List.getElem_mem e))
  · have e2 : j = (parts s 47).length := by simp at hj; omega
    subst e2
    simp [partF, ByteArray.toList_eq]

theorem size_app1 (s y : ByteArray) : (s ++ ⟨#[47]⟩ ++ y).size = s.size + 1 + y.size := by rw [ByteArray.size_append, ByteArray.size_append]; rfl
theorem size_app2 (s : ByteArray) : (s ++ ⟨#[47, 35]⟩).size = s.size + 2 := by rw [ByteArray.size_append]; rfl
theorem app_hash (s : ByteArray) : s ++ ⟨#[47, 35]⟩ = s ++ ⟨#[47]⟩ ++ ⟨#[35]⟩ := by rw [ByteArray.append_assoc]; rfl

theorem hash_filter : filterP (parts ⟨#[35]⟩ 47) = true := by
  rw [parts_one (by decide)]
  simp [filterP, filterTo, partF, ByteArray.toList_eq]


end Go.Proofs.YtekcfjmnaenghaaDoor

/- The walks of the laws' dice: a number from 0 to n - 1, whatever it be; of what was there nothing turns but the dice's own block. -/
namespace Go.Proofs.YtekcfjmnaenghaaDoor
open Go.RowKit
/-- Block g holds a dice over the bytes that lie in 'a'. -/
def DiceAt (g : Nat) (a : Option Addr) (len cap : Nat) (w : World) : Prop :=
  ∃ (i : Nat) (h : Int), w.heap[g]? = some (.cells #[.slice a len cap, .int .i64 i, .int .u64 h] 53 (0, 0)) ∧ i ≤ len ∧ 0 ≤ h ∧ len ≤ 4096

set_option maxRecDepth 100000 in
set_option maxHeartbeats 1600000 in
theorem below_any (g : Nat) (a : Option Addr) (len cap : Nat) (n : Nat) (w : World) (hn : 0 < n) (hn2 : n ≤ 100000) (hd : DiceAt g a len cap w) (hc : CodeAt g a len w) :
    Calls Tryd.prog 37 #[.pointer (some ⟨g, 0, none⟩), .int .i64 n] w fun e w' => ∃ r : Nat, r < n ∧ e = .returned (.int .i64 r) ∧ DiceAt g a len cap w' ∧ w.grownBy w' (some g) := by
  obtain ⟨i, h, hh, hi, h0, hlen⟩ := hd
  have c0 : w.cell? ⟨g, 0, none⟩ = some (.slice a len cap) := by simp [World.cell?, hh]
  have c1 : w.cell? ⟨g, 1, none⟩ = some (.int .i64 i) := by simp [World.cell?, hh]
  have c2 : w.cell? ⟨g, 2, none⟩ = some (.int .u64 h) := by simp [World.cell?, hh]
  have f2 : w.frozen? ⟨g, 2, none⟩ = false := by simp [World.frozen?, hh]
  have HH := Lib.hid hh
  clear hh
  go_enter Tryd.func37, Tryd.ntmps37
  go_wp2_with fail
  generalize hh2 : IntKind.u64.wrap (IntKind.u64.wrap (h * 6364136223846793005) + 1442695040888963407) = h2
  have h20 : 0 ≤ h2 := by rw [← hh2]; exact u64_nonneg _
  clear hh2
  obtain ⟨r, hr1, hr2⟩ := mask_u64 (h2 / 8589934592)
  rw [hr2]
  clear hr2
  generalize IntKind.u64.wrap (h * 6364136223846793005) = y1
  generalize bits BinOp.and IntKind.u64 (h2 / 8589934592) 16777215 = y2
  generalize h2 / 8589934592 = y3
  have hh3 : (w.setCell ⟨g, 2, none⟩ (.int .u64 h2)).heap[g]? = some (.cells #[.slice a len cap, .int .i64 i, .int .u64 h2] 53 (0, 0)) := heap_setCell_same w g 2 _ _ (.int .u64 h2) HH.out
  have hg3 := grown_setCell w g 2 (.int .u64 h2)
  have hcd := CodeAt.below hc (w' := w.setCell ⟨g, 2, none⟩ (.int .u64 h2)) (fun k hk => Below.heap_setCell _ _ _ _ (by simp; omega))
  generalize w.setCell ⟨g, 2, none⟩ (.int .u64 h2) = w2 at hh3 hg3 hcd ⊢
  clear HH c0 c1 c2 f2 hc h0
  have c0 : w2.cell? ⟨g, 0, none⟩ = some (.slice a len cap) := by simp [World.cell?, hh3]
  have c1 : w2.cell? ⟨g, 1, none⟩ = some (.int .i64 i) := by simp [World.cell?, hh3]
  have f1 : w2.frozen? ⟨g, 1, none⟩ = false := by simp [World.frozen?, hh3]
  have HH := Lib.hid hh3
  have HG := Lib.hid hg3
  clear hh3 hg3
  by_cases hil : i < len
  · obtain ⟨b, o, rfl, hcc⟩ : ∃ b o, a = some ⟨b, o, none⟩ ∧ ∀ j, j < len → ∃ z : Nat, z < 256 ∧ w2.cell? ⟨b, o + j, none⟩ = some (.int .u8 z) := by
      rcases hcd with h | ⟨b, o, h1, _, h2⟩
      · omega
      · exact ⟨b, o, h1, h2⟩
    obtain ⟨z, hz, hcell⟩ := hcc i hil
    clear hcc hcd
    go_quiet (fail)
    go_wp2_with fail
    go_quiet (fail)
    go_wp2_with fail
    go_ret
    refine ⟨(r + z) % n, Nat.mod_lt _ hn, congrArg (fun x => Ending.returned (Value.int .i64 x)) (by simp), ⟨i + 1, h2, ?_, hil, h20, hlen⟩, grown_trans (grown_trans HG.out (grown_drewN _ _ _)) (grown_setCell (w2.drewN _) g 1 _)⟩
    exact heap_setCell_same (w2.drewN _) g 1 _ _ _ HH.out
  · clear hcd
    go_quiet (fail)
    go_wp2_with fail
    go_ret
    exact ⟨r % n, Nat.mod_lt _ hn, congrArg (fun x => Ending.returned (Value.int .i64 x)) (by omega), ⟨i, h2, HH.out, hi, h20, hlen⟩, grown_trans HG.out (grown_drewN _ _ _)⟩

set_option maxRecDepth 100000 in
set_option maxHeartbeats 1600000 in
theorem roll_any (a : Option Addr) (len cap : Nat) (seed : Nat) (w : World) (hlen : len ≤ 4096) (hseed : seed ≤ 1000000) (hc : CodeAt w.heap.size a len w) :
    Calls Tryd.prog 14 #[.slice a len cap, .int .u64 seed] w fun e w' => e = .returned (.pointer (some ⟨w.heap.size, 0, none⟩)) ∧ DiceAt w.heap.size a len cap w' ∧ Below w.heap.size w w' ∧ w.heap.size < w'.heap.size := by
  go_enter Tryd.func14, Tryd.ntmps14
  go_wp2
  go_loopw [6] (fun i wr => ∃ (k : Nat) (h : Int), k ≤ len ∧ i = .int .i64 k ∧ 0 ≤ h ∧ Hid (wr.heap[w.heap.size]? = some (.cells #[.slice a len cap, .int .i64 0, .int .u64 h] 53 (0, 0))) ∧ Hid (Below w.heap.size w wr)) (fun i _ => len - (intOf i).toNat)
  case atStart => exact ⟨0, _, Nat.zero_le _, rfl, by omega, heap_alloc_new w _, (Below.refl _ _).alloc (Nat.le_refl _) _⟩
  case round =>
    obtain ⟨k, h, hk, rfl, h0, HH, HB⟩ := hrel
    by_cases hlt : k < len
    · obtain ⟨b, o, rfl, hcc⟩ : ∃ b o, a = some ⟨b, o, none⟩ ∧ ∀ j, j < len → ∃ z : Nat, z < 256 ∧ wr.cell? ⟨b, o + j, none⟩ = some (.int .u8 z) := by
        rcases CodeAt.below hc HB.out.block with h | ⟨b, o, h1, _, h2⟩
        · omega
        · exact ⟨b, o, h1, h2⟩
      obtain ⟨z, hz, hcell⟩ := hcc k hlt
      have hne : b ≠ w.heap.size := by
        rcases hc with h | ⟨b', o', h1, h2, _⟩
        · omega
        · cases h1; omega
      have c2 : wr.cell? ⟨w.heap.size, 2, none⟩ = some (.int .u64 h) := by simp [World.cell?, HH.out]
      have f2 : wr.frozen? ⟨w.heap.size, 2, none⟩ = false := by simp [World.frozen?, HH.out]
      clear hcc
      go_wp2
      go_region
      go_wp2
      go_roundw
      case rel => exact ⟨k + 1, _, by omega, by go_num, u64_nonneg _, heap_setCell_same wr w.heap.size 2 _ _ _ HH.out, (HB.out.setCell (p := ⟨w.heap.size, 2, none⟩) (Nat.le_refl _) _).drew⟩
      case measure => simp [intOf]; omega
    · obtain rfl : k = len := by omega
      go_wp2
      go_ret
      exact ⟨rfl, ⟨0, h, HH.out, Nat.zero_le _, h0, hlen⟩, HB.out, (Array.getElem?_eq_some_iff.1 HH.out).1⟩

/-- The whole of what a walk over dice carries on. -/
structure Rolls (g : Nat) (a : Option Addr) (len cap : Nat) (w : World) : Prop where
  dice : DiceAt g a len cap w
  code : CodeAt g a len w

theorem Rolls.lt {g : Nat} {a : Option Addr} {len cap : Nat} {w : World} (h : Rolls g a len cap w) : g < w.heap.size := by
  obtain ⟨_, _, hh, _⟩ := h.dice
  exact (Array.getElem?_eq_some_iff.1 hh).1

theorem Rolls.after {g : Nat} {a : Option Addr} {len cap : Nat} {w w' : World} (h : Rolls g a len cap w) (hb : Below w.heap.size w w') : Rolls g a len cap w' := by
  have hlt := h.lt
  obtain ⟨i, x, hh, r⟩ := h.dice
  exact ⟨⟨i, x, (hb.block g hlt).trans hh, r⟩, h.code.below fun k hk => hb.block k (by omega)⟩

theorem Rolls.alloc {g : Nat} {a : Option Addr} {len cap : Nat} {w : World} (h : Rolls g a len cap w) (o : Obj) : Rolls g a len cap (w.alloc o) :=
  h.after ((Below.refl _ _).alloc (Nat.le_refl _) o)

theorem roll_below {g : Nat} {a : Option Addr} {len cap : Nat} (n : Nat) {w : World} (hn : 0 < n) (hn2 : n ≤ 100000) (h : Rolls g a len cap w) :
    Calls Tryd.prog 37 #[.pointer (some ⟨g, 0, none⟩), .int .i64 n] w fun e w' => ∃ r : Nat, r < n ∧ e = .returned (.int .i64 r) ∧ Rolls g a len cap w' ∧ w.grownBy w' (some g) := by
  refine (below_any g a len cap n w hn hn2 h.dice h.code).mono ?_
  rintro e w' ⟨r, hr, he, hd, hg⟩
  exact ⟨r, hr, he, ⟨hd, h.code.grown (Nat.le_of_lt h.lt) hg⟩, hg⟩

end Go.Proofs.YtekcfjmnaenghaaDoor

/- The walk of impl.PartsOf. -/
namespace Go.Proofs.YtekcfjmnaenghaaDoor
open Go.RowKit

theorem implParts_any (s : ByteArray) (m : Int) (w : World) (hs : s.size ≤ 1048576) (hm : w.cell? ⟨0, 0, none⟩ = some (.int .i64 m)) :
    Calls Tryd.prog 51 #[.string s] w fun e w' =>
      ∃ v, e = .returned v ∧ w'.ownsRow w.heap.size 9 1 v (parts s 47).length (texts (parts s 47)) ∧ Below w.heap.size w w' := by
  have c := Tryd.strings_Split s ⟨#[47]⟩ m w (by omega) hm (Nat.le_refl 1)
  rw [splitB_parts, countB_parts] at c
  have hp := parts_le s 47
  go_enter Tryd.func51, Tryd.ntmps51
  go_wp2_with (go_at_call 64; refine c.mono ?_; rintro e w' ⟨rfl, rfl⟩)
  go_ret
  refine ⟨_, rfl, ?_, (Below.refl _ _).alloc (Nat.le_refl _) _⟩
  have := World.ownsRow_lit (base := w.heap.size) (e := 9) (size := 1) w (texts (parts s 47)).toArray (parts s 47).length (Nat.le_refl _) (by unfold maxLen; omega) (by simp)
  simpa using this

end Go.Proofs.YtekcfjmnaenghaaDoor

/- The walk of impl.partCovers: does a part cover another? -/
namespace Go.Proofs.YtekcfjmnaenghaaDoor
open Go.RowKit

theorem wordOk_all (s : ByteArray) (w : World) : Calls Tryd.prog 52 #[.string s] w fun e w' => e = .returned (.bool (isWord s)) ∧ Below w.heap.size w w' := by
  by_cases h : s.size ≤ maxLen
  · exact wordOk_any s w h
  · unfold maxLen at h
    go_enter Tryd.func52, Tryd.ntmps52
    go_wp2
    go_ret
    exact ⟨ret_bool (by unfold isWord; grind), Below.refl _ _⟩

set_option maxRecDepth 100000 in
set_option maxHeartbeats 800000 in
theorem partCovers_any (p q : ByteArray) (w : World) :
    Calls Tryd.prog 54 #[.string p, .string q] w fun e w' => e = .returned (.bool (partC p q)) ∧ Below w.heap.size w w' := by
  have cw := wordOk_all q w
  cases hP : isPlus p
  · have hP2 : (p.toList == [43]) = false := hP
    have hE : partC p q = (p.toList == q.toList) := by unfold partC; rw [hP]; rfl
    rw [hE]
    clear cw hP hE
    go_enter Tryd.func54, Tryd.ntmps54
    go_wp2
    go_ret
    exact ⟨rfl, Below.refl _ _⟩
  · have hP2 : (p.toList == [43]) = true := hP
    cases hQ : isPlus q
    · have hQ2 : (q.toList == [43]) = false := hQ
      have hE : partC p q = isWord q := by unfold partC; rw [hP, hQ]; rfl
      rw [hE]
      clear hP hQ hE
      go_enter Tryd.func54, Tryd.ntmps54
      go_wp2_with (go_at_call 52; refine cw.mono ?_; rintro e w' ⟨rfl, hb⟩)
      go_ret
      exact ⟨rfl, hb⟩
    · have hQ2 : (q.toList == [43]) = true := hQ
      have hE : partC p q = true := by unfold partC; rw [hP, hQ]; rfl
      rw [hE]
      clear cw hP hQ hE
      go_enter Tryd.func54, Tryd.ntmps54
      go_wp2
      go_ret
      exact ⟨rfl, Below.refl _ _⟩

end Go.Proofs.YtekcfjmnaenghaaDoor

/- The walk of the reference's FilterOk: is a text a filter? -/
namespace Go.Proofs.YtekcfjmnaenghaaDoor
open Go.RowKit

set_option maxRecDepth 100000 in
set_option maxHeartbeats 1600000 in
theorem specFilter_any (s : ByteArray) (w : World) (hs : s.size ≤ 1048576) :
    Calls Tryd.prog 34 #[.string s] w fun e w' => e = .returned (.bool (filterP (parts s 47))) ∧ Below w.heap.size w w' := by
  have hpos := parts_pos s 47
  have hple := parts_le s 47
  have hps : Hid (∀ p ∈ parts s 47, p.size ≤ s.size) := Lib.hid (fun p h => parts_size h)
  obtain ⟨l, hl⟩ : ∃ l, parts s 47 = l := ⟨_, rfl⟩
  have hc := fun w => specParts_any s w hs
  rw [hl] at hpos hple hps ⊢
  simp only [hl] at hc
  clear hl
  go_enter Tryd.func34, Tryd.ntmps34
  go_wp2_with (go_at_call 36; refine (hc w).mono ?_; clear hc; rintro e w1 ⟨v, rfl, h1, h2⟩; obtain ⟨g, cap, rfl, hg1, hg2, hcell, _⟩ := row_open h1 hpos; have HC := Lib.hid hcell; have H2 := Lib.hid h2; clear h1 h2 hcell)
  go_loop [4] (fun i => ∃ k : Nat, k ≤ l.length ∧ i = .int .i64 k ∧ Hid (filterTo l k = true)) (fun i => l.length - (intOf i).toNat)
  case atStart => exact ⟨0, Nat.zero_le _, rfl, rfl⟩
  case round =>
    obtain ⟨k, hk, rfl, HL⟩ := hrel
    by_cases hlt : k < l.length
    · have hcx := HC.out k hlt
      have hsz : Hid (l[k].size ≤ maxLen) := Lib.hid (by have := hps.out _ (List.getElem_mem hlt); unfold maxLen; omega)
      obtain ⟨p, hp⟩ : ∃ p, l[k] = p := ⟨_, rfl⟩
      have HP : Hid (l[k] = p) := hp
      rw [hp] at hcx hsz
      clear hp
      have cw := specWord_any p w1 hsz.out
      obtain ⟨b, hb⟩ : ∃ b, isWord p = b := ⟨_, rfl⟩
      rw [hb] at cw
      have HB := Lib.hid hb
      clear hb
      cases b
      · go_wp2_with (go_at_call 55; refine cw.mono ?_; rintro e w' ⟨rfl, rfl⟩)
        all_goals first
          | (go_round
             case rel => exact ⟨k + 1, by omega, by go_num, Lib.hid (filterTo_next hlt HP.out HL.out (by have := HB.out; unfold partF; grind))⟩
             case measure => simp [intOf]; omega)
          | (go_ret; exact ⟨ret_bool (filterP_no hlt HP.out (by have := HB.out; unfold partF; grind)).symm, H2.out⟩)
      · go_wp2_with (go_at_call 55; refine cw.mono ?_; rintro e w' ⟨rfl, rfl⟩)
        go_round
        case rel => exact ⟨k + 1, by omega, by go_num, Lib.hid (filterTo_next hlt HP.out HL.out (by have := HB.out; unfold partF; grind))⟩
        case measure => simp [intOf]; omega
    · obtain rfl : k = l.length := by omega
      have HE := Lib.hid (filterP_end HL.out)
      clear HL
      go_wp2
      go_ret
      exact ⟨ret_bool (by rw [HE.out]; grind), H2.out⟩

end Go.Proofs.YtekcfjmnaenghaaDoor

/- The walk of impl.FilterOk: is a text a filter? -/
namespace Go.Proofs.YtekcfjmnaenghaaDoor
open Go.RowKit

set_option maxRecDepth 100000 in
set_option maxHeartbeats 1600000 in
theorem implFilter_any (s : ByteArray) (m : Int) (w : World) (hs : s.size ≤ 1048576) (hm : w.cell? ⟨0, 0, none⟩ = some (.int .i64 m)) :
    Calls Tryd.prog 31 #[.string s] w fun e w' => e = .returned (.bool (filterP (parts s 47))) ∧ Below w.heap.size w w' := by
  have hpos := parts_pos s 47
  have hple := parts_le s 47
  have hps : Hid (∀ p ∈ parts s 47, p.size ≤ s.size) := Lib.hid (fun p h => parts_size h)
  obtain ⟨l, hl⟩ : ∃ l, parts s 47 = l := ⟨_, rfl⟩
  have hc := implParts_any s m w hs hm
  rw [hl] at hpos hple hps hc ⊢
  clear hl hm
  by_cases h6 : l.length ≤ 6
  · go_enter Tryd.func31, Tryd.ntmps31
    go_wp2_with (go_at_call 51; refine hc.mono ?_; clear hc; rintro e w1 ⟨v, rfl, h1, h2⟩; obtain ⟨g, cap, rfl, hg1, hg2, hcell, _⟩ := row_open h1 hpos; have HC := Lib.hid hcell; have H2 := Lib.hid h2; clear h1 h2 hcell)
    go_loopw [14] (fun i wr => ∃ k : Nat, k ≤ l.length ∧ i = .int .i64 k ∧ Hid (filterTo l k = true) ∧ Hid (Below w1.heap.size w1 wr)) (fun i _ => l.length - (intOf i).toNat)
    case atStart => exact ⟨0, Nat.zero_le _, rfl, rfl, Below.refl _ _⟩
    case round =>
      obtain ⟨k, hk, rfl, HL, HW⟩ := hrel
      by_cases hlt : k < l.length
      · have hcx : wr.cell? ⟨g, k, none⟩ = some (.string l[k]) := (HW.out.cell hg2).trans (HC.out k hlt)
        have hsz : Hid (l[k].size ≤ maxLen) := Lib.hid (by have := hps.out _ (List.getElem_mem hlt); unfold maxLen; omega)
        obtain ⟨p, hp⟩ : ∃ p, l[k] = p := ⟨_, rfl⟩
        have HP : Hid (l[k] = p) := hp
        rw [hp] at hcx hsz
        clear hp
        have cw := wordOk_any p wr hsz.out
        obtain ⟨b, hb⟩ : ∃ b, isWord p = b := ⟨_, rfl⟩
        rw [hb] at cw
        have HB := Lib.hid hb
        clear hb
        cases b
        all_goals
          go_wp2_with (go_at_call 52; refine cw.mono ?_; rintro e w' ⟨rfl, hb⟩)
          all_goals first
            | (go_roundw
               case rel => exact ⟨k + 1, by omega, by go_num, Lib.hid (filterTo_next hlt HP.out HL.out (by have := HB.out; unfold partF; grind)), HW.out.trans (hb.mono HW.out.size)⟩
               case measure => simp [intOf]; omega)
            | (go_ret; exact ⟨ret_bool (filterP_no hlt HP.out (by have := HB.out; unfold partF; grind)).symm, H2.out.trans ((HW.out.trans (hb.mono HW.out.size)).mono H2.out.size)⟩)
      · obtain rfl : k = l.length := by omega
        have HE := Lib.hid (filterP_end HL.out)
        clear HL
        go_wp2
        go_ret
        exact ⟨ret_bool (by rw [HE.out]; grind), H2.out.trans (HW.out.mono H2.out.size)⟩
  · have hf : Hid (filterP l = false) := Lib.hid (by simp [filterP, h6])
    go_enter Tryd.func31, Tryd.ntmps31
    go_wp2_with (go_at_call 51; refine hc.mono ?_; clear hc; rintro e w1 ⟨v, rfl, h1, h2⟩; obtain ⟨g, cap, rfl, hg1, hg2, hcell, _⟩ := row_open h1 hpos; have HC := Lib.hid hcell; have H2 := Lib.hid h2; clear h1 h2 hcell)
    go_ret
    exact ⟨ret_bool hf.out.symm, H2.out⟩

end Go.Proofs.YtekcfjmnaenghaaDoor

/- The walk of the reference's Covers. -/
namespace Go.Proofs.YtekcfjmnaenghaaDoor
open Go.RowKit

set_option maxRecDepth 100000 in
set_option maxHeartbeats 1600000 in
theorem specCovers_any (f t : ByteArray) (w : World) (hf : f.size ≤ 1048576) (ht : t.size ≤ 1048576) :
    Calls Tryd.prog 13 #[.string f, .string t] w fun e w' => e = .returned (.bool (coverB f t)) ∧ Below w.heap.size w w' := by
  have c1 := specFilter_any f w hf
  have C2 := Lib.hid (fun w => specFilter_any t w ht)
  have C3 := Lib.hid (fun w => specParts_any f w hf)
  have C4 := Lib.hid (fun w => specParts_any t w ht)
  have hpf := parts_pos f 47
  have hpt := parts_pos t 47
  have hlf := parts_le f 47
  have hlt := parts_le t 47
  have HB : Hid (coverB f t = (filterP (parts f 47) && filterP (parts t 47) && coverP (parts f 47) (parts t 47))) := rfl
  obtain ⟨F, hF⟩ : ∃ F, parts f 47 = F := ⟨_, rfl⟩
  obtain ⟨T, hT⟩ : ∃ T, parts t 47 = T := ⟨_, rfl⟩
  rw [hF] at c1 C3 hpf hlf HB
  rw [hT] at C2 C4 hpt hlt HB
  clear hF hT
  obtain ⟨bf, hbf⟩ : ∃ b, filterP F = b := ⟨_, rfl⟩
  obtain ⟨bt, hbt⟩ : ∃ b, filterP T = b := ⟨_, rfl⟩
  rw [hbf] at c1 HB
  rw [hbt] at C2 HB
  clear hbf hbt
  cases bf
  · go_enter Tryd.func13, Tryd.ntmps13
    go_wp2_with fail
    refine c1.mono ?_
    rintro e w1 ⟨rfl, b1⟩
    have B1 := Lib.hid b1
    clear b1 c1
    go_wp2
    go_ret
    exact ⟨ret_bool (by rw [HB.out]; rfl), B1.out⟩
  · cases bt
    · go_enter Tryd.func13, Tryd.ntmps13
      go_wp2_with fail
      refine c1.mono ?_
      rintro e w1 ⟨rfl, b1⟩
      have B1 := Lib.hid b1
      clear b1 c1
      go_wp2_with fail
      refine (C2.out w1).mono ?_
      rintro e w2 ⟨rfl, b2⟩
      have B2 := Lib.hid (B1.out.trans (b2.mono B1.out.size))
      clear b2 B1
      go_wp2
      go_ret
      exact ⟨ret_bool (by rw [HB.out]; rfl), B2.out⟩
    · go_enter Tryd.func13, Tryd.ntmps13
      go_wp2_with fail
      refine c1.mono ?_
      rintro e w1 ⟨rfl, b1⟩
      have B1 := Lib.hid b1
      clear b1 c1
      go_wp2_with fail
      refine (C2.out w1).mono ?_
      rintro e w2 ⟨rfl, b2⟩
      have B2 := Lib.hid (B1.out.trans (b2.mono B1.out.size))
      clear b2 B1
      go_wp2_with fail
      refine (C3.out w2).mono ?_
      rintro e w3 ⟨v3, rfl, o3, b3⟩
      obtain ⟨gf, cf, rfl, _, hgf, hcf, _⟩ := row_open o3 hpf
      have HCF := Lib.hid hcf
      have B3 := Lib.hid (B2.out.trans (b3.mono B2.out.size))
      clear b3 B2 o3 hcf
      go_wp2_with fail
      refine (C4.out w3).mono ?_
      rintro e w4 ⟨v4, rfl, o4, b4⟩
      obtain ⟨gt, ct, rfl, _, hgt, hct, _⟩ := row_open o4 hpt
      have HCT := Lib.hid hct
      have HCF2 : Hid (∀ j (hj : j < F.length), w4.cell? ⟨gf, j, none⟩ = some (.string F[j])) := Lib.hid (fun j hj => (below_cell b4 hgf).trans (HCF.out j hj))
      have hgf4 : gf < w4.heap.size := Nat.lt_of_lt_of_le hgf b4.size
      have B4 := Lib.hid (B3.out.trans (b4.mono B3.out.size))
      clear b4 B3 o4 hct HCF C2 C3 C4
      go_wp2_with fail
      go_loopw [7] (fun i wr => ∃ k : Nat, k ≤ F.length ∧ k ≤ T.length ∧ i = .int .i64 k ∧ Hid (coverP F T = coverP (F.drop k) (T.drop k)) ∧ Hid (Below w4.heap.size w4 wr)) (fun i _ => F.length - (intOf i).toNat)
      case atStart => exact ⟨0, Nat.zero_le _, Nat.zero_le _, rfl, rfl, Below.refl _ _⟩
      case round =>
        obtain ⟨k, hkF, hkT, rfl, HM, HW⟩ := hrel
        by_cases hk : k < F.length
        · have hp := (below_cell HW.out hgf4).trans (HCF2.out k hk)
          cases hA : isHash F[k]
          · have hA2 : (F[k].toList == [35]) = false := hA
            by_cases hk2 : k < T.length
            · have hq := (below_cell HW.out hgt).trans (HCT.out k hk2)
              have hi1 : (k : Int) < (T.length : Int) := by omega
              have hi2 : decide (T.length ≤ k) = false := decide_eq_false (by omega)
              have HIN := Lib.hid (coverP_in hk hk2 hA)
              obtain ⟨p, hpp⟩ : ∃ p, F[k] = p := ⟨_, rfl⟩
              obtain ⟨q, hqq⟩ : ∃ q, T[k] = q := ⟨_, rfl⟩
              rw [hpp] at hp hA2 HIN
              rw [hqq] at hq HIN
              clear hpp hqq hA
              cases hG : isHash q
              all_goals have HG := Lib.hid hG
              · have hG2 : (q.toList == [35]) = false := hG
                clear hG
                cases hP : isPlus p
                · have hP2 : (p.toList == [43]) = false := hP
                  have hP3 : (!(p.toList == [43])) = true := by rw [hP2]; rfl
                  cases hQ : alike p q
                  · have hQ2 : (p.toList == q.toList) = false := hQ
                    have hQ3 : (!(p.toList == q.toList)) = true := by rw [hQ2]; rfl
                    have HE : Hid (coverP F T = false) := Lib.hid (by rw [HM.out, HIN.out, HG.out, hP, hQ]; rfl)
                    clear hP hQ HIN HM
                    go_wp2_with fail
                    go_quiet (fail)
                    go_wp2
                    go_ret
                    exact ⟨ret_bool (by rw [HB.out, HE.out]; rfl), below_drewN (below_end B4.out HW.out) _⟩
                  · have hQ2 : (p.toList == q.toList) = true := hQ
                    have hQ3 : (!(p.toList == q.toList)) = false := by rw [hQ2]; rfl
                    have HN : Hid (coverP F T = coverP (F.drop (k + 1)) (T.drop (k + 1))) := Lib.hid (by rw [HM.out, HIN.out, HG.out, hP, hQ]; rfl)
                    clear hP hQ HIN HM
                    go_wp2_with fail
                    go_quiet (fail)
                    go_wp2
                    go_roundw
                    case rel => exact ⟨k + 1, by omega, by omega, by go_num, HN, below_drewN HW.out _⟩
                    case measure => simp [intOf]; omega
                · have hP2 : (p.toList == [43]) = true := hP
                  have hP3 : (!(p.toList == [43])) = false := by rw [hP2]; rfl
                  have HN : Hid (coverP F T = coverP (F.drop (k + 1)) (T.drop (k + 1))) := Lib.hid (by rw [HM.out, HIN.out, HG.out, hP]; rfl)
                  clear hP HIN HM
                  go_wp2_with fail
                  go_quiet (fail)
                  go_wp2
                  go_roundw
                  case rel => exact ⟨k + 1, by omega, by omega, by go_num, HN, below_drewN HW.out _⟩
                  case measure => simp [intOf]; omega
              · have hG2 : (q.toList == [35]) = true := hG
                have HE : Hid (coverP F T = false) := Lib.hid (by rw [HM.out, HIN.out, hG]; rfl)
                clear hG HIN HM
                go_wp2_with fail
                go_quiet (fail)
                go_wp2
                go_ret
                exact ⟨ret_bool (by rw [HB.out, HE.out]; rfl), below_drewN (below_end B4.out HW.out) _⟩
            · have HE : Hid (coverP F T = false) := Lib.hid (by rw [HM.out, coverP_out hk hA (by omega)])
              have hi2 : decide (T.length ≤ k) = true := decide_eq_true (by omega)
              obtain ⟨p, hpp⟩ : ∃ p, F[k] = p := ⟨_, rfl⟩
              rw [hpp] at hp hA2
              clear hpp hA HM
              go_wp2_with fail
              go_quiet (fail)
              go_wp2
              go_ret
              exact ⟨ret_bool (by rw [HB.out, HE.out]; rfl), below_drewN (below_end B4.out HW.out) _⟩
          · have hA2 : (F[k].toList == [35]) = true := hA
            have HE : Hid (coverP F T = true) := Lib.hid (by rw [HM.out, coverP_hash hk hA])
            obtain ⟨p, hpp⟩ : ∃ p, F[k] = p := ⟨_, rfl⟩
            rw [hpp] at hp hA2
            clear hpp hA HM
            go_wp2
            go_ret
            exact ⟨ret_bool (by rw [HB.out, HE.out]; rfl), below_end B4.out HW.out⟩
        · obtain rfl : k = F.length := by omega
          have HE : Hid (coverP F T = decide (F.length = T.length)) := Lib.hid (by rw [HM.out, coverP_end F T _ (Nat.le_refl _) hkT])
          clear HM
          go_wp2
          go_ret
          exact ⟨ret_bool (by rw [HB.out, HE.out]; grind), below_end B4.out HW.out⟩

end Go.Proofs.YtekcfjmnaenghaaDoor

/- The walk of the reference's TopicOk: is a text a topic? -/
namespace Go.Proofs.YtekcfjmnaenghaaDoor
open Go.RowKit

set_option maxRecDepth 100000 in
set_option maxHeartbeats 800000 in
theorem specTopic_any (s : ByteArray) (w : World) (hs : s.size ≤ 1048576) :
    Calls Tryd.prog 35 #[.string s] w fun e w' => e = .returned (.bool (topicP (parts s 47))) ∧ Below w.heap.size w w' := by
  have hpos := parts_pos s 47
  have hple := parts_le s 47
  have hps : Hid (∀ p ∈ parts s 47, p.size ≤ s.size) := Lib.hid (fun p h => parts_size h)
  obtain ⟨l, hl⟩ : ∃ l, parts s 47 = l := ⟨_, rfl⟩
  have hc := fun w => specParts_any s w hs
  rw [hl] at hpos hple hps ⊢
  simp only [hl] at hc
  clear hl
  go_enter Tryd.func35, Tryd.ntmps35
  go_wp2_with (go_at_call 36; refine (hc w).mono ?_; clear hc; rintro e w1 ⟨v, rfl, h1, h2⟩; obtain ⟨g, cap, rfl, hg1, hg2, hcell, _⟩ := row_open h1 hpos; have HC := Lib.hid hcell; have H2 := Lib.hid h2; clear h1 h2 hcell)
  go_loop [4] (fun i => ∃ k : Nat, k ≤ l.length ∧ i = .int .i64 k ∧ Hid ((l.take k).all isWord = true)) (fun i => l.length - (intOf i).toNat)
  case atStart => exact ⟨0, Nat.zero_le _, rfl, rfl⟩
  case round =>
    obtain ⟨k, hk, rfl, HL⟩ := hrel
    by_cases hlt : k < l.length
    · have hcx := HC.out k hlt
      have hsz : Hid (l[k].size ≤ maxLen) := Lib.hid (by have := hps.out _ (List.getElem_mem hlt); unfold maxLen; omega)
      cases hw : isWord l[k]
      · have HB := Lib.hid (topicP_bad hlt hw)
        have cw := specWord_any l[k] w1 hsz.out
        rw [hw] at cw
        clear hw
        go_wp2_with (go_at_call 55; refine cw.mono ?_; rintro e w' ⟨rfl, rfl⟩)
        go_ret
        exact ⟨ret_bool HB.out.symm, H2.out⟩
      · have HN : Hid ((l.take (k + 1)).all isWord = true) := Lib.hid (by rw [all_snoc l k hlt, HL.out, hw]; rfl)
        have cw := specWord_any l[k] w1 hsz.out
        rw [hw] at cw
        clear hw
        go_wp2_with (go_at_call 55; refine cw.mono ?_; rintro e w' ⟨rfl, rfl⟩)
        go_round
        case rel => exact ⟨k + 1, by omega, by go_num, HN⟩
        case measure => simp [intOf]; omega
    · obtain rfl : k = l.length := by omega
      have HE := Lib.hid (topicP_end HL.out)
      clear HL
      go_wp2
      go_ret
      exact ⟨ret_bool (by rw [HE.out]; grind), H2.out⟩

end Go.Proofs.YtekcfjmnaenghaaDoor

/- The walk of the reference's Matches. -/
namespace Go.Proofs.YtekcfjmnaenghaaDoor
open Go.RowKit

set_option maxRecDepth 100000 in
set_option maxHeartbeats 1600000 in
theorem specMatches_any (f t : ByteArray) (w : World) (hf : f.size ≤ 1048576) (ht : t.size ≤ 1048576) :
    Calls Tryd.prog 11 #[.string f, .string t] w fun e w' => e = .returned (.bool (matchB f t)) ∧ Below w.heap.size w w' := by
  have c1 := specFilter_any f w hf
  have C2 := Lib.hid (fun w => specTopic_any t w ht)
  have C3 := Lib.hid (fun w => specParts_any f w hf)
  have C4 := Lib.hid (fun w => specParts_any t w ht)
  have hpf := parts_pos f 47
  have hpt := parts_pos t 47
  have hlf := parts_le f 47
  have hlt := parts_le t 47
  have HB : Hid (matchB f t = (filterP (parts f 47) && topicP (parts t 47) && matchP (parts f 47) (parts t 47))) := rfl
  obtain ⟨F, hF⟩ : ∃ F, parts f 47 = F := ⟨_, rfl⟩
  obtain ⟨T, hT⟩ : ∃ T, parts t 47 = T := ⟨_, rfl⟩
  rw [hF] at c1 C3 hpf hlf HB
  rw [hT] at C2 C4 hpt hlt HB
  clear hF hT
  obtain ⟨bf, hbf⟩ : ∃ b, filterP F = b := ⟨_, rfl⟩
  obtain ⟨bt, hbt⟩ : ∃ b, topicP T = b := ⟨_, rfl⟩
  rw [hbf] at c1 HB
  rw [hbt] at C2 HB
  clear hbf hbt
  cases bf
  · go_enter Tryd.func11, Tryd.ntmps11
    go_wp2_with fail
    refine c1.mono ?_
    rintro e w1 ⟨rfl, b1⟩
    have B1 := Lib.hid b1
    clear b1 c1
    go_wp2
    go_ret
    exact ⟨ret_bool (by rw [HB.out]; rfl), B1.out⟩
  · cases bt
    · go_enter Tryd.func11, Tryd.ntmps11
      go_wp2_with fail
      refine c1.mono ?_
      rintro e w1 ⟨rfl, b1⟩
      have B1 := Lib.hid b1
      clear b1 c1
      go_wp2_with fail
      refine (C2.out w1).mono ?_
      rintro e w2 ⟨rfl, b2⟩
      have B2 := Lib.hid (B1.out.trans (b2.mono B1.out.size))
      clear b2 B1
      go_wp2
      go_ret
      exact ⟨ret_bool (by rw [HB.out]; rfl), B2.out⟩
    · go_enter Tryd.func11, Tryd.ntmps11
      go_wp2_with fail
      refine c1.mono ?_
      rintro e w1 ⟨rfl, b1⟩
      have B1 := Lib.hid b1
      clear b1 c1
      go_wp2_with fail
      refine (C2.out w1).mono ?_
      rintro e w2 ⟨rfl, b2⟩
      have B2 := Lib.hid (B1.out.trans (b2.mono B1.out.size))
      clear b2 B1
      go_wp2_with fail
      refine (C3.out w2).mono ?_
      rintro e w3 ⟨v3, rfl, o3, b3⟩
      obtain ⟨gf, cf, rfl, _, hgf, hcf, _⟩ := row_open o3 hpf
      have HCF := Lib.hid hcf
      have B3 := Lib.hid (B2.out.trans (b3.mono B2.out.size))
      clear b3 B2 o3 hcf
      go_wp2_with fail
      refine (C4.out w3).mono ?_
      rintro e w4 ⟨v4, rfl, o4, b4⟩
      obtain ⟨gt, ct, rfl, _, hgt, hct, _⟩ := row_open o4 hpt
      have HCT := Lib.hid hct
      have HCF2 : Hid (∀ j (hj : j < F.length), w4.cell? ⟨gf, j, none⟩ = some (.string F[j])) := Lib.hid (fun j hj => (below_cell b4 hgf).trans (HCF.out j hj))
      have hgf4 : gf < w4.heap.size := Nat.lt_of_lt_of_le hgf b4.size
      have B4 := Lib.hid (B3.out.trans (b4.mono B3.out.size))
      clear b4 B3 o4 hct HCF C2 C3 C4
      go_wp2_with fail
      go_loopw [7] (fun i wr => ∃ k : Nat, k ≤ F.length ∧ k ≤ T.length ∧ i = .int .i64 k ∧ Hid (matchP F T = matchP (F.drop k) (T.drop k)) ∧ Hid (Below w4.heap.size w4 wr)) (fun i _ => F.length - (intOf i).toNat)
      case atStart => exact ⟨0, Nat.zero_le _, Nat.zero_le _, rfl, rfl, Below.refl _ _⟩
      case round =>
        obtain ⟨k, hkF, hkT, rfl, HM, HW⟩ := hrel
        by_cases hk : k < F.length
        · have hp := (below_cell HW.out hgf4).trans (HCF2.out k hk)
          cases hA : isHash F[k]
          · have hA2 : (F[k].toList == [35]) = false := hA
            by_cases hk2 : k < T.length
            · have hq := (below_cell HW.out hgt).trans (HCT.out k hk2)
              have hi1 : (k : Int) < (T.length : Int) := by omega
              have hi2 : decide (T.length ≤ k) = false := decide_eq_false (by omega)
              have HIN := Lib.hid (matchP_in hk hk2 hA)
              obtain ⟨p, hpp⟩ : ∃ p, F[k] = p := ⟨_, rfl⟩
              obtain ⟨q, hqq⟩ : ∃ q, T[k] = q := ⟨_, rfl⟩
              rw [hpp] at hp hA2 HIN
              rw [hqq] at hq HIN
              clear hpp hqq hA
              cases hP : isPlus p
              · have hP2 : (p.toList == [43]) = false := hP
                have hP3 : (!(p.toList == [43])) = true := by rw [hP2]; rfl
                cases hQ : alike p q
                · have hQ2 : (p.toList == q.toList) = false := hQ
                  have hQ3 : (!(p.toList == q.toList)) = true := by rw [hQ2]; rfl
                  have HE : Hid (matchP F T = false) := Lib.hid (by rw [HM.out, HIN.out, hP, hQ]; rfl)
                  clear hP hQ HIN HM
                  go_wp2_with fail
                  go_quiet (fail)
                  go_wp2
                  go_ret
                  exact ⟨ret_bool (by rw [HB.out, HE.out]; rfl), below_drewN (below_end B4.out HW.out) _⟩
                · have hQ2 : (p.toList == q.toList) = true := hQ
                  have hQ3 : (!(p.toList == q.toList)) = false := by rw [hQ2]; rfl
                  have HN : Hid (matchP F T = matchP (F.drop (k + 1)) (T.drop (k + 1))) := Lib.hid (by rw [HM.out, HIN.out, hP, hQ]; rfl)
                  clear hP hQ HIN HM
                  go_wp2_with fail
                  go_quiet (fail)
                  go_wp2
                  go_roundw
                  case rel => exact ⟨k + 1, by omega, by omega, by go_num, HN, below_drewN HW.out _⟩
                  case measure => simp [intOf]; omega
              · have hP2 : (p.toList == [43]) = true := hP
                have hP3 : (!(p.toList == [43])) = false := by rw [hP2]; rfl
                have HN : Hid (matchP F T = matchP (F.drop (k + 1)) (T.drop (k + 1))) := Lib.hid (by rw [HM.out, HIN.out, hP]; rfl)
                clear hP HIN HM
                go_wp2_with fail
                go_quiet (fail)
                go_wp2
                go_roundw
                case rel => exact ⟨k + 1, by omega, by omega, by go_num, HN, below_drewN HW.out _⟩
                case measure => simp [intOf]; omega
            · have HE : Hid (matchP F T = false) := Lib.hid (by rw [HM.out, matchP_out hk hA (by omega)])
              have hi2 : decide (T.length ≤ k) = true := decide_eq_true (by omega)
              obtain ⟨p, hpp⟩ : ∃ p, F[k] = p := ⟨_, rfl⟩
              rw [hpp] at hp hA2
              clear hpp hA HM
              go_wp2_with fail
              go_quiet (fail)
              go_wp2
              go_ret
              exact ⟨ret_bool (by rw [HB.out, HE.out]; rfl), below_drewN (below_end B4.out HW.out) _⟩
          · have hA2 : (F[k].toList == [35]) = true := hA
            have HE : Hid (matchP F T = true) := Lib.hid (by rw [HM.out, matchP_hash hk hA])
            obtain ⟨p, hpp⟩ : ∃ p, F[k] = p := ⟨_, rfl⟩
            rw [hpp] at hp hA2
            clear hpp hA HM
            go_wp2
            go_ret
            exact ⟨ret_bool (by rw [HB.out, HE.out]; rfl), below_end B4.out HW.out⟩
        · obtain rfl : k = F.length := by omega
          have HE : Hid (matchP F T = decide (F.length = T.length)) := Lib.hid (by rw [HM.out, matchP_end F T _ (Nat.le_refl _) hkT])
          clear HM
          go_wp2
          go_ret
          exact ⟨ret_bool (by rw [HB.out, HE.out]; grind), below_end B4.out HW.out⟩

end Go.Proofs.YtekcfjmnaenghaaDoor

/- (Texts, what names no function of the laws.) -/
namespace Go.Proofs.YtekcfjmnaenghaaDoor
open Go.RowKit

theorem pick_topic1 {r : Nat} (h : r < 4) : ∃ x : ByteArray, (#[Value.string ⟨#[97]⟩, Value.string ⟨#[98]⟩, Value.string ⟨#[99]⟩, Value.string ⟨#[110, 101, 119, 115]⟩] : Array Value)[r]? = some (.string x) ∧ goodPart false x ∧ x.size ≤ 4 := by
  match r, h with
  | 0, _ => exact ⟨_, rfl, ⟨.inl (by decide), by decide⟩, by decide⟩
  | 1, _ => exact ⟨_, rfl, ⟨.inl (by decide), by decide⟩, by decide⟩
  | 2, _ => exact ⟨_, rfl, ⟨.inl (by decide), by decide⟩, by decide⟩
  | 3, _ => exact ⟨_, rfl, ⟨.inl (by decide), by decide⟩, by decide⟩

theorem pick_topic2 {r : Nat} (h : r < 3) : ∃ x : ByteArray, (#[Value.string ⟨#[97]⟩, Value.string ⟨#[98]⟩, Value.string ⟨#[55]⟩] : Array Value)[r]? = some (.string x) ∧ goodPart false x ∧ x.size ≤ 1 := by
  match r, h with
  | 0, _ => exact ⟨_, rfl, ⟨.inl (by decide), by decide⟩, by decide⟩
  | 1, _ => exact ⟨_, rfl, ⟨.inl (by decide), by decide⟩, by decide⟩
  | 2, _ => exact ⟨_, rfl, ⟨.inl (by decide), by decide⟩, by decide⟩

end Go.Proofs.YtekcfjmnaenghaaDoor

/- The walks of the reference's cursor: a byte, a number from 0 to n - 1; of what was there nothing turns but the cursor's own block. -/
namespace Go.Proofs.YtekcfjmnaenghaaDoor
open Go.RowKit

/-- Block g holds a cursor over the bytes that lie in 'a'. -/
def CurAt (g : Nat) (a : Option Addr) (len cap : Nat) (w : World) : Prop :=
  ∃ (i : Nat) (h : Int), w.heap[g]? = some (.cells #[.slice a len cap, .int .i64 i, .int .i64 h] 69 (0, 0)) ∧ i ≤ len ∧ len ≤ 4096

/-- The whole of what a walk over a cursor carries on. -/
structure Curs (g : Nat) (a : Option Addr) (len cap : Nat) (w : World) : Prop where
  cur : CurAt g a len cap w
  code : CodeAt g a len w

theorem Curs.lt {g : Nat} {a : Option Addr} {len cap : Nat} {w : World} (h : Curs g a len cap w) : g < w.heap.size := by
  obtain ⟨_, _, hh, _⟩ := h.cur
  exact (Array.getElem?_eq_some_iff.1 hh).1

theorem Curs.after {g : Nat} {a : Option Addr} {len cap : Nat} {w w' : World} (h : Curs g a len cap w) (hb : Below w.heap.size w w') : Curs g a len cap w' := by
  have hlt := h.lt
  obtain ⟨i, x, hh, r⟩ := h.cur
  exact ⟨⟨i, x, (hb.block g hlt).trans hh, r⟩, h.code.below fun k hk => hb.block k (by omega)⟩

theorem Curs.alloc {g : Nat} {a : Option Addr} {len cap : Nat} {w : World} (h : Curs g a len cap w) (o : Obj) : Curs g a len cap (w.alloc o) :=
  h.after ((Below.refl _ _).alloc (Nat.le_refl _) o)

theorem mask_i64 (x : Int) : ∃ r : Nat, r ≤ 255 ∧ bits .and .i64 x 255 = r := by
  have h : 0 ≤ bits .and .i64 x 255 ∧ bits .and .i64 x 255 ≤ 255 := and_i64 x 255 (by decide)
  exact ⟨(bits .and .i64 x 255).toNat, by omega, by omega⟩

set_option maxRecDepth 100000 in
set_option maxHeartbeats 1600000 in
theorem curByte_any {g : Nat} {a : Option Addr} {len cap : Nat} {w : World} (hd : Curs g a len cap w) :
    Calls Tryd.prog 63 #[.pointer (some ⟨g, 0, none⟩)] w fun e w' => ∃ r : Nat, r < 256 ∧ e = .returned (.int .i64 r) ∧ Curs g a len cap w' ∧ w.grownBy w' (some g) := by
  have hglt := hd.lt
  obtain ⟨⟨i, h, hh, hi, hlen⟩, hc⟩ := hd
  have c2 : w.cell? ⟨g, 2, none⟩ = some (.int .i64 h) := by simp [World.cell?, hh]
  have f2 : w.frozen? ⟨g, 2, none⟩ = false := by simp [World.frozen?, hh]
  have HH := Lib.hid hh
  clear hh
  go_enter Tryd.func63, Tryd.ntmps63
  go_wp2_with fail
  generalize wrap64 (wrap64 (h * 6364136223846793005) + 1442695040888963407) = h2
  generalize wrap64 (h * 6364136223846793005) = y1
  have hh3 : (w.setCell ⟨g, 2, none⟩ (.int .i64 h2)).heap[g]? = some (.cells #[.slice a len cap, .int .i64 i, .int .i64 h2] 69 (0, 0)) := heap_setCell_same w g 2 _ _ (.int .i64 h2) HH.out
  have hg3 := grown_setCell w g 2 (.int .i64 h2)
  have hcd := CodeAt.below hc (w' := w.setCell ⟨g, 2, none⟩ (.int .i64 h2)) (fun k hk => Below.heap_setCell _ _ _ _ (by simp; omega))
  have hlt2 : g < (w.setCell ⟨g, 2, none⟩ (.int .i64 h2)).heap.size := by simp [World.setCell]; exact hglt
  generalize w.setCell ⟨g, 2, none⟩ (.int .i64 h2) = w2 at hh3 hg3 hcd hlt2 ⊢
  clear HH c2 f2 hc
  have c0 : w2.cell? ⟨g, 0, none⟩ = some (.slice a len cap) := by simp [World.cell?, hh3]
  have c1 : w2.cell? ⟨g, 1, none⟩ = some (.int .i64 i) := by simp [World.cell?, hh3]
  have c2 : w2.cell? ⟨g, 2, none⟩ = some (.int .i64 h2) := by simp [World.cell?, hh3]
  have f1 : w2.frozen? ⟨g, 1, none⟩ = false := by simp [World.frozen?, hh3]
  have HH := Lib.hid hh3
  have HG := Lib.hid hg3
  have HC := Lib.hid hcd
  clear hh3 hg3 hcd
  go_quiet (fail)
  go_wp2_with fail
  obtain ⟨r, hr1, hr2⟩ := mask_i64 (bits BinOp.xor IntKind.i64 (h2 / 8589934592) (h2 / 35184372088832))
  rw [hr2]
  clear hr2
  generalize bits BinOp.xor IntKind.i64 (h2 / 8589934592) (h2 / 35184372088832) = y2
  generalize h2 / 8589934592 = y3
  generalize h2 / 35184372088832 = y4
  clear c2
  by_cases hil : i < len
  · obtain ⟨b, o, rfl, hcc⟩ : ∃ b o, a = some ⟨b, o, none⟩ ∧ ∀ j, j < len → ∃ z : Nat, z < 256 ∧ w2.cell? ⟨b, o + j, none⟩ = some (.int .u8 z) := by
      rcases HC.out with h | ⟨b, o, h1, _, h2⟩
      · omega
      · exact ⟨b, o, h1, h2⟩
    obtain ⟨z, hz, hcell⟩ := hcc i hil
    clear hcc
    go_quiet (fail)
    go_wp2_with fail
    go_quiet (fail)
    go_wp2_with fail
    obtain ⟨r2, hr3, hr4⟩ := mask_i64 ((r : Int) + (z : Int))
    rw [hr4]
    go_ret
    refine ⟨r2, by omega, rfl, ⟨⟨i + 1, h2, heap_setCell_same (w2.drewN _) g 1 _ _ _ HH.out, hil, hlen⟩, ?_⟩, grown_trans (grown_trans HG.out (grown_drewN _ _ _)) (grown_setCell (w2.drewN _) g 1 _)⟩
    exact HC.out.below fun k hk => Below.heap_setCell _ _ _ _ (by simp; omega)
  · go_quiet (fail)
    go_wp2_with fail
    go_ret
    exact ⟨r, by omega, rfl, ⟨⟨i, h2, HH.out, hi, hlen⟩, HC.out⟩, grown_trans HG.out ⟨rfl, rfl, rfl, Nat.le_refl _, fun _ _ _ => rfl⟩⟩

/-- r is from 0 to n - 1, or 0 where n is 0. -/
def BelowN (n r : Nat) : Prop := r < n ∨ (n = 0 ∧ r = 0)

set_option maxRecDepth 100000 in
set_option maxHeartbeats 1600000 in
/-- A number from 0 to n - 1; 0 where n is 0. -/
theorem curBelow_any {g : Nat} {a : Option Addr} {len cap : Nat} (n : Nat) {w : World} (hn2 : n ≤ 2147483648) (hd : Curs g a len cap w) :
    Calls Tryd.prog 49 #[.pointer (some ⟨g, 0, none⟩), .int .i64 n] w fun e w' => ∃ r : Nat, BelowN n r ∧ e = .returned (.int .i64 r) ∧ Curs g a len cap w' ∧ w.grownBy w' (some g) := by
  by_cases h0 : n = 0
  · subst h0
    go_enter Tryd.func49, Tryd.ntmps49
    go_wp2
    go_ret
    exact ⟨0, .inr ⟨rfl, rfl⟩, rfl, hd, grown_refl _ _⟩
  by_cases h1 : n ≤ 256
  · have HD := Lib.hid hd
    clear hd
    go_enter Tryd.func49, Tryd.ntmps49
    go_wp2_with fail
    refine (curByte_any HD.out).mono ?_
    rintro e w1 ⟨r, hr, rfl, h1, g1⟩
    have H1 := Lib.hid h1
    have G1 := Lib.hid g1
    clear h1 g1 HD
    go_wp2
    go_ret
    exact ⟨r % n, .inl (Nat.mod_lt _ (by omega)), congrArg (fun x => Ending.returned (Value.int .i64 x)) (by simp), H1.out, G1.out⟩
  · have HD := Lib.hid hd
    clear hd
    go_enter Tryd.func49, Tryd.ntmps49
    go_wp2_with fail
    refine (curByte_any HD.out).mono ?_
    rintro e w1 ⟨r1, hr1, rfl, h1, g1⟩
    have H1 := Lib.hid h1
    have G1 := Lib.hid g1
    clear h1 g1 HD
    go_wp2_with fail
    refine (curByte_any H1.out).mono ?_
    rintro e w2 ⟨r2, hr2, rfl, h2, g2⟩
    have H2 := Lib.hid h2
    have G2 := Lib.hid (grown_trans G1.out g2)
    clear h2 g2 H1 G1
    go_wp2_with fail
    refine (curByte_any H2.out).mono ?_
    rintro e w3 ⟨r3, hr3, rfl, h3, g3⟩
    have H3 := Lib.hid h3
    have G3 := Lib.hid (grown_trans G2.out g3)
    clear h3 g3 H2 G2
    go_wp2_with fail
    refine (curByte_any H3.out).mono ?_
    rintro e w4 ⟨r4, hr4, rfl, h4, g4⟩
    have H4 := Lib.hid h4
    have G4 := Lib.hid (grown_trans G3.out g4)
    clear h4 g4 H3 G3
    go_wp2
    go_ret
    exact ⟨(r1 * 16777216 + r2 * 65536 + r3 * 256 + r4) % n, .inl (Nat.mod_lt _ (by omega)), congrArg (fun x => Ending.returned (Value.int .i64 x)) (by simp), H4.out, G4.out⟩

/-- True once in n: either. -/
theorem curOnce_any {g : Nat} {a : Option Addr} {len cap : Nat} (n : Nat) {w : World} (hn2 : n ≤ 2147483648) (hd : Curs g a len cap w) :
    Calls Tryd.prog 28 #[.pointer (some ⟨g, 0, none⟩), .int .i64 n] w fun e w' => ∃ b : Bool, e = .returned (.bool b) ∧ Curs g a len cap w' ∧ w.grownBy w' (some g) := by
  go_enter Tryd.func28, Tryd.ntmps28
  go_wp2_with fail
  refine (curBelow_any n hn2 hd).mono ?_
  rintro e w1 ⟨r, _, rfl, h1, g1⟩
  have H1 := Lib.hid h1
  have G1 := Lib.hid g1
  clear h1 g1 hd
  go_wp2
  go_ret
  exact ⟨_, rfl, H1.out, G1.out⟩

set_option maxRecDepth 100000 in
set_option maxHeartbeats 1600000 in
theorem curNew_any (a : Option Addr) (len cap : Nat) (w : World) (hlen : len ≤ 4096) (hc : CodeAt w.heap.size a len w) :
    Calls Tryd.prog 26 #[.slice a len cap] w fun e w' => e = .returned (.pointer (some ⟨w.heap.size, 0, none⟩)) ∧ Curs w.heap.size a len cap w' ∧ Below w.heap.size w w' := by
  have HC := Lib.hid hc
  clear hc
  go_enter Tryd.func26, Tryd.ntmps26
  go_wp2
  go_loop [3, 4] (fun hv i => ∃ (k : Nat) (h : Int), k ≤ len ∧ i = .int .i64 k ∧ hv = .int .i64 h) (fun _ i => len - (intOf i).toNat)
  case atStart => exact ⟨0, _, Nat.zero_le _, rfl, rfl⟩
  case round =>
    obtain ⟨k, h, hk, rfl, rfl⟩ := hrel
    by_cases hlt : k < len
    · obtain ⟨b, o, rfl, hcc⟩ : ∃ b o, a = some ⟨b, o, none⟩ ∧ ∀ j, j < len → ∃ z : Nat, z < 256 ∧ w.cell? ⟨b, o + j, none⟩ = some (.int .u8 z) := by
        rcases HC.out with h | ⟨b, o, h1, _, h2⟩
        · omega
        · exact ⟨b, o, h1, h2⟩
      obtain ⟨z, hz, hcell⟩ := hcc k hlt
      clear hcc
      go_wp2
      go_round
      case rel => exact ⟨k + 1, _, by omega, by go_num, rfl⟩
      case measure => simp [intOf]; omega
    · obtain rfl : k = len := by omega
      go_wp2
      go_ret
      exact ⟨rfl, ⟨⟨0, h, heap_alloc_new w _, Nat.zero_le _, hlen⟩, HC.out.below fun k hk => Below.heap_alloc _ _ _ hk⟩, (Below.refl _ _).alloc (Nat.le_refl _) _⟩

end Go.Proofs.YtekcfjmnaenghaaDoor

/- The walks of the reference's drawn texts: short ones; of what was there nothing turns but the cursor's own block. -/
namespace Go.Proofs.YtekcfjmnaenghaaDoor
open Go.RowKit

theorem pick_small6 {r : Nat} (h : r < 6) : ∃ x : ByteArray, (#[Value.string ⟨#[97]⟩, Value.string ⟨#[98]⟩, Value.string ⟨#[99]⟩, Value.string ⟨#[120, 49]⟩, Value.string ⟨#[43]⟩, Value.string ⟨#[43]⟩] : Array Value)[r]? = some (.string x) ∧ x.size ≤ 2 := by
  match r, h with
  | 0, _ => exact ⟨_, rfl, by decide⟩
  | 1, _ => exact ⟨_, rfl, by decide⟩
  | 2, _ => exact ⟨_, rfl, by decide⟩
  | 3, _ => exact ⟨_, rfl, by decide⟩
  | 4, _ => exact ⟨_, rfl, by decide⟩
  | 5, _ => exact ⟨_, rfl, by decide⟩

theorem pick_small4 {r : Nat} (h : r < 4) : ∃ x : ByteArray, (#[Value.string ⟨#[97]⟩, Value.string ⟨#[98]⟩, Value.string ⟨#[99]⟩, Value.string ⟨#[120, 49]⟩] : Array Value)[r]? = some (.string x) ∧ x.size ≤ 2 := by
  match r, h with
  | 0, _ => exact ⟨_, rfl, by decide⟩
  | 1, _ => exact ⟨_, rfl, by decide⟩
  | 2, _ => exact ⟨_, rfl, by decide⟩
  | 3, _ => exact ⟨_, rfl, by decide⟩

theorem size_app0 (s y : ByteArray) : (s ++ y).size = s.size + y.size := ByteArray.size_append
theorem size_slash : (⟨#[47]⟩ : ByteArray).size = 1 := rfl
theorem size_hash : (⟨#[47, 35]⟩ : ByteArray).size = 2 := rfl

set_option maxRecDepth 100000 in
set_option maxHeartbeats 1600000 in
theorem drawFilter_any {g : Nat} {a : Option Addr} {len cap : Nat} {w : World} (h : Curs g a len cap w) :
    Calls Tryd.prog 27 #[.pointer (some ⟨g, 0, none⟩)] w fun e w' => ∃ s : ByteArray, e = .returned (.string s) ∧ s.size ≤ 11 ∧ Curs g a len cap w' ∧ w.grownBy w' (some g) := by
  have HH := Lib.hid h
  clear h
  go_enter Tryd.func27, Tryd.ntmps27
  go_wp2_with fail
  refine (curBelow_any 3 (by omega) HH.out).mono ?_
  rintro e w1 ⟨r, hr, rfl, h1, g1⟩
  have H1 := Lib.hid h1
  have G1 := Lib.hid g1
  have hr3 : r ≤ 2 := by rcases hr with h | h <;> omega
  clear h1 g1 HH hr
  go_wp2_with fail
  go_loopw [3, 4] (fun sv nv wr => ∃ (s : ByteArray) (k : Nat), sv = .string s ∧ nv = .int .i64 k ∧ s.size + 3 * k ≤ 9 ∧ Hid (Curs g a len cap wr) ∧ Hid (w.grownBy wr (some g))) (fun _ nv _ => (intOf nv).toNat)
  case atStart => exact ⟨_, 1 + r, rfl, congrArg (Value.int .i64) (by omega), by show 0 + _ ≤ _; omega, H1, G1⟩
  case round =>
    obtain ⟨s, k, rfl, rfl, hsz, HR, HW⟩ := hrel
    clear H1 G1 hr3
    by_cases hk : 0 < k
    · have hg2 := HR.out.lt
      go_wp2_with fail
      all_goals
        refine (curBelow_any 6 (by omega) (HR.out.alloc _)).mono ?_
        rintro e w3 ⟨r3, hr3, rfl, h3, g3⟩
        obtain ⟨y, hy, hys⟩ := pick_small6 (r := r3) (by rcases hr3 with h | h <;> omega)
        have hr6 : r3 < 6 := by rcases hr3 with h | h <;> omega
        have hcell := (pick_lit g3 hg2).trans hy
        have HG3 := Lib.hid (grown_trans HW.out (grown_trans (grown_alloc wr _ (some g)) g3))
        have H3 := Lib.hid h3
        clear g3 h3 hy HR HW hr3
        go_wp2
        go_roundw
        case rel => exact ⟨_, k - 1, rfl, congrArg (Value.int .i64) (by omega), by simp only [size_app0, size_slash]; omega, H3, HG3⟩
        case measure => simp only [intOf]; omega
    · go_wp2_with fail
      refine (curBelow_any 5 (by omega) HR.out).mono ?_
      rintro e w3 ⟨r3, hr3, rfl, h3, g3⟩
      have HG3 := Lib.hid (grown_trans HW.out g3)
      have H3 := Lib.hid h3
      clear g3 h3 HR HW hr3
      go_wp2
      all_goals
        go_ret
        exact ⟨_, rfl, by first | omega | (simp only [size_app0, size_hash]; omega) | decide, H3.out, HG3.out⟩

set_option maxRecDepth 100000 in
set_option maxHeartbeats 1600000 in
theorem drawTopic_any {g : Nat} {a : Option Addr} {len cap : Nat} {w : World} (h : Curs g a len cap w) :
    Calls Tryd.prog 30 #[.pointer (some ⟨g, 0, none⟩)] w fun e w' => ∃ s : ByteArray, e = .returned (.string s) ∧ s.size ≤ 11 ∧ Curs g a len cap w' ∧ w.grownBy w' (some g) := by
  have HH := Lib.hid h
  clear h
  go_enter Tryd.func30, Tryd.ntmps30
  go_wp2_with fail
  refine (curBelow_any 3 (by omega) HH.out).mono ?_
  rintro e w1 ⟨r, hr, rfl, h1, g1⟩
  have H1 := Lib.hid h1
  have G1 := Lib.hid g1
  have hr3 : r ≤ 2 := by rcases hr with h | h <;> omega
  clear h1 g1 HH hr
  go_wp2_with fail
  go_loopw [3, 4] (fun sv nv wr => ∃ (s : ByteArray) (k : Nat), sv = .string s ∧ nv = .int .i64 k ∧ s.size + 3 * k ≤ 9 ∧ Hid (Curs g a len cap wr) ∧ Hid (w.grownBy wr (some g))) (fun _ nv _ => (intOf nv).toNat)
  case atStart => exact ⟨_, 1 + r, rfl, congrArg (Value.int .i64) (by omega), by show 0 + _ ≤ _; omega, H1, G1⟩
  case round =>
    obtain ⟨s, k, rfl, rfl, hsz, HR, HW⟩ := hrel
    clear H1 G1 hr3
    by_cases hk : 0 < k
    · have hg2 := HR.out.lt
      go_wp2_with fail
      all_goals
        refine (curBelow_any 4 (by omega) (HR.out.alloc _)).mono ?_
        rintro e w3 ⟨r3, hr3, rfl, h3, g3⟩
        obtain ⟨y, hy, hys⟩ := pick_small4 (r := r3) (by rcases hr3 with h | h <;> omega)
        have hr6 : r3 < 4 := by rcases hr3 with h | h <;> omega
        have hcell := (pick_lit g3 hg2).trans hy
        have HG3 := Lib.hid (grown_trans HW.out (grown_trans (grown_alloc wr _ (some g)) g3))
        have H3 := Lib.hid h3
        clear g3 h3 hy HR HW hr3
        go_wp2
        go_roundw
        case rel => exact ⟨_, k - 1, rfl, congrArg (Value.int .i64) (by omega), by simp only [size_app0, size_slash]; omega, H3, HG3⟩
        case measure => simp only [intOf]; omega
    · go_wp2
      go_ret
      exact ⟨_, rfl, by omega, HR.out, HW.out⟩

end Go.Proofs.YtekcfjmnaenghaaDoor

/- The walks of the laws' texts by dice: a topic and a filter of at most three words. -/
namespace Go.Proofs.YtekcfjmnaenghaaDoor
open Go.RowKit
set_option maxRecDepth 100000 in
set_option maxHeartbeats 1600000 in
theorem topic_any {g : Nat} {a : Option Addr} {len cap : Nat} {w : World} (h : Rolls g a len cap w) :
    Calls Tryd.prog 16 #[.pointer (some ⟨g, 0, none⟩)] w fun e w' => ∃ (s : ByteArray) (n : Nat), e = .returned (.string s) ∧ n ≤ 3 ∧ NameN false s n ∧ s.size ≤ 8 ∧ Rolls g a len cap w' ∧ w.grownBy w' (some g) := by
  have hg := h.lt
  go_enter Tryd.func16, Tryd.ntmps16
  go_wp2_with fail
  refine (roll_below 4 (by omega) (by omega) (h.alloc _)).mono ?_
  rintro e w1 ⟨r, hr, rfl, h1, g1⟩
  obtain ⟨x, hx, hgood, hxs⟩ := pick_topic1 hr
  have hcell := (pick_lit g1 hg).trans hx
  have HG := Lib.hid (grown_trans (grown_alloc w _ (some g)) g1)
  have H1 := Lib.hid h1
  have HN := Lib.hid (NameN.one hgood)
  clear g1 h1 hx hgood h
  go_wp2_with fail
  refine (roll_below 3 (by omega) (by omega) H1.out).mono ?_
  rintro e w2 ⟨r2, hr2, rfl, h2, g2⟩
  have HG2 := Lib.hid (grown_trans HG.out g2)
  have H2 := Lib.hid h2
  clear g2 h2 H1 HG hcell
  go_wp2_with fail
  go_loopw [3, 4] (fun sv nv wr => ∃ (s : ByteArray) (k n : Nat), sv = .string s ∧ nv = .int .i64 k ∧ k + n ≤ 3 ∧ Hid (NameN false s n) ∧ s.size ≤ 2 + 2 * n ∧ Hid (Rolls g a len cap wr) ∧ Hid (w.grownBy wr (some g))) (fun _ nv _ => (intOf nv).toNat)
  case atStart => exact ⟨x, r2, 1, rfl, rfl, by omega, HN, by omega, H2, HG2⟩
  case round =>
    obtain ⟨s, k, n, rfl, rfl, hkn, HS, hsz, HR, HW⟩ := hrel
    clear HN H2 HG2 hxs hr2
    by_cases hk : 0 < k
    · have hg2 := HR.out.lt
      go_wp2_with fail
      refine (roll_below 3 (by omega) (by omega) (HR.out.alloc _)).mono ?_
      rintro e w3 ⟨r3, hr3, rfl, h3, g3⟩
      obtain ⟨y, hy, hgy, hys⟩ := pick_topic2 hr3
      have hcell := (pick_lit g3 hg2).trans hy
      have HG3 := Lib.hid (grown_trans HW.out (grown_trans (grown_alloc wr _ (some g)) g3))
      have H3 := Lib.hid h3
      have HN := Lib.hid (NameN.next HS.out hgy)
      clear g3 h3 hy hgy HR HW HS
      go_wp2
      go_roundw
      case rel => exact ⟨_, k - 1, n + 1, rfl, congrArg (Value.int .i64) (by omega), by omega, HN, by rw [size_app1]; omega, H3, HG3⟩
      case measure => simp only [intOf]; omega
    · go_wp2
      go_ret
      exact ⟨s, n, rfl, by omega, HS.out, by omega, HR.out, HW.out⟩


end Go.Proofs.YtekcfjmnaenghaaDoor

/- The walk of the laws' filters, drawn by the dice. -/
namespace Go.Proofs.YtekcfjmnaenghaaDoor
open Go.RowKit

theorem pick_filter1 {r : Nat} (h : r < 4) : ∃ x : ByteArray, (#[Value.string ⟨#[97]⟩, Value.string ⟨#[98]⟩, Value.string ⟨#[43]⟩, Value.string ⟨#[110, 101, 119, 115]⟩] : Array Value)[r]? = some (.string x) ∧ goodPart true x ∧ x.size ≤ 4 := by
  match r, h with
  | 0, _ => exact ⟨_, rfl, ⟨.inl (by decide), by decide⟩, by decide⟩
  | 1, _ => exact ⟨_, rfl, ⟨.inl (by decide), by decide⟩, by decide⟩
  | 2, _ => exact ⟨_, rfl, ⟨.inr ⟨rfl, by rw [ByteArray.toList_eq]⟩, by decide⟩, by decide⟩
  | 3, _ => exact ⟨_, rfl, ⟨.inl (by decide), by decide⟩, by decide⟩

theorem pick_filter2 {r : Nat} (h : r < 3) : ∃ x : ByteArray, (#[Value.string ⟨#[97]⟩, Value.string ⟨#[98]⟩, Value.string ⟨#[43]⟩] : Array Value)[r]? = some (.string x) ∧ goodPart true x ∧ x.size ≤ 1 := by
  match r, h with
  | 0, _ => exact ⟨_, rfl, ⟨.inl (by decide), by decide⟩, by decide⟩
  | 1, _ => exact ⟨_, rfl, ⟨.inl (by decide), by decide⟩, by decide⟩
  | 2, _ => exact ⟨_, rfl, ⟨.inr ⟨rfl, by rw [ByteArray.toList_eq]⟩, by decide⟩, by decide⟩

/-- What the dice's filters are. -/
def DiceFilter (s : ByteArray) : Prop := filterP (parts s 47) = true ∧ s.size ≤ 10

set_option maxRecDepth 100000 in
set_option maxHeartbeats 1600000 in
theorem filter_any {g : Nat} {a : Option Addr} {len cap : Nat} {w : World} (h : Rolls g a len cap w) :
    Calls Tryd.prog 15 #[.pointer (some ⟨g, 0, none⟩)] w fun e w' => ∃ (s : ByteArray), e = .returned (.string s) ∧ DiceFilter s ∧ Rolls g a len cap w' ∧ w.grownBy w' (some g) := by
  have hg := h.lt
  go_enter Tryd.func15, Tryd.ntmps15
  go_wp2_with fail
  refine (roll_below 4 (by omega) (by omega) (h.alloc _)).mono ?_
  rintro e w1 ⟨r, hr, rfl, h1, g1⟩
  obtain ⟨x, hx, hgood, hxs⟩ := pick_filter1 hr
  have hcell := (pick_lit g1 hg).trans hx
  have HG := Lib.hid (grown_trans (grown_alloc w _ (some g)) g1)
  have H1 := Lib.hid h1
  have HN := Lib.hid (NameN.one hgood)
  clear g1 h1 hx hgood h
  go_wp2_with fail
  refine (roll_below 3 (by omega) (by omega) H1.out).mono ?_
  rintro e w2 ⟨r2, hr2, rfl, h2, g2⟩
  have HG2 := Lib.hid (grown_trans HG.out g2)
  have H2 := Lib.hid h2
  clear g2 h2 H1 HG hcell
  go_wp2_with fail
  go_loopw [3, 4] (fun sv nv wr => ∃ (s : ByteArray) (k n : Nat), sv = .string s ∧ nv = .int .i64 k ∧ k + n ≤ 3 ∧ Hid (NameN true s n) ∧ s.size ≤ 2 + 2 * n ∧ Hid (Rolls g a len cap wr) ∧ Hid (w.grownBy wr (some g))) (fun _ nv _ => (intOf nv).toNat)
  case atStart => exact ⟨x, r2, 1, rfl, rfl, by omega, HN, by omega, H2, HG2⟩
  case round =>
    obtain ⟨s, k, n, rfl, rfl, hkn, HS, hsz, HR, HW⟩ := hrel
    clear HN H2 HG2 hxs hr2
    by_cases hk : 0 < k
    · have hg2 := HR.out.lt
      go_wp2_with fail
      refine (roll_below 3 (by omega) (by omega) (HR.out.alloc _)).mono ?_
      rintro e w3 ⟨r3, hr3, rfl, h3, g3⟩
      obtain ⟨y, hy, hgy, hys⟩ := pick_filter2 hr3
      have hcell := (pick_lit g3 hg2).trans hy
      have HG3 := Lib.hid (grown_trans HW.out (grown_trans (grown_alloc wr _ (some g)) g3))
      have H3 := Lib.hid h3
      have HN := Lib.hid (NameN.next HS.out hgy)
      clear g3 h3 hy hgy HR HW HS
      go_wp2
      go_roundw
      case rel => exact ⟨_, k - 1, n + 1, rfl, congrArg (Value.int .i64) (by omega), by omega, HN, by rw [size_app1]; omega, H3, HG3⟩
      case measure => simp only [intOf]; omega
    · go_wp2_with fail
      refine (roll_below 5 (by omega) (by omega) HR.out).mono ?_
      rintro e w3 ⟨r3, hr3, rfl, h3, g3⟩
      have HG3 := Lib.hid (grown_trans HW.out g3)
      have H3 := Lib.hid h3
      clear g3 h3 HR HW
      have HP : Hid (DiceFilter ⟨#[35]⟩ ∧ DiceFilter (s ++ ⟨#[47, 35]⟩) ∧ DiceFilter s) := by
        refine Lib.hid ⟨⟨hash_filter, by decide⟩, ⟨?_, ?_⟩, ⟨HS.out.filter (by omega), by omega⟩⟩
        · rw [app_hash]; exact HS.out.filterAll (by omega)
        · rw [size_app2]; omega
      clear HS
      have h5 : r3 = 0 ∨ r3 = 1 ∨ 2 ≤ r3 := by omega
      rcases h5 with rfl | rfl | h5
      · go_wp2
        go_ret
        exact ⟨_, rfl, HP.out.1, H3.out, HG3.out⟩
      · go_wp2
        go_ret
        exact ⟨_, rfl, HP.out.2.1, H3.out, HG3.out⟩
      · have e0 : ((r3 : Int) == 0) = false := by rw [beq_eq_false_iff_ne]; omega
        have e1 : ((r3 : Int) == 1) = false := by rw [beq_eq_false_iff_ne]; omega
        go_wp2
        go_ret
        exact ⟨_, rfl, HP.out.2.2, H3.out, HG3.out⟩

end Go.Proofs.YtekcfjmnaenghaaDoor

/- The walks of impl.PartsOf and impl.TopicOk: is a text a topic? -/
namespace Go.Proofs.YtekcfjmnaenghaaDoor
open Go.RowKit

set_option maxRecDepth 100000 in
set_option maxHeartbeats 800000 in
theorem implTopic_any (s : ByteArray) (m : Int) (w : World) (hs : s.size ≤ 1048576) (hm : w.cell? ⟨0, 0, none⟩ = some (.int .i64 m)) :
    Calls Tryd.prog 32 #[.string s] w fun e w' => e = .returned (.bool (topicP (parts s 47))) ∧ Below w.heap.size w w' := by
  have hpos := parts_pos s 47
  have hple := parts_le s 47
  have hps : Hid (∀ p ∈ parts s 47, p.size ≤ s.size) := Lib.hid (fun p h => parts_size h)
  obtain ⟨l, hl⟩ : ∃ l, parts s 47 = l := ⟨_, rfl⟩
  have hc := implParts_any s m w hs hm
  rw [hl] at hpos hple hps hc ⊢
  clear hl hm
  by_cases h6 : l.length ≤ 6
  · go_enter Tryd.func32, Tryd.ntmps32
    go_wp2_with (go_at_call 51; refine hc.mono ?_; clear hc; rintro e w1 ⟨v, rfl, h1, h2⟩; obtain ⟨g, cap, rfl, hg1, hg2, hcell, _⟩ := row_open h1 hpos; have HC := Lib.hid hcell; have H2 := Lib.hid h2; clear h1 h2 hcell)
    go_loopw [13] (fun i wr => ∃ k : Nat, k ≤ l.length ∧ i = .int .i64 k ∧ Hid ((l.take k).all isWord = true) ∧ Hid (Below w1.heap.size w1 wr)) (fun i _ => l.length - (intOf i).toNat)
    case atStart => exact ⟨0, Nat.zero_le _, rfl, rfl, Below.refl _ _⟩
    case round =>
      obtain ⟨k, hk, rfl, HL, HW⟩ := hrel
      by_cases hlt : k < l.length
      · have hcx : wr.cell? ⟨g, k, none⟩ = some (.string l[k]) := (HW.out.cell hg2).trans (HC.out k hlt)
        have hsz : Hid (l[k].size ≤ maxLen) := Lib.hid (by have := hps.out _ (List.getElem_mem hlt); unfold maxLen; omega)
        cases hw : isWord l[k]
        · have HB := Lib.hid (topicP_bad hlt hw)
          have cw := wordOk_any l[k] wr hsz.out
          rw [hw] at cw
          clear hw
          go_wp2_with (go_at_call 52; refine cw.mono ?_; rintro e w' ⟨rfl, hb⟩)
          go_ret
          exact ⟨ret_bool HB.out.symm, H2.out.trans ((HW.out.trans (hb.mono HW.out.size)).mono H2.out.size)⟩
        · have HN : Hid ((l.take (k + 1)).all isWord = true) := Lib.hid (by rw [all_snoc l k hlt, HL.out, hw]; rfl)
          have cw := wordOk_any l[k] wr hsz.out
          rw [hw] at cw
          clear hw
          go_wp2_with (go_at_call 52; refine cw.mono ?_; rintro e w' ⟨rfl, hb⟩)
          go_roundw
          case rel => exact ⟨k + 1, by omega, by go_num, HN, HW.out.trans (hb.mono HW.out.size)⟩
          case measure => simp [intOf]; omega
      · obtain rfl : k = l.length := by omega
        have HE := Lib.hid (topicP_end HL.out)
        clear HL
        go_wp2
        go_ret
        exact ⟨ret_bool (by rw [HE.out]; grind), H2.out.trans (HW.out.mono H2.out.size)⟩
  · have hf : Hid (topicP l = false) := Lib.hid (by simp [topicP, h6])
    go_enter Tryd.func32, Tryd.ntmps32
    go_wp2_with (go_at_call 51; refine hc.mono ?_; clear hc; rintro e w1 ⟨v, rfl, h1, h2⟩; obtain ⟨g, cap, rfl, hg1, hg2, hcell, _⟩ := row_open h1 hpos; have HC := Lib.hid hcell; have H2 := Lib.hid h2; clear h1 h2 hcell)
    go_ret
    exact ⟨ret_bool hf.out.symm, H2.out⟩

end Go.Proofs.YtekcfjmnaenghaaDoor
