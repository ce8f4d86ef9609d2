/- Plain mathematics: a text cut at each byte c, three ways: by recursion, as the reference's loop does, and as the library's Split does. -/
import Derived.Test.YtfkikdoecoobgaaDoorZB1
import Derived.Lib.SplitLaws
set_option linter.unusedSimpArgs false
set_option linter.unusedVariables false
namespace Go.Proofs.YtfkikdoecoobgaaDoor

/-- The parts between the bytes c. -/
def cut (c : UInt8) : List UInt8 → List (List UInt8)
  | [] => [[]]
  | b :: l => if b = c then [] :: cut c l else match cut c l with
    | [] => [[b]]
    | p :: ps => (b :: p) :: ps

theorem cut_cons (c : UInt8) (l : List UInt8) : ∃ p ps, cut c l = p :: ps := by
  cases l with
  | nil => exact ⟨_, _, rfl⟩
  | cons b l =>
    unfold cut
    split
    · exact ⟨_, _, rfl⟩
    · split
      · exact ⟨_, _, rfl⟩
      · exact ⟨_, _, rfl⟩

theorem cut_length (c : UInt8) (l : List UInt8) : (cut c l).length = l.count c + 1 := by
  induction l with
  | nil => rfl
  | cons b l ih =>
    obtain ⟨p, ps, h⟩ := cut_cons c l
    unfold cut
    split
    · rename_i e; subst e; simp [ih]
    · rename_i e; rw [h] at ih ⊢; rw [List.count_cons_of_ne (by simpa using e)]; simpa using ih

/-- THE LIBRARY's WAY. -/
theorem splitK_cut (c : UInt8) : ∀ l : List UInt8, Lib.splitK [c] 0 (Lib.count l [c]) l = cut c l
  | [] => rfl
  | b :: l => by
    have ih := splitK_cut c l
    by_cases h : b = c
    · subst h
      have hix : Lib.index (b :: l) [b] = ((0 : Nat) : Int) := by rw [Lib.index]; simp [List.isPrefixOf]
      rw [Lib.count_cons_eq, Nat.add_comm, Lib.splitK, hix]
      simp only [cut, if_true]
      simpa using ih
    · have hp : ([c] : List UInt8).isPrefixOf (b :: l) = false := by simp [List.isPrefixOf, Ne.symm h]
      have hix : Lib.index (b :: l) [c] = if Lib.index l [c] == -1 then -1 else Lib.index l [c] + 1 := by rw [Lib.index, hp]; simp
      rw [Lib.count_cons_ne b c l h]
      cases hn : Lib.count l [c] with
      | zero =>
        rw [hn, Lib.splitK] at ih
        rw [Lib.splitK, cut, if_neg h, ← ih]
      | succ m =>
        rw [hn, Lib.splitK] at ih
        rw [Lib.splitK, cut, if_neg h, ← ih]
        have hge := Lib.index_ge l [c]
        by_cases hm : Lib.index l [c] = -1
        · rw [hix, hm]; rfl
        · obtain ⟨j, hj⟩ : ∃ j : Nat, Lib.index l [c] = j := ⟨(Lib.index l [c]).toNat, by omega⟩
          rw [hix, hj]
          have e1 : ((j : Int) == -1) = false := by rw [beq_eq_false_iff_ne]; omega
          have e2 : ((j : Int) + 1 == -1) = false := by rw [beq_eq_false_iff_ne]; omega
          have e3 : ((j : Int) + 1).toNat = j + 1 := by omega
          simp [e1, e2, e3]

/-- THE REFERENCE's WAY: what lies in the list behind k rounds, and where the next part begins. -/
def cutTo (s : ByteArray) (c : UInt8) : Nat → List ByteArray × Nat
  | 0 => ([], 0)
  | k + 1 => if s.size ≤ k ∨ s.data.toList[k]? = some c then ((cutTo s c k).1 ++ [s.extract (cutTo s c k).2 k], k + 1) else cutTo s c k

def parts (s : ByteArray) (c : UInt8) : List ByteArray := (cutTo s c (s.size + 1)).1

theorem cutTo_le (s : ByteArray) (c : UInt8) : ∀ k, (cutTo s c k).2 ≤ k
  | 0 => Nat.le_refl _
  | k + 1 => by
    unfold cutTo
    split
    · exact Nat.le_refl _
    · exact Nat.le_succ_of_le (cutTo_le s c k)

theorem cutTo_len (s : ByteArray) (c : UInt8) : ∀ k, (cutTo s c k).1.length ≤ k
  | 0 => Nat.le_refl _
  | k + 1 => by
    have := cutTo_len s c k
    unfold cutTo
    split
    · simp; omega
    · omega

theorem cutTo_hit {s : ByteArray} {c : UInt8} {k : Nat} (h : s.size ≤ k ∨ s.data.toList[k]? = some c) : cutTo s c (k + 1) = ((cutTo s c k).1 ++ [s.extract (cutTo s c k).2 k], k + 1) := by
  rw [cutTo, if_pos h]
theorem cutTo_miss {s : ByteArray} {c : UInt8} {k : Nat} (h : k < s.size) (hc : s.data.toList[k]? ≠ some c) : cutTo s c (k + 1) = cutTo s c k := by
  rw [cutTo, if_neg (by rintro (h1 | h1); omega; exact hc h1)]

/-- A text put ahead of the first part. -/
def ahead (x : List UInt8) : List (List UInt8) → List (List UInt8)
  | [] => [x]
  | p :: ps => (x ++ p) :: ps

theorem extract_list (s : ByteArray) (a b : Nat) : (s.extract a b).data.toList = (s.data.toList.take b).drop a := by
  rw [Lib.extract_data]; simp [List.drop_take]

theorem cutTo_inv (s : ByteArray) (c : UInt8) : ∀ k, k ≤ s.size →
    cut c s.data.toList = (cutTo s c k).1.map (·.data.toList) ++ ahead ((s.data.toList.take k).drop (cutTo s c k).2) (cut c (s.data.toList.drop k))
  | 0, _ => by
    obtain ⟨p, ps, h⟩ := cut_cons c s.data.toList
    simp [cutTo, h, ahead]
  | k + 1, hk => by
    rw [cutTo_inv s c k (by omega)]
    have hlt : k < s.data.toList.length := (show k < s.size by omega)
    have hle := cutTo_le s c k
    have hd : s.data.toList.drop k = s.data.toList[k] :: s.data.toList.drop (k + 1) := List.drop_eq_getElem_cons hlt
    have hg : s.data.toList[k]? = some s.data.toList[k] := List.getElem?_eq_getElem hlt
    by_cases hc : s.data.toList[k] = c
    · rw [cutTo_hit (.inr (by rw [hg, hc])), hd, cut, if_pos hc]
      obtain ⟨p, ps, h⟩ := cut_cons c (s.data.toList.drop (k + 1))
      simp only [List.map_append, List.map_cons, List.map_nil, extract_list, ahead, h, List.append_nil, List.append_assoc, List.cons_append, List.nil_append]
      congr 2
      simp
    · rw [cutTo_miss (by omega) (by rw [hg]; simpa using hc), hd, cut, if_neg hc]
      obtain ⟨p, ps, h⟩ := cut_cons c (s.data.toList.drop (k + 1))
      rw [h]
      simp only [ahead]
      congr 2
      rw [List.take_succ_eq_append_getElem hlt, List.drop_append_of_le_length (by simp; omega)]
      simp

theorem parts_data (s : ByteArray) (c : UInt8) : (parts s c).map (·.data.toList) = cut c s.data.toList := by
  have hl : s.data.toList.length = s.size := rfl
  rw [cutTo_inv s c s.size (Nat.le_refl _), parts, cutTo_hit (.inl (Nat.le_refl _))]
  have hd : s.data.toList.drop s.size = [] := List.drop_of_length_le (Nat.le_of_eq hl)
  rw [hd]
  simp only [List.map_append, List.map_cons, List.map_nil, extract_list, cut, ahead, List.append_nil]

theorem bytes_ext {a b : ByteArray} (h : a.data.toList = b.data.toList) : a = b := by
  cases a; cases b; simpa [← Array.toList_inj] using h

theorem lists_ext : ∀ {a b : List ByteArray}, a.map (·.data.toList) = b.map (·.data.toList) → a = b
  | [], [], _ => rfl
  | x :: a, y :: b, h => by
    simp only [List.map_cons, List.cons.injEq] at h
    rw [bytes_ext h.1, lists_ext h.2]
  | [], _ :: _, h => by simp at h
  | _ :: _, [], h => by simp at h

/-- BOTH WAYS ARE ONE. -/
theorem splitB_parts (s : ByteArray) (c : UInt8) : Lib.splitB ⟨#[c]⟩ 0 (Lib.countB s ⟨#[c]⟩) s = parts s c :=
  lists_ext (by rw [Lib.splitB_data, parts_data]; exact splitK_cut c s.data.toList)

theorem countB_parts (s : ByteArray) (c : UInt8) : Lib.countB s ⟨#[c]⟩ + 1 = (parts s c).length := by
  rw [← splitB_parts, Lib.splitB_all ⟨#[c]⟩ (Nat.le_refl 1) 0 _ s rfl]

theorem parts_le (s : ByteArray) (c : UInt8) : (parts s c).length ≤ s.size + 1 := cutTo_len s c _

theorem cutTo_size (s : ByteArray) (c : UInt8) : ∀ k, k ≤ s.size + 1 → ∀ p ∈ (cutTo s c k).1, p.size ≤ s.size
  | 0, _, p, hp => by simp [cutTo] at hp
  | k + 1, hk, p, hp => by
    unfold cutTo at hp
    split at hp
    · simp only [List.mem_append, List.mem_singleton] at hp
      rcases hp with hp | rfl
      · exact cutTo_size s c k (by omega) p hp
      · rw [ByteArray.size_extract]; omega
    · exact cutTo_size s c k (by omega) p hp

theorem parts_size {s : ByteArray} {c : UInt8} {p : ByteArray} (h : p ∈ parts s c) : p.size ≤ s.size := cutTo_size s c _ (Nat.le_refl _) p h

theorem parts_pos (s : ByteArray) (c : UInt8) : 0 < (parts s c).length := by rw [← countB_parts]; omega

/-- Are the parts those of a topic? -/
def topicP (l : List ByteArray) : Bool := decide (l.length ≤ 6) && l.all isWord

/-- May part i of n be in a filter? -/
def partF (p : ByteArray) (last : Bool) : Bool := isWord p || p.toList == [43] || (last && p.toList == [35])

/-- Are the first k parts as a filter's? -/
def filterTo (l : List ByteArray) (k : Nat) : Bool := (List.range k).all fun j => partF (l.getD j ByteArray.empty) (decide (j + 1 = l.length))

/-- Are the parts those of a filter? -/
def filterP (l : List ByteArray) : Bool := decide (l.length ≤ 6) && filterTo l l.length

theorem filterTo_succ (l : List ByteArray) (k : Nat) (h : k < l.length) : filterTo l (k + 1) = (filterTo l k && partF l[k] (decide (k + 1 = l.length))) := by
  unfold filterTo; rw [List.range_succ, List.all_append]; simp [h]

theorem filterTo_next {l : List ByteArray} {k : Nat} {p : ByteArray} (h : k < l.length) (hp : l[k] = p) (hl : filterTo l k = true) (hb : partF p (decide (k + 1 = l.length)) = true) : filterTo l (k + 1) = true := by
  rw [filterTo_succ l k h, hl, hp, hb]; rfl

theorem filterP_bad {l : List ByteArray} {k : Nat} (h : k < l.length) (hb : partF l[k] (decide (k + 1 = l.length)) = false) : filterP l = false := by
  have : filterTo l l.length = false := by
    cases e : filterTo l l.length
    · rfl
    · unfold filterTo at e
      rw [List.all_eq_true] at e
      have := e k (List.mem_range.2 h)
      rw [List.getD_eq_getElem?_getD, List.getElem?_eq_getElem h, Option.getD_some, hb] at this
      cases this
  rw [filterP, this, Bool.and_false]

theorem filterP_no {l : List ByteArray} {k : Nat} {p : ByteArray} (h : k < l.length) (hp : l[k] = p) (hb : partF p (decide (k + 1 = l.length)) = false) : filterP l = false :=
  filterP_bad h (by rw [hp]; exact hb)

theorem filterP_end {l : List ByteArray} (h : filterTo l l.length = true) : filterP l = decide (l.length ≤ 6) := by
  rw [filterP, h, Bool.and_true]

theorem all_snoc (l : List ByteArray) (k : Nat) (h : k < l.length) : (l.take (k + 1)).all isWord = ((l.take k).all isWord && isWord l[k]) := by
  rw [List.take_succ_eq_append_getElem h, List.all_append]; simp

theorem topicP_bad {l : List ByteArray} {k : Nat} (h : k < l.length) (hb : isWord l[k] = false) : topicP l = false := by
  have hm : l[k] ∈ l := List.getElem_mem h
  have : l.all isWord = false := by
    cases e : l.all isWord
    · rfl
    · rw [List.all_eq_true] at e; rw [e _ hm] at hb; cases hb
  rw [topicP, this, Bool.and_false]

theorem topicP_end {l : List ByteArray} (h : (l.take l.length).all isWord = true) : topicP l = decide (l.length ≤ 6) := by
  rw [List.take_length] at h; rw [topicP, h, Bool.and_true]

end Go.Proofs.YtfkikdoecoobgaaDoor
