/- Plain mathematics for chapter 1 (names): words, parts. No program in it. -/
import Derived.Lib.Strings
namespace Go.Proofs.YtiigllhedlpccaaDoor

/-- A letter a to z or a digit. -/
def low (c : UInt8) : Bool := (decide (97 ≤ c.toNat) && decide (c.toNat ≤ 122)) || (decide (48 ≤ c.toNat) && decide (c.toNat ≤ 57))

def lowAll (l : List UInt8) : Bool := l.all low

/-- A word. -/
def isWord (s : ByteArray) : Bool := lowAll s.data.toList && (decide (1 ≤ s.size) && decide (s.size ≤ 12))

theorem take_snoc (s : ByteArray) (k : Nat) (h : k < s.size) : s.data.toList.take (k + 1) = s.data.toList.take k ++ [s[k]] := by
  rw [List.take_succ_eq_append_getElem (by simpa using h)]; rfl

theorem lowAll_snoc (s : ByteArray) (k : Nat) (h : k < s.size) : lowAll (s.data.toList.take (k + 1)) = (lowAll (s.data.toList.take k) && low s[k]) := by
  rw [take_snoc s k h]; simp [lowAll]

theorem lowAll_full (s : ByteArray) : lowAll (s.data.toList.take s.size) = lowAll s.data.toList := by
  rw [List.take_of_length_le]; exact Nat.le_of_eq rfl

theorem lowAll_bad (s : ByteArray) (k : Nat) (h : k < s.size) (hb : low s[k] = false) : lowAll s.data.toList = false := by
  have hm : s[k] ∈ s.data.toList := by simp [ByteArray.getElem_eq_getElem_data]
  cases e : lowAll s.data.toList
  · rfl
  · rw [lowAll, List.all_eq_true] at e
    rw [e _ hm] at hb; cases hb

theorem low_yes {c : UInt8} (h : (97 ≤ (c.toNat : Int) ∧ (c.toNat : Int) ≤ 122) ∨ (48 ≤ (c.toNat : Int) ∧ (c.toNat : Int) ≤ 57)) : low c = true := by
  unfold low; simp; omega
theorem low_no {c : UInt8} (h : ¬ ((97 ≤ (c.toNat : Int) ∧ (c.toNat : Int) ≤ 122) ∨ (48 ≤ (c.toNat : Int) ∧ (c.toNat : Int) ≤ 57))) : low c = false := by
  unfold low; simp; omega

end Go.Proofs.YtiigllhedlpccaaDoor
