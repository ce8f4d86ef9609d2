/- Lists of numbers and of knots, as they lie in memory. Of no program. -/
import Derived.Test.YtcggenpianpoiaaDoorMem
import Derived.Lib.Hide
namespace Go.Proofs.YtcggenpianpoiaaDoor
open Go.RowKit

/-- The cells from (b, o) on hold the numbers l. -/
def IntsIn (w : World) (b o : Nat) (l : List Int) : Prop := ∀ j (hj : j < l.length), w.cell? ⟨b, o + j, none⟩ = some (.int .i64 l[j])

/-- v reads as the numbers l. -/
def IntsAt (w : World) (v : Value) (l : List Int) : Prop :=
  ∃ a c, v = .slice a l.length c ∧ l.length ≤ c ∧ c ≤ maxLen ∧ (l = [] ∨ ∃ b o, a = some ⟨b, o, none⟩ ∧ IntsIn w b o l)

theorem IntsIn.below {w w' : World} {b o : Nat} {l : List Int} (h : IntsIn w b o l) (hb : Below w.heap.size w w') : IntsIn w' b o l := by
  intro j hj
  have := h j hj
  exact (below_cell hb (World.block_lt_of_cell? _ _ this)).trans this

theorem IntsAt.below {w w' : World} {v : Value} {l : List Int} (h : IntsAt w v l) (hb : Below w.heap.size w w') : IntsAt w' v l := by
  obtain ⟨a, c, hv, h1, h2, h3⟩ := h
  refine ⟨a, c, hv, h1, h2, ?_⟩
  rcases h3 with h3 | ⟨b, o, ha, hi⟩
  · exact .inl h3
  · exact .inr ⟨b, o, ha, hi.below hb⟩

/-- A knot: its path, its numbers. -/
abbrev KnotM := ByteArray × List Int

/-- The cells from (b, o) on hold the knots l. -/
def KnotsIn (w : World) (b o : Nat) (l : List KnotM) : Prop :=
  ∀ j (hj : j < l.length), w.cell? ⟨b, o + j * 2, none⟩ = some (.string l[j].1) ∧ ∃ u, w.cell? ⟨b, o + j * 2 + 1, none⟩ = some u ∧ IntsAt w u l[j].2

/-- v reads as the knots l. -/
def KnotsAt (w : World) (v : Value) (l : List KnotM) : Prop :=
  ∃ a c, v = .slice a l.length c ∧ l.length ≤ c ∧ c ≤ maxLen ∧ (l = [] ∨ ∃ b o, a = some ⟨b, o, none⟩ ∧ KnotsIn w b o l)

theorem KnotsIn.below {w w' : World} {b o : Nat} {l : List KnotM} (h : KnotsIn w b o l) (hb : Below w.heap.size w w') : KnotsIn w' b o l := by
  intro j hj
  obtain ⟨h1, u, h2, h3⟩ := h j hj
  exact ⟨(below_cell hb (World.block_lt_of_cell? _ _ h1)).trans h1, u, (below_cell hb (World.block_lt_of_cell? _ _ h2)).trans h2, h3.below hb⟩

theorem KnotsAt.below {w w' : World} {v : Value} {l : List KnotM} (h : KnotsAt w v l) (hb : Below w.heap.size w w') : KnotsAt w' v l := by
  obtain ⟨a, c, hv, h1, h2, h3⟩ := h
  refine ⟨a, c, hv, h1, h2, ?_⟩
  rcases h3 with h3 | ⟨b, o, ha, hi⟩
  · exact .inl h3
  · exact .inr ⟨b, o, ha, hi.below hb⟩

/-! ### The trie's mathematics -/

def idOk (n : Int) : Bool := decide (0 ≤ n) && decide (n ≤ 99)

/-- Numbers from 0 to 99 that rise. -/
def risesTo (l : List Int) (k : Nat) : Bool := (List.range k).all fun j => idOk (l.getD j 0) && (decide (j = 0) || decide (l.getD (j - 1) 0 < l.getD j 0))
def rises (l : List Int) : Bool := risesTo l l.length

theorem risesTo_succ (l : List Int) (k : Nat) : risesTo l (k + 1) = (risesTo l k && (idOk (l.getD k 0) && (decide (k = 0) || decide (l.getD (k - 1) 0 < l.getD k 0)))) := by
  unfold risesTo; rw [List.range_succ, List.all_append]; simp

theorem risesTo_bad {l : List Int} {k : Nat} (h : k < l.length) (hb : (idOk (l.getD k 0) && (decide (k = 0) || decide (l.getD (k - 1) 0 < l.getD k 0))) = false) : rises l = false := by
  cases e : rises l
  · rfl
  · unfold rises risesTo at e
    rw [List.all_eq_true] at e
    have := e k (List.mem_range.2 h)
    rw [hb] at this; cases this

/-- The path of which it is a child: what is ahead of the last slash. -/
def aboveTo (s : ByteArray) : Nat → ByteArray
  | 0 => ⟨#[]⟩
  | k + 1 => if s.data.toList[k]? = some 47 then s.extract 0 k else aboveTo s k
def above (s : ByteArray) : ByteArray := aboveTo s s.size

/-- Where a path is, from the k-th on: -1 where it is not. -/
def findFrom (p : ByteArray) : List KnotM → Nat → Int
  | [], _ => -1
  | x :: l, k => if x.1.toList == p.toList then (k : Int) else findFrom p l (k + 1)
def find (l : List KnotM) (p : ByteArray) : Int := findFrom p l 0

/-- Has the path a child among the knots but the first? -/
def childB (l : List KnotM) (p : ByteArray) : Bool := (l.drop 1).any fun x => (above x.1).toList == p.toList

theorem KnotsIn.alloc {w : World} {b o : Nat} {l : List KnotM} (h : KnotsIn w b o l) (x : Obj) : KnotsIn (w.alloc x) b o l := h.below ((Below.refl _ _).alloc (Nat.le_refl _) x)
theorem KnotsAt.alloc {w : World} {v : Value} {l : List KnotM} (h : KnotsAt w v l) (x : Obj) : KnotsAt (w.alloc x) v l := h.below ((Below.refl _ _).alloc (Nat.le_refl _) x)
theorem IntsAt.alloc {w : World} {v : Value} {l : List Int} (h : IntsAt w v l) (x : Obj) : IntsAt (w.alloc x) v l := h.below ((Below.refl _ _).alloc (Nat.le_refl _) x)

end Go.Proofs.YtcggenpianpoiaaDoor
