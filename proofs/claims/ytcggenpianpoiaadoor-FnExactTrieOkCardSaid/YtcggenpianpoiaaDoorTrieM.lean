/- Plain mathematics of chapter 3: a right trie. -/
import Derived.Test.YtcggenpianpoiaaDoorKnot
import Derived.Test.YtcggenpianpoiaaDoorCut
namespace Go.Proofs.YtcggenpianpoiaaDoor

/-- a is ahead of b, or b itself. -/
def leB (a b : ByteArray) : Bool := Op.bytesLess a.toList b.toList || a.toList == b.toList

def knot0 : KnotM := (⟨#[]⟩, [])

/-- Is the k-th knot as it should be? -/
def knotOk (l : List KnotM) (p q : KnotM) : Bool :=
  !(leB q.1 p.1) && (filterP (parts q.1 47) && (rises q.2 && (decide (0 ≤ find l (above q.1)) && (!(q.2.isEmpty) || childB l q.1))))

def knotsTo (l : List KnotM) (k : Nat) : Bool := (List.range k).all fun j => decide (j = 0) || knotOk l (l.getD (j - 1) knot0) (l.getD j knot0)

def headOk (l : List KnotM) : Bool := match l with
  | [] => false
  | x :: _ => x.1.toList == [] && x.2.isEmpty

/-- 'TrieOk'. -/
def trieB (l : List KnotM) : Bool := headOk l && knotsTo l l.length

theorem knotsTo_succ (l : List KnotM) (k : Nat) : knotsTo l (k + 1) = (knotsTo l k && (decide (k = 0) || knotOk l (l.getD (k - 1) knot0) (l.getD k knot0))) := by
  unfold knotsTo; rw [List.range_succ, List.all_append]; simp

theorem knot_at {l : List KnotM} {k : Nat} (h : k < l.length) : l.getD k knot0 = l[k] := by rw [List.getD_eq_getElem?_getD, List.getElem?_eq_getElem h]; rfl

theorem knotsTo_next {l : List KnotM} {k : Nat} (h1 : 1 ≤ k) (h : k < l.length) (hl : knotsTo l k = true) (hk : knotOk l (l[k - 1]'(by omega)) l[k] = true) : knotsTo l (k + 1) = true := by
  rw [knotsTo_succ, hl, knot_at (by omega), knot_at h, hk]; simp

theorem knotsTo_bad {l : List KnotM} {k : Nat} (h1 : 1 ≤ k) (h : k < l.length) (hk : knotOk l (l[k - 1]'(by omega)) l[k] = false) : trieB l = false := by
  cases e : trieB l
  · rfl
  · unfold trieB at e
    rw [Bool.and_eq_true] at e
    have e2 := e.2
    unfold knotsTo at e2
    rw [List.all_eq_true] at e2
    have := e2 k (List.mem_range.2 h)
    rw [knot_at (by omega), knot_at h, hk, decide_eq_false (by omega)] at this
    cases this

end Go.Proofs.YtcggenpianpoiaaDoor
