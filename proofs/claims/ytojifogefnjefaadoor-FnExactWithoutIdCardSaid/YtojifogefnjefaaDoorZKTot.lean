/- How many marks a list of knots takes; rows of two lists that share no block. -/
import Derived.Test.YtojifogefnjefaaDoorZKMark
import Derived.Test.YtojifogefnjefaaDoorZOwn
set_option linter.unusedSimpArgs false
set_option linter.unusedVariables false
namespace Go.Proofs.YtojifogefnjefaaDoor
open Go.RowKit

def totK (l : List KnotM) : Nat := (l.map (·.2.length)).sum

theorem kend_tot : ∀ (l : List KnotM) (k : Nat), kend l k = k + l.length + totK l
  | [], k => by simp [kend, totK]
  | x :: l, k => by rw [kend, kend_tot l]; simp only [totK, List.map_cons, List.sum_cons, List.length_cons]; omega

theorem totK_append (a b : List KnotM) : totK (a ++ b) = totK a + totK b := by simp [totK]
theorem totK_set : ∀ (l : List KnotM) (k : Nat) (x : KnotM), totK (l.set k x) ≤ totK l + x.2.length
  | [], _, _ => by simp [totK]
  | a :: l, 0, x => by simp only [List.set_cons_zero, totK, List.map_cons, List.sum_cons]; omega
  | a :: l, k + 1, x => by have := totK_set l k x; simp only [List.set_cons_succ, totK, List.map_cons, List.sum_cons] at *; omega

theorem totK_setAt : ∀ (l : List KnotM) (k : Nat) (h : k < l.length) (x : KnotM), totK (l.set k x) + l[k].2.length = totK l + x.2.length
  | a :: l, 0, _, x => by simp only [List.set_cons_zero, totK, List.map_cons, List.sum_cons, List.getElem_cons_zero]; omega
  | a :: l, k + 1, h, x => by have := totK_setAt l k (by simpa using h) x; simp only [List.set_cons_succ, totK, List.map_cons, List.sum_cons, List.getElem_cons_succ] at *; omega

theorem kend_ids {l : List KnotM} {x : KnotM} (h : x ∈ l) : x.2.length ≤ kend l 1 := by
  rw [kend_tot]
  have : x.2.length ≤ totK l := by
    unfold totK
    induction l with
    | nil => cases h
    | cons a l ih =>
      simp only [List.map_cons, List.sum_cons]
      rcases List.mem_cons.1 h with rfl | h
      · omega
      · have := ih h; omega
  omega
theorem kend_len (l : List KnotM) : l.length ≤ kend l 1 := by rw [kend_tot]; omega

/-- The rows of an elder list, and of a later one, share no block. -/
theorem elder_apart {w : World} {A B : Nat} {u v : Value} {l m : List KnotM} {us vs : List Value} (h : KOwnU w A u l us) (hB : w.heap.size ≤ B) {w2 : World} (k : KOwnU w2 B v m vs) : ∀ x ∈ u :: us, ∀ y ∈ v :: vs, Apart x y := fun x hx y hy => by
  cases e : x.ownBlock with
  | none => exact .inl e
  | some b => exact .inr (fun e2 => by
      have h1 := (h.lt x hx b e).2
      have h2 := (k.lt y hy b (by rw [← e2, e])).1
      omega)

end Go.Proofs.YtojifogefnjefaaDoor
