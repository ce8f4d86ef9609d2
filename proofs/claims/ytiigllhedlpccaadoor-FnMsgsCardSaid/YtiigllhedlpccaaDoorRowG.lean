/- Rows that a call owns: what holds of each. -/
import Derived.Test.YtiigllhedlpccaaDoorMem
import Derived.Laws.OwnMore
namespace Go.Proofs.YtiigllhedlpccaaDoor
open Go.RowKit

theorem take_next {α : Type} (l : List α) (z : α) (n k : Nat) (hn : l.length = n) (h : k < l.length) :
    (l.take k ++ List.replicate (n - k) z).set k l[k] = l.take (k + 1) ++ List.replicate (n - (k + 1)) z := by
  rw [List.set_append_right _ _ (by simp; omega)]
  simp only [List.length_take, Nat.min_eq_left (Nat.le_of_lt h), Nat.sub_self]
  rw [show n - k = (n - (k + 1)) + 1 by omega, List.replicate_succ, List.set_cons_zero, List.take_succ_eq_append_getElem h, List.append_assoc]
  rfl

theorem own_mono {w : World} {A B n size : Nat} {E : TypeId} {v : Value} {xs : List Value} (h : w.ownsRow B E size v n xs) (hb : A ≤ B) : w.ownsRow A E size v n xs := by
  refine ⟨h.1, ?_⟩
  rcases h.2 with h2 | ⟨g, cap, cur, hv, hg, r⟩
  · exact .inl h2
  · exact .inr ⟨g, cap, cur, hv, Nat.le_trans hb hg, r⟩

theorem cell_of_heap {w : World} {g : Nat} {cur : Array Value} {e : TypeId} {fz : Nat × Nat} (h : w.heap[g]? = some (.cells cur e fz)) (j : Nat) : w.cell? ⟨g, j, none⟩ = cur[j]? := by
  simp [World.cell?, h]

theorem own_slice {w : World} {B n size : Nat} {E : TypeId} {v : Value} {xs : List Value} (h : w.ownsRow B E size v n xs) : ∃ a c, v = .slice a n c := by
  rcases h.2 with ⟨rfl, rfl⟩ | ⟨g, cap, _, rfl, _⟩
  · exact ⟨_, _, rfl⟩
  · exact ⟨_, _, rfl⟩

theorem own_kept {w : World} {B n size g j : Nat} {E : TypeId} {u v : Value} {xs : List Value} (h : w.ownsRow B E size v n xs) (hg : v.ownBlock ≠ some g) : (w.setCell ⟨g, j, none⟩ u).ownsRow B E size v n xs :=
  h.kept (grown_setCell w g j u) (.inr hg)

/-- A box of another type stays as it was where an own row grows. -/
theorem type_kept {A C : World} {v : Value} {B n size g : Nat} {E T : TypeId} {xs : List Value} {cs : Array Value} {fr : Nat × Nat} (h : A.ownsRow B E size v n xs) (hg : A.grownBy C v.ownBlock) (hc : A.heap[g]? = some (.cells cs T fr)) (hne : E ≠ T) :
    C.heap[g]? = some (.cells cs T fr) := by
  refine (hg.block g (Array.getElem?_eq_some_iff.1 hc).1 ?_).trans hc
  intro e
  rcases h.2 with ⟨rfl, _⟩ | ⟨g0, cap, cur, rfl, _, hh, _⟩
  · cases e
  · have : g = g0 := by simpa [Value.ownBlock] using e
    subst this
    rw [hh] at hc
    cases hc
    exact hne rfl

theorem own_not_at {A : World} {v : Value} {B n size g : Nat} {E T : TypeId} {xs : List Value} {cs : Array Value} {fr : Nat × Nat} (h : A.ownsRow B E size v n xs) (hc : A.heap[g]? = some (.cells cs T fr)) (hne : E ≠ T) : v.ownBlock ≠ some g := by
  intro e
  rcases h.2 with ⟨rfl, _⟩ | ⟨g0, cap, cur, rfl, _, hh, _⟩
  · cases e
  · have : g0 = g := by simpa [Value.ownBlock] using e
    subst this
    rw [hh] at hc
    cases hc
    exact hne rfl

theorem own_cap {A : World} {B n size g c : Nat} {E : TypeId} {xs : List Value} (h : A.ownsRow B E size (.slice (some ⟨g, 0, none⟩) n c) n xs) : n ≤ c := by
  rcases h.2 with ⟨h1, _⟩ | ⟨g0, cap, cur, h1, _, _, h2, _⟩
  · cases h1
  · cases h1; exact h2

end Go.Proofs.YtiigllhedlpccaaDoor
