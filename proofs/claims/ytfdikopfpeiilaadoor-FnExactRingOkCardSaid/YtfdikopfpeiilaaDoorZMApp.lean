/- Messages as cells: what an append of messages reads. -/
import Derived.Test.YtfdikopfpeiilaaDoorZSMsg
import Derived.Test.YtfdikopfpeiilaaDoorZB1
import Derived.Deep.AppendLies
set_option linter.unusedSimpArgs false
set_option linter.unusedVariables false
namespace Go.Proofs.YtfdikopfpeiilaaDoor
open Go.RowKit

theorem mcells_one (l : List MsgM) : ∀ u ∈ mcells l, u.oneCell' = true := by
  intro u hu
  obtain ⟨x, _, hx⟩ := List.mem_flatMap.1 hu
  simp only [mval, List.mem_cons, List.not_mem_nil, or_false] at hx
  rcases hx with rfl | rfl | rfl | rfl <;> rfl

/-- The cells of a row of messages, one by one. -/
theorem msgs_src {w : World} {b o : Nat} {l : List MsgM} (h : MsgsIn w b o l) : ∀ j u, (mcells l)[j]? = some u → w.cell? ((⟨b, o, none⟩ : Addr).add j) = some u := by
  intro j u hu
  have hj : j < l.length * 4 := by
    rcases Nat.lt_or_ge j (l.length * 4) with h | h
    · exact h
    · rw [List.getElem?_eq_none (by rw [mcells_length]; exact h)] at hu; cases hu
  have hi : j / 4 < l.length := by omega
  have e := mcells_at l (j / 4) hi
  have c := h (j / 4) hi
  have ha : ∀ n : Nat, (⟨b, o, none⟩ : Addr).add n = ⟨b, o + n, none⟩ := fun n => by unfold Addr.add; split <;> simp_all
  rw [ha]
  obtain ⟨i, hj2 | hj2 | hj2 | hj2⟩ : ∃ i, j = i * 4 ∨ j = i * 4 + 1 ∨ j = i * 4 + 2 ∨ j = i * 4 + 3 := ⟨j / 4, by omega⟩
  · subst hj2
    simp only [show i * 4 / 4 = i by omega] at e c
    rw [e.1] at hu; cases hu; exact c.1
  · subst hj2
    simp only [show (i * 4 + 1) / 4 = i by omega] at e c
    rw [e.2.1] at hu; cases hu; exact c.2.1
  · subst hj2
    simp only [show (i * 4 + 2) / 4 = i by omega] at e c
    rw [e.2.2.1] at hu; cases hu; exact c.2.2.1
  · subst hj2
    simp only [show (i * 4 + 3) / 4 = i by omega] at e c
    rw [e.2.2.2] at hu; cases hu; exact c.2.2.2

theorem msg_info : ∃ i, Tryd.prog.info? 38 = some i ∧ i.zero = some (.agg #[.int .i64 0, .int .i64 0, .string ⟨#[]⟩, .int .i64 0]) ∧ i.size = 4 ∧ i.bytes = 40 :=
  info_parts (by kernel_rfl)

theorem own_farR {w : World} {B n size g j : Nat} {E : TypeId} {u v : Value} {xs : List Value} (h : w.ownsRow B E size v n xs) (hg : g < B) : (w.setCell ⟨g, j, none⟩ u).ownsRow B E size v n xs :=
  h.kept (grown_setCell w g j u) (by
    cases e : v.ownBlock with
    | none => exact .inl rfl
    | some k => exact .inr (by have := (h.lt k e).1; intro e2; cases e2; omega))

theorem msg_new (w : World) (x : MsgM) (T : TypeId) : ∀ j u, (mcells [x])[j]? = some u → (w.alloc (.cells #[.int .i64 x.1, .int .i64 x.2.1, .string x.2.2.1, .int .i64 x.2.2.2] T)).cell? ((⟨w.heap.size, 0, none⟩ : Addr).add j) = some u := by
  refine msgs_src (l := [x]) fun j hj => ?_
  have : j = 0 := by simpa using hj
  subst this
  refine ⟨?_, ?_, ?_, ?_⟩ <;> rw [World.cell?_alloc_at _ _ _ _ rfl] <;> rfl

end Go.Proofs.YtfdikopfpeiilaaDoor
