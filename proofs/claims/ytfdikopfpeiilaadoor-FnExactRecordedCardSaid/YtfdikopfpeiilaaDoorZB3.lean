/- Small texts, laid together. -/
import Derived.Test.YtfdikopfpeiilaaDoorZSMsg
import Derived.Test.YtfdikopfpeiilaaDoorZB1
import Derived.Deep.AppendLies
import Derived.Test.YtfdikopfpeiilaaDoorZMPart
set_option linter.unusedSimpArgs false
set_option linter.unusedVariables false
/- Messages as cells: what an append of messages reads. -/
namespace Go.Proofs.YtfdikopfpeiilaaDoor
open Go.RowKit

theorem mcells_one (l : List MsgM) : ∀ u ∈ mcells l, u.oneCell' = true := by
  intro u hu
  obtain ⟨x, _, hx⟩ := List.mem_flatMap.1 hu
  simp only [mval, List.mem_cons, List.not_mem_nil, or_false] at hx
  rcases hx with rfl | rfl | rfl | rfl <;> rfl

/-- The cells of a row of messages, one by one. -/
theorem msgs_src {w : World} {b o : Nat} {l : List MsgM} (h : MsgsIn w b o l) : ∀ j u, (mcells l)[j]? = some u → w.cell? ((⟨b, o, none⟩ : Addr).add j) = some u := by
  intro j u hu
  have hj : j < l.length * 4 := by
    rcases Nat.lt_or_ge j (l.length * 4) with h | h
    · exact h
    · rw [List.getElem?_eq_none (by rw [mcells_length]; exact h)] at hu; cases hu
  have hi : j / 4 < l.length := by omega
  have e := mcells_at l (j / 4) hi
  have c := h (j / 4) hi
  have ha : ∀ n : Nat, (⟨b, o, none⟩ : Addr).add n = ⟨b, o + n, none⟩ := fun n => by unfold Addr.add; split <;> simp_all
  rw [ha]
  obtain ⟨i, hj2 | hj2 | hj2 | hj2⟩ : ∃ i, j = i * 4 ∨ j = i * 4 + 1 ∨ j = i * 4 + 2 ∨ j = i * 4 + 3 := ⟨j / 4, by omega⟩
  · subst hj2
    simp only [show i * 4 / 4 = i by omega] at e c
    rw [e.1] at hu; cases hu; exact c.1
  · subst hj2
    simp only [show (i * 4 + 1) / 4 = i by omega] at e c
    rw [e.2.1] at hu; cases hu; exact c.2.1
  · subst hj2
    simp only [show (i * 4 + 2) / 4 = i by omega] at e c
    rw [e.2.2.1] at hu; cases hu; exact c.2.2.1
  · subst hj2
    simp only [show (i * 4 + 3) / 4 = i by omega] at e c
    rw [e.2.2.2] at hu; cases hu; exact c.2.2.2

theorem msg_info : ∃ i, Tryd.prog.info? 38 = some i ∧ i.zero = some (.agg #[.int .i64 0, .int .i64 0, .string ⟨#[]⟩, .int .i64 0]) ∧ i.size = 4 ∧ i.bytes = 40 :=
  info_parts (by kernel_rfl)

theorem own_farR {w : World} {B n size g j : Nat} {E : TypeId} {u v : Value} {xs : List Value} (h : w.ownsRow B E size v n xs) (hg : g < B) : (w.setCell ⟨g, j, none⟩ u).ownsRow B E size v n xs :=
  h.kept (grown_setCell w g j u) (by
    cases e : v.ownBlock with
    | none => exact .inl rfl
    | some k => exact .inr (by have := (h.lt k e).1; intro e2; cases e2; omega))

theorem msg_new (w : World) (x : MsgM) (T : TypeId) : ∀ j u, (mcells [x])[j]? = some u → (w.alloc (.cells #[.int .i64 x.1, .int .i64 x.2.1, .string x.2.2.1, .int .i64 x.2.2.2] T)).cell? ((⟨w.heap.size, 0, none⟩ : Addr).add j) = some u := by
  refine msgs_src (l := [x]) fun j hj => ?_
  have : j = 0 := by simpa using hj
  subst this
  refine ⟨?_, ?_, ?_, ?_⟩ <;> rw [World.cell?_alloc_at _ _ _ _ rfl] <;> rfl

end Go.Proofs.YtfdikopfpeiilaaDoor

/- The walk of impl.ringOf at messages: a box of its own, and a row of its own. -/
namespace Go.Proofs.YtfdikopfpeiilaaDoor
open Go.RowKit

theorem msgs_srcAt {w : World} {v : Value} {l : List MsgM} (h : MsgsAt w v l) : SrcAt w v l.length (mcells l) := by
  obtain ⟨a, c, rfl, _, _, h3⟩ := h
  refine ⟨a, c, rfl, ?_⟩
  rcases h3 with h3 | ⟨b, o, ha, hi⟩
  · subst h3
    cases a with
    | none => exact .inl ⟨rfl, rfl, rfl⟩
    | some ad => exact .inr ⟨ad, rfl, fun j u hu => by simp [mcells] at hu⟩
  · exact .inr ⟨_, ha, msgs_src hi⟩

/-- A ring of the program's own: its box. -/
def RBoxM (w : World) (G : Nat) (cap : Int) (u : Value) : Prop := w.heap[G]? = some (.cells #[.int .i64 cap, u] 57 (0, 0))

theorem RBoxM.below {w w' : World} {G : Nat} {cap : Int} {u : Value} (h : RBoxM w G cap u) (hb : Below w.heap.size w w') : RBoxM w' G cap u := (hb.block _ (Array.getElem?_eq_some_iff.1 h).1).trans h
theorem RBoxM.lt {w : World} {G : Nat} {cap : Int} {u : Value} (h : RBoxM w G cap u) : G < w.heap.size := (Array.getElem?_eq_some_iff.1 h).1
theorem RBoxM.c0 {w : World} {G : Nat} {cap : Int} {u : Value} (h : RBoxM w G cap u) : w.cell? ⟨G, 0, none⟩ = some (.int .i64 cap) := cell_of_heap h 0
theorem RBoxM.c1 {w : World} {G : Nat} {cap : Int} {u : Value} (h : RBoxM w G cap u) : w.cell? ⟨G, 1, none⟩ = some u := cell_of_heap h 1

set_option maxRecDepth 100000 in
set_option maxHeartbeats 1600000 in
theorem ringOf_any (cap : Int) (v : Value) (l : List MsgM) (w : World) (hl : l.length ≤ 2000000) (hv : MsgsAt w v l) :
    Calls Tryd.prog 29 #[.int .i64 cap, v] w fun e w' =>
      ∃ G u, e = .returned (.pointer (some ⟨G, 0, none⟩)) ∧ RBoxM w' G cap u ∧ w.heap.size ≤ G ∧ MOwn w' w.heap.size u l ∧ Below w.heap.size w w' := by
  have HS := Lib.hid (msgs_srcAt hv)
  obtain ⟨ua, uc, rfl, _, _, _⟩ := hv
  obtain ⟨i, hi, hz0, hz1, hz2⟩ := msg_info
  have HL := Lib.hid (mcells_length l)
  go_enter Tryd.func29, Tryd.ntmps29
  go_wp2_with (at_builtin; refine wpList_append_src rfl _ _ 27 rfl w.heap.size 38 i (.agg #[.int .i64 0, .int .i64 0, .string ⟨#[]⟩, .int .i64 0]) 4 40 Tryd.underlying27 hi hz0 hz1 hz2 rfl (by decide) (.slice none 0 0) (.slice ua l.length uc) 0 l.length [] (mcells l) rfl (World.ownsRow_nil _ _ _ _) rfl HS.out HL.out (mcells_one l) (by unfold maxLen; omega) (by omega) (Nat.le_refl _) ?_; intro v' w' hown hgr _; rw [Nat.zero_add, List.nil_append] at hown; obtain ⟨ra, rc, hv'⟩ := own_slice hown; subst hv')
  have HB := Lib.hid ((Below.refl w.heap.size w).grown hgr (Nat.le_refl _) (fun k h => by cases h))
  have HW := Lib.hid hown
  clear hown hgr
  go_wp2
  go_ret
  exact ⟨_, _, rfl, heap_alloc_new _ _, HB.out.size, row_below HW.out ((Below.refl _ _).alloc (Nat.le_refl _) _), HB.out.alloc HB.out.size _⟩

end Go.Proofs.YtfdikopfpeiilaaDoor
