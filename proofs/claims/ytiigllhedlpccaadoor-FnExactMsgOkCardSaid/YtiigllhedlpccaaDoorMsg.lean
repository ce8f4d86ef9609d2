/- Messages: how they lie in memory, as one and in rows; when they are right. -/
import Derived.Test.YtiigllhedlpccaaDoorRowG
import Derived.Test.YtiigllhedlpccaaDoorCut
import Derived.Lib.Hide
namespace Go.Proofs.YtiigllhedlpccaaDoor
open Go.RowKit

/-- A message: its number, its teller, its topic, its body. -/
abbrev MsgM := Int × Int × ByteArray × Int

def mval (x : MsgM) : List Value := [.int .i64 x.1, .int .i64 x.2.1, .string x.2.2.1, .int .i64 x.2.2.2]
abbrev magg (x : MsgM) : Value := .agg #[.int .i64 x.1, .int .i64 x.2.1, .string x.2.2.1, .int .i64 x.2.2.2]
def mcells (l : List MsgM) : List Value := l.flatMap mval

/-- The four cells from (b, o) on hold the message x. -/
def MsgIn (w : World) (b o : Nat) (x : MsgM) : Prop :=
  w.cell? ⟨b, o, none⟩ = some (.int .i64 x.1) ∧ w.cell? ⟨b, o + 1, none⟩ = some (.int .i64 x.2.1) ∧ w.cell? ⟨b, o + 2, none⟩ = some (.string x.2.2.1) ∧ w.cell? ⟨b, o + 3, none⟩ = some (.int .i64 x.2.2.2)

/-- The cells from (b, o) on hold the messages l. -/
def MsgsIn (w : World) (b o : Nat) (l : List MsgM) : Prop := ∀ j (hj : j < l.length), MsgIn w b (o + j * 4) l[j]

/-- v reads as the messages l. -/
def MsgsAt (w : World) (v : Value) (l : List MsgM) : Prop :=
  ∃ a c, v = .slice a l.length c ∧ l.length ≤ c ∧ c ≤ maxLen ∧ (l = [] ∨ ∃ b o, a = some ⟨b, o, none⟩ ∧ MsgsIn w b o l)

theorem MsgIn.below {w w' : World} {b o : Nat} {x : MsgM} (h : MsgIn w b o x) (hb : Below w.heap.size w w') : MsgIn w' b o x := by
  have hlt := World.block_lt_of_cell? _ _ h.1
  exact ⟨(below_cell hb hlt).trans h.1, (below_cell hb hlt).trans h.2.1, (below_cell hb hlt).trans h.2.2.1, (below_cell hb hlt).trans h.2.2.2⟩

theorem MsgsIn.below {w w' : World} {b o : Nat} {l : List MsgM} (h : MsgsIn w b o l) (hb : Below w.heap.size w w') : MsgsIn w' b o l := fun j hj => (h j hj).below hb

theorem MsgsAt.below {w w' : World} {v : Value} {l : List MsgM} (h : MsgsAt w v l) (hb : Below w.heap.size w w') : MsgsAt w' v l := by
  obtain ⟨a, c, hv, h1, h2, h3⟩ := h
  refine ⟨a, c, hv, h1, h2, ?_⟩
  rcases h3 with h3 | ⟨b, o, ha, hi⟩
  · exact .inl h3
  · exact .inr ⟨b, o, ha, hi.below hb⟩

theorem MsgsAt.alloc {w : World} {v : Value} {l : List MsgM} (h : MsgsAt w v l) (x : Obj) : MsgsAt (w.alloc x) v l := h.below ((Below.refl _ _).alloc (Nat.le_refl _) x)

theorem mcells_cons (x : MsgM) (l : List MsgM) : mcells (x :: l) = .int .i64 x.1 :: .int .i64 x.2.1 :: .string x.2.2.1 :: .int .i64 x.2.2.2 :: mcells l := rfl
theorem mcells_app (a b : List MsgM) : mcells (a ++ b) = mcells a ++ mcells b := by simp [mcells]

theorem mcells_length : ∀ l : List MsgM, (mcells l).length = l.length * 4
  | [] => rfl
  | x :: l => by rw [mcells_cons]; simp only [List.length_cons, mcells_length l]; omega

theorem mcells_at : ∀ (l : List MsgM) (j : Nat) (h : j < l.length), (mcells l)[j * 4]? = some (.int .i64 l[j].1) ∧ (mcells l)[j * 4 + 1]? = some (.int .i64 l[j].2.1) ∧
    (mcells l)[j * 4 + 2]? = some (.string l[j].2.2.1) ∧ (mcells l)[j * 4 + 3]? = some (.int .i64 l[j].2.2.2)
  | x :: l, 0, _ => ⟨rfl, rfl, rfl, rfl⟩
  | x :: l, j + 1, h => by
    have ih := mcells_at l j (by simpa using h)
    rw [mcells_cons, show (j + 1) * 4 = j * 4 + 1 + 1 + 1 + 1 by omega, show j * 4 + 1 + 1 + 1 + 1 + 1 = (j * 4 + 1) + 1 + 1 + 1 + 1 by omega, show j * 4 + 1 + 1 + 1 + 1 + 2 = (j * 4 + 2) + 1 + 1 + 1 + 1 by omega, show j * 4 + 1 + 1 + 1 + 1 + 3 = (j * 4 + 3) + 1 + 1 + 1 + 1 by omega]
    simp only [List.getElem?_cons_succ, List.getElem_cons_succ]
    exact ih

theorem mcells_set : ∀ (l : List MsgM) (j : Nat) (x : MsgM), j < l.length →
    ((((mcells l).set (j * 4) (.int .i64 x.1)).set (j * 4 + 1) (.int .i64 x.2.1)).set (j * 4 + 2) (.string x.2.2.1)).set (j * 4 + 3) (.int .i64 x.2.2.2) = mcells (l.set j x)
  | y :: l, 0, x, _ => rfl
  | y :: l, j + 1, x, h => by
    rw [mcells_cons, show (j + 1) * 4 = j * 4 + 1 + 1 + 1 + 1 by omega, show j * 4 + 1 + 1 + 1 + 1 + 1 = (j * 4 + 1) + 1 + 1 + 1 + 1 by omega, show j * 4 + 1 + 1 + 1 + 1 + 2 = (j * 4 + 2) + 1 + 1 + 1 + 1 by omega, show j * 4 + 1 + 1 + 1 + 1 + 3 = (j * 4 + 3) + 1 + 1 + 1 + 1 by omega]
    simp only [List.set_cons_succ]
    rw [mcells_set l j x (by simpa using h), mcells_cons]

/-- An own row of messages. -/
def MOwn (w : World) (B : Nat) (v : Value) (l : List MsgM) : Prop := w.ownsRow B 25 4 v l.length (mcells l)

theorem own_msgs_at {w : World} {B : Nat} {v : Value} {l : List MsgM} (h : MOwn w B v l) : MsgsAt w v l := by
  rcases h.2 with ⟨rfl, h0⟩ | ⟨g, cap, cur, rfl, _, _, h4, h5, _, _⟩
  · exact ⟨none, 0, by rw [h0], by omega, by unfold maxLen; omega, .inl (List.length_eq_zero_iff.1 h0)⟩
  · refine ⟨_, cap, rfl, h4, h5, .inr ⟨g, 0, rfl, fun j hj => ?_⟩⟩
    have e := mcells_at l j hj
    refine ⟨?_, ?_, ?_, ?_⟩
    · rw [Nat.zero_add, h.cellAt _ (by omega)]; exact e.1
    · rw [Nat.zero_add, h.cellAt _ (by omega)]; exact e.2.1
    · rw [Nat.zero_add, h.cellAt _ (by omega)]; exact e.2.2.1
    · rw [Nat.zero_add, h.cellAt _ (by omega)]; exact e.2.2.2

/-! ### When they are right -/

def inB (x lo hi : Int) : Bool := decide (lo ≤ x) && decide (x ≤ hi)
def msgB (x : MsgM) : Bool := inB x.1 1 100000 && inB x.2.1 0 7 && topicP (parts x.2.2.1 47) && inB x.2.2.2 0 9999

/-- May message k stand behind the one ahead of it? -/
def nextM (l : List MsgM) (k : Nat) (h : k < l.length) : Bool := msgB l[k] && (decide (k = 0) || decide ((l[k - 1]'(by omega)).1 < l[k].1))
def msgsTo (l : List MsgM) (k : Nat) : Bool := (List.range k).all fun j => if h : j < l.length then nextM l j h else true
def msgsB (l : List MsgM) : Bool := msgsTo l l.length

theorem msgsTo_succ (l : List MsgM) (k : Nat) (h : k < l.length) : msgsTo l (k + 1) = (msgsTo l k && nextM l k h) := by
  unfold msgsTo; rw [List.range_succ, List.all_append]; simp [h]

theorem msgsTo_bad {l : List MsgM} {k : Nat} (h : k < l.length) (hb : nextM l k h = false) : msgsB l = false := by
  cases e : msgsB l
  · rfl
  · unfold msgsB msgsTo at e
    rw [List.all_eq_true] at e
    have := e k (List.mem_range.2 h)
    rw [dif_pos h, hb] at this; cases this

end Go.Proofs.YtiigllhedlpccaaDoor
