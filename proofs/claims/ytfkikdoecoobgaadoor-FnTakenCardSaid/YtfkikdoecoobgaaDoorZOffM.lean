/- What a call that offers or takes holds in memory (written by gen_off.py). -/
import Derived.Test.YtfkikdoecoobgaaDoorZB3
import Derived.Test.YtfkikdoecoobgaaDoorZB1
import Derived.Test.YtfkikdoecoobgaaDoorZB2
set_option linter.unusedSimpArgs false
set_option linter.unusedVariables false
namespace Go.Proofs.YtfkikdoecoobgaaDoor
open Go.RowKit

/-- An index, or -1. -/
def idxN : Option Nat → Int
  | some i => (i : Int)
  | none => -1

/-- What comes of an offer to a box that is open. -/
def offQ (b : BoxM) (m : MsgM) : Option Nat → BoxM × Int
  | some i => ({ b with q := b.q.set i m, ofr := b.ofr + 1, mrg := b.mrg + 1 }, 2)
  | none => if (b.q.length : Int) = b.cap then
          if b.pol = 1 then (b, 3)
          else if b.pol = 3 then ({ b with ofr := b.ofr + 1, drp := b.drp + 1 }, 4)
          else ({ b with q := b.q.drop 1 ++ [m], ofr := b.ofr + 1, drp := b.drp + 1 }, 5)
        else ({ b with q := b.q ++ [m], ofr := b.ofr + 1 }, 0)

/-- The three boxes of the call: the box, the message, the answer. -/
structure Off3 (w : World) (B : Nat) (b : BoxM) (v : Value) (m : MsgM) : Prop where
  box : w.heap[B]? = some (.cells (bcells b v) 26 (0, 0))
  msg : w.heap[B + 1]? = some (.cells #[.int .i64 m.1, .int .i64 m.2.1, .string m.2.2.1, .int .i64 m.2.2.2] 29 (0, 0))
  res : w.heap[B + 1 + 1]? = some (.cells (bcells zeroBox (.slice none 0 0)) 26 (0, 0))
theorem Off3.lt {w : World} {B : Nat} {b : BoxM} {v : Value} {m : MsgM} (h : Off3 w B b v m) : B + 1 + 1 < w.heap.size := (Array.getElem?_eq_some_iff.1 h.res).1
theorem Off3.below {w w' : World} {B : Nat} {b : BoxM} {v : Value} {m : MsgM} (h : Off3 w B b v m) (hb : Below w.heap.size w w') : Off3 w' B b v m := by
  have := h.lt
  exact ⟨(hb.block _ (by omega)).trans h.box, (hb.block _ (by omega)).trans h.msg, (hb.block _ (by omega)).trans h.res⟩
theorem Off3.grown {w w' : World} {B : Nat} {g : Option Nat} {b : BoxM} {v : Value} {m : MsgM} (h : Off3 w B b v m) (hg : w.grownBy w' g) (hne : ∀ k, g = some k → B + 1 + 1 < k) : Off3 w' B b v m := by
  have := h.lt
  exact ⟨(hg.block _ (by omega) (fun e => by have := hne _ e.symm; omega)).trans h.box, (hg.block _ (by omega) (fun e => by have := hne _ e.symm; omega)).trans h.msg, (hg.block _ (by omega) (fun e => by have := hne _ e.symm; omega)).trans h.res⟩

/-- The call as it stands: its three boxes, the new box in block G with a row of its own. -/
structure OffS (w wx : World) (G : Nat) (b : BoxM) (v : Value) (m : MsgM) (o : BoxM) (u : Value) : Prop where
  three : Off3 wx w.heap.size b v m
  new : wx.heap[G]? = some (.cells (bcells o u) 26 (0, 0))
  row : MOwn wx (w.heap.size + 1 + 1 + 1) u o.q
  far : w.heap.size + 1 + 1 + 1 ≤ G
  since : Below w.heap.size w wx
theorem OffS.ltG {w wx : World} {G : Nat} {b o : BoxM} {v u : Value} {m : MsgM} (h : OffS w wx G b v m o u) : G < wx.heap.size := (Array.getElem?_eq_some_iff.1 h.new).1
theorem own_off {wx : World} {B G : Nat} {u : Value} {l : List MsgM} {cs : Array Value} (ho : MOwn wx B u l) (h : wx.heap[G]? = some (.cells cs 26 (0, 0))) : u.ownBlock ≠ some G := by
  rcases ho.2 with ⟨rfl, _⟩ | ⟨g, cap, cur, rfl, _, h3, _⟩
  · intro e; cases e
  · intro e
    have e2 : g = G := by cases e; rfl
    subst e2
    rw [h] at h3
    cases h3
theorem own_kept1 {w w' : World} {B G : Nat} {u : Value} {l : List MsgM} (h : MOwn w B u l) (hw : w.grownBy w' (some G)) (hne : u.ownBlock ≠ some G) : MOwn w' B u l :=
  World.ownsRow.kept h hw (.inr hne)
theorem OffS.below {w wx wy : World} {G : Nat} {b o : BoxM} {v u : Value} {m : MsgM} (h : OffS w wx G b v m o u) (hb : Below wx.heap.size wx wy) : OffS w wy G b v m o u :=
  ⟨h.three.below hb, (hb.block _ h.ltG).trans h.new, row_below h.row hb, h.far, h.since.trans (hb.mono h.since.size)⟩
/-- A cell of the new box stored. -/
theorem OffS.set {w wx : World} {G : Nat} {b o : BoxM} {v u : Value} {m : MsgM} (h : OffS w wx G b v m o u) (j : Nat) (x : Value) (o' : BoxM) (hq : o'.q = o.q) (hc : (bcells o u).setIfInBounds j x = bcells o' u) :
    OffS w (wx.setCell ⟨G, j, none⟩ x) G b v m o' u := by
  have hg := grown_setCell wx G j x
  have hf := h.far
  refine ⟨h.three.grown hg (fun k e => by cases e; omega), by rw [← hc]; exact heap_setCell_same _ _ j _ _ x h.new, ?_, hf, h.since.trans (below_of_grown hg (by omega) h.since.size)⟩
  rw [hq]
  exact own_kept1 h.row hg (own_off h.row h.new)
/-- The own row changed. -/
theorem OffS.app {w wx wy : World} {G : Nat} {b o : BoxM} {v u : Value} {m : MsgM} (h : OffS w wx G b v m o u) (hg : wx.grownBy wy u.ownBlock) :
    Off3 wy w.heap.size b v m ∧ wy.heap[G]? = some (.cells (bcells o u) 26 (0, 0)) ∧ Below w.heap.size w wy := by
  have hu : ∀ k, u.ownBlock = some k → w.heap.size + 1 + 1 + 1 ≤ k := fun k e => (World.ownsRow.lt h.row k e).1
  refine ⟨h.three.grown hg (fun k e => by have := hu k e; omega), (hg.block _ h.ltG (own_off h.row h.new).symm).trans h.new, ?_⟩
  exact h.since.grown hg h.since.size (fun k e => by have := hu k e; omega)
/-- The queue stored. -/
theorem OffS.queue {w wy : World} {G : Nat} {b o : BoxM} {v u u2 : Value} {m : MsgM} {q2 : List MsgM} (h3 : Off3 wy w.heap.size b v m) (hn : wy.heap[G]? = some (.cells (bcells o u) 26 (0, 0))) (hw : Below w.heap.size w wy)
    (hf : w.heap.size + 1 + 1 + 1 ≤ G) (hr : MOwn wy (w.heap.size + 1 + 1 + 1) u2 q2) : OffS w (wy.setCell ⟨G, 2, none⟩ u2) G b v m { o with q := q2 } u2 := by
  have hg := grown_setCell wy G 2 u2
  exact ⟨h3.grown hg (fun k e => by cases e; omega), heap_setCell_same _ _ 2 _ _ u2 hn, own_kept1 hr hg (own_off hr hn), hf, hw.trans (below_of_grown hg (by omega) hw.size)⟩
/-- A message of the own row laid anew. -/
theorem OffS.put {w wx : World} {G g n c i : Nat} {b o : BoxM} {v : Value} {m : MsgM} (h : OffS w wx G b v m o (.slice (some ⟨g, 0, none⟩) n c)) (hn : n = o.q.length) (hi : i < o.q.length) (x : MsgM) :
    OffS w (put4 wx g i x) G b v m { o with q := o.q.set i x } (.slice (some ⟨g, 0, none⟩) n c) := by
  have hg := grown_put4 wx g i x
  have hu : w.heap.size + 1 + 1 + 1 ≤ g := (World.ownsRow.lt h.row g rfl).1
  have hne : (some G : Option Nat) ≠ some g := fun e => own_off h.row h.new (by rw [e]; rfl)
  exact ⟨h.three.grown hg (fun k e => by cases e; omega), (hg.block _ h.ltG hne).trans h.new, MOwn.put x h.row hn hi, h.far, h.since.trans (below_of_grown hg (by omega) h.since.size)⟩
/-- A message boxed on the way. -/
def Lone (w : World) (f : Nat) (m : MsgM) : Prop := w.heap[f]? = some (.cells #[.int .i64 m.1, .int .i64 m.2.1, .string m.2.2.1, .int .i64 m.2.2.2] 29 (0, 0))
theorem Lone.new (w : World) (m : MsgM) : Lone (w.alloc (.cells #[.int .i64 m.1, .int .i64 m.2.1, .string m.2.2.1, .int .i64 m.2.2.2] 29)) w.heap.size m := heap_alloc_new _ _
theorem Lone.lt {w : World} {f : Nat} {m : MsgM} (h : Lone w f m) : f < w.heap.size := (Array.getElem?_eq_some_iff.1 h).1
theorem Lone.below {w w' : World} {f : Nat} {m : MsgM} (h : Lone w f m) (hb : Below w.heap.size w w') : Lone w' f m := (hb.block _ h.lt).trans h
theorem Lone.grown {w w' : World} {f g : Nat} {m : MsgM} (h : Lone w f m) (hg : w.grownBy w' (some g)) (hne : f ≠ g) : Lone w' f m := (hg.block _ h.lt (fun e => hne (by cases e; rfl))).trans h
theorem Lone.src {w : World} {f : Nat} {m : MsgM} (h : Lone w f m) : SrcAt w (.slice (some ⟨f, 0, none⟩) 1 1) 1 (mcells [m]) := by
  refine ⟨_, _, rfl, .inr ⟨_, rfl, msgs_src (l := [m]) fun j hj => ?_⟩⟩
  have : j = 0 := by simpa using hj
  subst this
  exact ⟨cell_of_heap h 0, cell_of_heap h 1, cell_of_heap h 2, cell_of_heap h 3⟩
theorem tail_src {w : World} {B g n c : Nat} {l : List MsgM} (h : MOwn w B (.slice (some ⟨g, 0, none⟩) n c) l) (k : Nat) : SrcAt w (.slice (some ⟨g, 4, none⟩) (l.length - 1) k) (l.length - 1) (mcells (l.drop 1)) := by
  refine ⟨_, _, rfl, .inr ⟨_, rfl, msgs_src (l := l.drop 1) fun j hj => ?_⟩⟩
  obtain ⟨a, c', e, _, _, h3⟩ := own_msgs_at h
  rw [List.length_drop] at hj
  obtain ⟨b, o', e2, hin⟩ : ∃ b o', a = some ⟨b, o', none⟩ ∧ MsgsIn w b o' l := by
    rcases h3 with h3 | h3
    · subst h3; simp at hj
    · exact h3
  subst e2
  injection e with e1
  injection e1 with e1
  injection e1 with e2 e3
  subst e2 e3
  have := hin (1 + j) (by omega)
  rw [List.getElem_drop]
  rw [show 4 + j * 4 = 0 + (1 + j) * 4 by omega]
  exact this
theorem tail_none {w : World} {l : List MsgM} {a : Addr} (h : l.length ≤ 1) (k : Nat) : SrcAt w (.slice (some a) (l.length - 1) k) (l.length - 1) (mcells (l.drop 1)) := by
  refine ⟨_, _, rfl, .inr ⟨_, rfl, fun j u hu => ?_⟩⟩
  rw [show l.drop 1 = [] from List.drop_eq_nil_of_le h] at hu
  simp [mcells] at hu
theorem lit_own {D : Nat} {wx : World} (hb : D ≤ wx.heap.size) : (wx.alloc (.cells #[] 29)).ownsRow D 29 4 (.slice (some ⟨wx.heap.size, 0, none⟩) 0 0) 0 [] :=
  World.ownsRow_lit (base := D) (e := 29) (size := 4) wx #[] 0 hb (by unfold maxLen; omega) rfl
theorem off_end {w wx : World} {G : Nat} {b o : BoxM} {v u : Value} {m : MsgM} (h : OffS w wx G b v m o u) (cs : Array Value) :
    (wx.setRow (w.heap.size + 1 + 1) cs).heap[w.heap.size + 1 + 1]? = some (.cells cs 26 (0, 0)) ∧ MOwn (wx.setRow (w.heap.size + 1 + 1) cs) w.heap.size u o.q ∧ Below w.heap.size w (wx.setRow (w.heap.size + 1 + 1) cs) := by
  have hg := grown_setRow wx (w.heap.size + 1 + 1) cs
  exact ⟨setRow_heap cs h.three.res, own_mono (own_grownN h.row (by omega) hg) (by omega), h.since.trans (below_of_grown hg (by omega) h.since.size)⟩

end Go.Proofs.YtfkikdoecoobgaaDoor
