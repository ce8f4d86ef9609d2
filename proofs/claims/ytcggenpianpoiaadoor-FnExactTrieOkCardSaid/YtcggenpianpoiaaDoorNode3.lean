/- The program's tree: what a change of one node leaves. -/
import Derived.Test.YtcggenpianpoiaaDoorNode
import Derived.Test.YtcggenpianpoiaaDoorGrown
import Derived.Test.YtcggenpianpoiaaDoorSTrie4
namespace Go.Proofs.YtcggenpianpoiaaDoor
open Go.RowKit

theorem free_of_heap {w : World} {g j : Nat} {cur : Array Value} {e : TypeId} (h : w.heap[g]? = some (.cells cur e (0, 0))) : w.frozen? ⟨g, j, none⟩ = false := by simp [World.frozen?, h]

theorem heap_setCell {w : World} {g j : Nat} {cur : Array Value} {e : TypeId} {f : Nat × Nat} {v : Value} (h : w.heap[g]? = some (.cells cur e f)) : (w.setCell ⟨g, j, none⟩ v).heap[g]? = some (.cells (cur.setIfInBounds j v) e f) := by
  simp [World.setCell, Array.getElem?_modify, h]

def boxV (x : NodeM) : Value := .slice (some ⟨x.ptr, 0, none⟩) 0 0

theorem boxV_block (x : NodeM) : (boxV x).ownBlock = some x.ptr := rfl

theorem Nodes.below {w w' : World} {B : Nat} {T : List NodeM} (h : Nodes w B T) (hb : Below w.heap.size w w') : Nodes w' B T :=
  ⟨fun x hx => ⟨(h.box x hx).1, (hb.block _ (Array.getElem?_eq_some_iff.1 (h.box x hx).2).1).trans (h.box x hx).2⟩, fun x hx => row_below (h.ids x hx) hb, fun x hx => row_below (h.kid x hx) hb, h.apart⟩

theorem Apart3.symm {y z : NodeM} (h : Apart3 y z) : Apart3 z y := ⟨Ne.symm h.1, h.2.1.symm, h.2.2.symm⟩

/-- A row of another type than the nodes' lies in no node's block. -/
theorem box_apart {w : World} {B n size : Nat} {E : TypeId} {v : Value} {xs : List Value} {x : NodeM} (h : w.ownsRow B E size v n xs) (hx : BoxAt w x) (hne : E ≠ 83) : Apart v (boxV x) := by
  have := own_not_at h hx hne
  exact .inr this

def NewRow (w : World) (v : Value) : Prop := ∀ b, v.ownBlock = some b → w.heap.size ≤ b

theorem new_apart {w : World} {B n size : Nat} {E : TypeId} {v u : Value} {xs : List Value} (h : w.ownsRow B E size v n xs) (hu : NewRow w u) : Apart v u := by
  cases e : v.ownBlock with
  | none => exact .inl e
  | some b => exact .inr (fun e2 => by have h1 := (h.lt b e).2; have h2 := hu b (by rw [← e2, e]); omega)

/-- One node of T has become x' (its path and its block are as they were), one new node may have come, some others gone. -/
theorem Nodes.turn {w W : World} {B : Nat} {T T' : List NodeM} {x x' N : NodeM} (h : Nodes w B T) (hT' : TreeOk T') (hx : x ∈ T) (hg : GrownL w W [boxV x, x.idsV, x.kidsV]) (hpath : x'.path = x.path) (hptr : x'.ptr = x.ptr)
    (hbox : BoxAt W x') (hids : W.ownsRow B 2 1 x'.idsV x'.ids.length (ints x'.ids)) (hkid : W.ownsRow B 49 1 x'.kidsV (kids T' x.path).length (ptrs (kids T' x.path)))
    (hi : x'.idsV.ownBlock = x.idsV.ownBlock ∨ NewRow w x'.idsV) (hk : x'.kidsV.ownBlock = x.kidsV.ownBlock ∨ NewRow w x'.kidsV)
    (hmem : ∀ y ∈ T', (y ∈ T ∧ y.path ≠ x.path ∧ ptrs (kids T' y.path) = ptrs (kids T y.path)) ∨ y = x' ∨ y = N)
    (hN : N ∈ T' → N ≠ x' → N.path ≠ x.path ∧ B ≤ N.ptr ∧ w.heap.size ≤ N.ptr ∧ BoxAt W N ∧ W.ownsRow B 2 1 N.idsV N.ids.length (ints N.ids) ∧ W.ownsRow B 49 1 N.kidsV (kids T' N.path).length (ptrs (kids T' N.path)) ∧
      NewRow w N.idsV ∧ NewRow w N.kidsV ∧ Apart x'.idsV N.idsV ∧ Apart x'.kidsV N.kidsV) : Nodes W B T' := by
  have n1 : 2 ≠ 83 := by decide
  have n2 : 49 ≠ 83 := by decide
  have n3 : 2 ≠ 49 := by decide
  have hbx := (h.box x hx).2
  have kI : ∀ y ∈ T, y.path ≠ x.path → ∀ v ∈ [boxV x, x.idsV, x.kidsV], Apart y.idsV v := fun y hy hne v hv => by
    rcases List.mem_cons.1 hv with rfl | hv
    · exact box_apart (h.ids y hy) hbx n1
    · rcases List.mem_cons.1 hv with rfl | hv
      · exact (h.apart y hy x hx hne).2.1
      · rw [List.mem_singleton.1 hv]; exact apart_types (h.ids y hy) (h.kid x hx) n3
  have kK : ∀ y ∈ T, y.path ≠ x.path → ∀ v ∈ [boxV x, x.idsV, x.kidsV], Apart y.kidsV v := fun y hy hne v hv => by
    rcases List.mem_cons.1 hv with rfl | hv
    · exact box_apart (h.kid y hy) hbx n2
    · rcases List.mem_cons.1 hv with rfl | hv
      · exact apart_types (h.kid y hy) (h.ids x hx) (Ne.symm n3)
      · rw [List.mem_singleton.1 hv]; exact (h.apart y hy x hx hne).2.2
  have kB : ∀ y ∈ T, y.path ≠ x.path → BoxAt W y := fun y hy hne => by
    refine (hg.block y.ptr (Array.getElem?_eq_some_iff.1 (h.box y hy).2).1 fun v hv e => ?_).trans (h.box y hy).2
    rcases List.mem_cons.1 hv with rfl | hv
    · rw [boxV_block] at e; exact (h.apart y hy x hx hne).1 (Option.some.inj e).symm
    · rcases List.mem_cons.1 hv with rfl | hv
      · exact own_not_at (h.ids x hx) (h.box y hy).2 n1 e
      · rw [List.mem_singleton.1 hv] at e; exact own_not_at (h.kid x hx) (h.box y hy).2 n2 e
  have split : ∀ y ∈ T', (y ∈ T ∧ y.path ≠ x.path ∧ ptrs (kids T' y.path) = ptrs (kids T y.path)) ∨ y = x' ∨ (y = N ∧ N ≠ x') := fun y hy => by
    rcases hmem y hy with h1 | h1 | h1
    · exact .inl h1
    · exact .inr (.inl h1)
    · by_cases e : N = x'
      · exact .inr (.inl (h1.trans e))
      · exact .inr (.inr ⟨h1, e⟩)
  have old_x : ∀ y ∈ T, y.path ≠ x.path → Apart3 y x' := fun y hy hne => by
    refine ⟨by rw [hptr]; exact (h.apart y hy x hx hne).1, ?_, ?_⟩
    · rcases hi with e | e
      · have := (h.apart y hy x hx hne).2.1; unfold Apart at this ⊢; rw [e]; exact this
      · exact new_apart (h.ids y hy) e
    · rcases hk with e | e
      · have := (h.apart y hy x hx hne).2.2; unfold Apart at this ⊢; rw [e]; exact this
      · exact new_apart (h.kid y hy) e
  refine ⟨fun y hy => ?_, fun y hy => ?_, fun y hy => ?_, fun y hy z hz hne => ?_⟩
  · rcases split y hy with ⟨h1, h2, h3⟩ | rfl | ⟨rfl, he⟩
    · exact ⟨(h.box y h1).1, kB y h1 h2⟩
    · exact ⟨by rw [hptr]; exact (h.box x hx).1, hbox⟩
    · exact ⟨(hN hy he).2.1, (hN hy he).2.2.2.1⟩
  · rcases split y hy with ⟨h1, h2, h3⟩ | rfl | ⟨rfl, he⟩
    · exact own_keptL (h.ids y h1) hg (kI y h1 h2)
    · exact hids
    · exact (hN hy he).2.2.2.2.1
  · rcases split y hy with ⟨h1, h2, h3⟩ | rfl | ⟨rfl, he⟩
    · have := own_keptL (h.kid y h1) hg (kK y h1 h2)
      rw [← h3] at this
      have e : (kids T' y.path).length = (kids T y.path).length := by have := congrArg List.length h3; simpa [ptrs] using this
      rw [e]; exact this
    · rw [hpath]; exact hkid
    · exact (hN hy he).2.2.2.2.2.1
  · rcases split y hy with ⟨h1, h2, h3⟩ | rfl | ⟨rfl, he⟩
    · rcases split z hz with ⟨k1, k2, k3⟩ | rfl | ⟨rfl, he2⟩
      · exact h.apart y h1 z k1 hne
      · exact old_x y h1 h2
      · have hn := hN hz he2
        exact ⟨by have := (Array.getElem?_eq_some_iff.1 (h.box y h1).2).1; omega, new_apart (h.ids y h1) hn.2.2.2.2.2.2.1, new_apart (h.kid y h1) hn.2.2.2.2.2.2.2.1⟩
    · rcases split z hz with ⟨k1, k2, k3⟩ | rfl | ⟨rfl, he2⟩
      · exact (old_x z k1 k2).symm
      · exact absurd rfl hne
      · have hn := hN hz he2
        exact ⟨by have := (Array.getElem?_eq_some_iff.1 (h.box x hx).2).1; rw [hptr]; omega, hn.2.2.2.2.2.2.2.2.1, hn.2.2.2.2.2.2.2.2.2⟩
    · have hn := hN hy he
      rcases split z hz with ⟨k1, k2, k3⟩ | rfl | ⟨rfl, he2⟩
      · exact Apart3.symm (y := z) (z := y) ⟨by have := (Array.getElem?_eq_some_iff.1 (h.box z k1).2).1; omega, new_apart (h.ids z k1) hn.2.2.2.2.2.2.1, new_apart (h.kid z k1) hn.2.2.2.2.2.2.2.1⟩
      · exact Apart3.symm (y := z) (z := y) ⟨by have := (Array.getElem?_eq_some_iff.1 (h.box x hx).2).1; rw [hptr]; omega, hn.2.2.2.2.2.2.2.2.1, hn.2.2.2.2.2.2.2.2.2⟩
      · exact absurd rfl hne

end Go.Proofs.YtcggenpianpoiaaDoor
