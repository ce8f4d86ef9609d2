/- A change of named rows alone. -/
import Derived.Test.YtcggenpianpoiaaDoorOwn
namespace Go.Proofs.YtcggenpianpoiaaDoor
open Go.RowKit

/-- Nothing that was there has changed but in the own blocks of vs. -/
structure GrownL (w w' : World) (vs : List Value) : Prop where
  os : w'.os = w.os
  tape : w'.tape = w.tape
  output : w'.output = w.output
  size : w.heap.size ≤ w'.heap.size
  block : ∀ i, i < w.heap.size → (∀ x ∈ vs, x.ownBlock ≠ some i) → w'.heap[i]? = w.heap[i]?

theorem GrownL.refl (w : World) (vs : List Value) : GrownL w w vs := ⟨rfl, rfl, rfl, Nat.le_refl _, fun _ _ _ => rfl⟩
theorem GrownL.trans {a b c : World} {vs : List Value} (h : GrownL a b vs) (k : GrownL b c vs) : GrownL a c vs :=
  ⟨k.os.trans h.os, k.tape.trans h.tape, k.output.trans h.output, Nat.le_trans h.size k.size, fun i hi hx => (k.block i (Nat.lt_of_lt_of_le hi h.size) hx).trans (h.block i hi hx)⟩
theorem GrownL.below {a b : World} {vs : List Value} (h : Below a.heap.size a b) : GrownL a b vs := ⟨h.os, h.tape, h.output, h.size, fun i hi _ => h.block i hi⟩
theorem GrownL.grown {a b : World} {vs : List Value} {x : Value} (h : a.grownBy b x.ownBlock) (hx : x ∈ vs) : GrownL a b vs :=
  ⟨h.os, h.tape, h.output, h.size, fun i hi hn => h.block i hi (fun e => hn x hx e.symm)⟩
theorem GrownL.toBelow {a b : World} {vs : List Value} {B : Nat} (h : GrownL a b vs) (hB : B ≤ a.heap.size) (hv : ∀ x ∈ vs, ∀ k, x.ownBlock = some k → B ≤ k) : Below B a b :=
  ⟨h.os, h.tape, h.output, h.size, fun i hi => h.block i (by omega) (fun x hx e => by have := hv x hx i e; omega)⟩

/-- An own row of which the block is as it was. -/
theorem own_same {w w' : World} {B n size : Nat} {E : TypeId} {v : Value} {xs : List Value} (h : w.ownsRow B E size v n xs) (hs : ∀ b, v.ownBlock = some b → w'.heap[b]? = w.heap[b]?) : w'.ownsRow B E size v n xs := by
  refine ⟨h.1, ?_⟩
  rcases h.2 with h2 | ⟨g, cap, cur, rfl, hg, hh, r⟩
  · exact .inl h2
  · exact .inr ⟨g, cap, cur, rfl, hg, (hs g rfl).trans hh, r⟩

theorem own_keptL {w w' : World} {vs : List Value} {B n size : Nat} {E : TypeId} {v : Value} {xs : List Value} (h : w.ownsRow B E size v n xs) (hg : GrownL w w' vs) (ap : ∀ x ∈ vs, Apart v x) : w'.ownsRow B E size v n xs :=
  own_same h fun b hb => hg.block b (h.lt b hb).2 fun x hx e => by
    rcases ap x hx with h1 | h1
    · rw [hb] at h1; cases h1
    · exact h1 (hb.trans e.symm)

theorem KOwnU.keptL {w w' : World} {vs us : List Value} {B : Nat} {v : Value} {l : List KnotM} (h : KOwnU w B v l us) (hg : GrownL w w' vs) (ap : ∀ y ∈ v :: us, ∀ x ∈ vs, Apart y x) : KOwnU w' B v l us :=
  ⟨h.1, own_keptL h.2.1 hg (ap v (by simp)), fun j h1 h2 => own_keptL (h.2.2.1 j h1 h2) hg (ap _ (List.mem_cons_of_mem _ (List.getElem_mem h2))), h.2.2.2⟩

theorem GrownL.sub {a b : World} {vs us : List Value} (h : GrownL a b vs) (hs : ∀ x ∈ vs, x ∈ us) : GrownL a b us :=
  ⟨h.os, h.tape, h.output, h.size, fun i hi hx => h.block i hi fun x hv => hx x (hs x hv)⟩
theorem GrownL.setCell {a b : World} {vs : List Value} {x : Value} {g : Nat} (h : GrownL a b vs) (hx : x ∈ vs) (hg : x.ownBlock = some g) (j : Nat) (v : Value) : GrownL a (b.setCell ⟨g, j, none⟩ v) vs :=
  h.trans (.grown (x := x) (by rw [hg]; exact grown_setCell b g j v) hx)
theorem GrownL.alloc {a b : World} {vs : List Value} (h : GrownL a b vs) (o : Obj) : GrownL a (b.alloc o) vs := h.trans (.below ((Below.refl _ _).alloc (Nat.le_refl _) o))

end Go.Proofs.YtcggenpianpoiaaDoor
