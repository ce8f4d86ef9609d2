/- Rows that a call owns: of numbers, of knots; the copies that the exact laws make of their arguments. -/
import Derived.Test.YtcpoodhbakkmcaaGreatDoorZB1
import Derived.OwnWalk
import Derived.Laws.OwnMore
set_option linter.unusedSimpArgs false
set_option linter.unusedVariables false
namespace Go.Proofs.YtcpoodhbakkmcaaGreatDoor
open Go.RowKit

def ints (l : List Int) : List Value := l.map (.int .i64)
def kcells : List KnotM → List Value → List Value
  | x :: l, u :: us => .string x.1 :: u :: kcells l us
  | _, _ => []

/-- Two rows that lie in different blocks. -/
def Apart (a b : Value) : Prop := a.ownBlock = none ∨ a.ownBlock ≠ b.ownBlock

/-- v is an own row of the knots l; the rows of numbers us are own rows too; no two share a block. -/
def KOwnU (w : World) (B : Nat) (v : Value) (l : List KnotM) (us : List Value) : Prop :=
  us.length = l.length ∧ w.ownsRow B 43 2 v l.length (kcells l us) ∧
    (∀ j (h : j < l.length) (h2 : j < us.length), w.ownsRow B 2 1 us[j] l[j].2.length (ints l[j].2)) ∧ (v :: us).Pairwise Apart

def KOwn (w : World) (B : Nat) (v : Value) (l : List KnotM) : Prop := ∃ us, KOwnU w B v l us

theorem kcells_length : ∀ (l : List KnotM) (us : List Value), us.length = l.length → (kcells l us).length = l.length * 2
  | [], _, _ => by simp [kcells]
  | x :: l, u :: us, h => by simp only [List.length_cons, Nat.add_right_cancel_iff] at h; simp only [kcells, List.length_cons, kcells_length l us h]; omega
  | x :: l, [], h => by simp at h

theorem kcells_path : ∀ (l : List KnotM) (us : List Value) (j : Nat) (h : j < l.length), us.length = l.length → (kcells l us)[j * 2]? = some (.string l[j].1)
  | x :: l, u :: us, 0, _, _ => rfl
  | x :: l, u :: us, j + 1, h, e => by
    simp only [List.length_cons, Nat.add_right_cancel_iff] at e
    rw [show (j + 1) * 2 = j * 2 + 1 + 1 by omega]
    simp only [kcells, List.getElem?_cons_succ, List.getElem_cons_succ]
    exact kcells_path l us j (by simpa using h) e
  | x :: l, [], _, _, e => by simp at e

theorem kcells_ids : ∀ (l : List KnotM) (us : List Value) (j : Nat) (h : j < us.length), us.length = l.length → (kcells l us)[j * 2 + 1]? = some us[j]
  | x :: l, u :: us, 0, _, _ => rfl
  | x :: l, u :: us, j + 1, h, e => by
    simp only [List.length_cons, Nat.add_right_cancel_iff] at e
    rw [show (j + 1) * 2 + 1 = j * 2 + 1 + 1 + 1 by omega]
    simp only [kcells, List.getElem?_cons_succ, List.getElem_cons_succ]
    exact kcells_ids l us j (by simpa using h) e
  | [], u :: us, _, _, e => by simp at e

theorem kcells_set : ∀ (l : List KnotM) (us : List Value) (j : Nat) (x : KnotM) (u : Value), us.length = l.length → j < l.length →
    ((kcells l us).set (j * 2) (.string x.1)).set (j * 2 + 1) u = kcells (l.set j x) (us.set j u)
  | y :: l, v :: us, 0, x, u, _, _ => rfl
  | y :: l, v :: us, j + 1, x, u, e, h => by
    simp only [List.length_cons, Nat.add_right_cancel_iff] at e
    rw [show (j + 1) * 2 = j * 2 + 1 + 1 by omega]
    simp only [kcells, List.set_cons_succ]
    rw [kcells_set l us j x u e (by simpa using h)]
  | y :: l, [], _, _, _, e, _ => by simp at e

/-- An own row of numbers reads as them. -/
theorem own_ints_at {w : World} {B n : Nat} {v : Value} {l : List Int} (h : w.ownsRow B 2 1 v n (ints l)) : IntsAt w v l := by
  have hn : l.length = n := by have := h.1; simpa [ints] using this
  rcases h.2 with ⟨rfl, h0⟩ | ⟨g, cap, cur, rfl, _, _, h3, h4, _, _⟩
  · exact ⟨none, 0, by rw [hn, h0], by omega, by unfold maxLen; omega, .inl (List.length_eq_zero_iff.1 (by omega))⟩
  · refine ⟨_, cap, by rw [hn], by omega, h4, .inr ⟨g, 0, rfl, fun j hj => ?_⟩⟩
    have := h.cellAt j (by omega)
    rw [Nat.zero_add, this, ints, List.getElem?_map, List.getElem?_eq_getElem hj]; rfl

/-- An own row of knots reads as them. -/
theorem own_knots_at {w : World} {B : Nat} {v : Value} {l : List KnotM} (h : KOwn w B v l) : KnotsAt w v l := by
  obtain ⟨us, h1, h2, h3, _⟩ := h
  rcases h2.2 with ⟨rfl, h0⟩ | ⟨g, cap, cur, rfl, _, _, h4, h5, _, _⟩
  · exact ⟨none, 0, by rw [h0], by omega, by unfold maxLen; omega, .inl (List.length_eq_zero_iff.1 h0)⟩
  · refine ⟨_, cap, rfl, h4, h5, .inr ⟨g, 0, rfl, fun j hj => ⟨?_, us[j], ?_, own_ints_at (h3 j hj (by omega))⟩⟩⟩
    · rw [Nat.zero_add, h2.cellAt _ (by omega), kcells_path l us j hj h1]
    · rw [Nat.zero_add, h2.cellAt _ (by omega), kcells_ids l us j (by omega) h1]

theorem KOwnU.below {w w' : World} {B : Nat} {v : Value} {l : List KnotM} {us : List Value} (h : KOwnU w B v l us) (hb : Below w.heap.size w w') : KOwnU w' B v l us :=
  ⟨h.1, row_below h.2.1 hb, fun j h1 h2 => row_below (h.2.2.1 j h1 h2) hb, h.2.2.2⟩
theorem KOwn.below {w w' : World} {B : Nat} {v : Value} {l : List KnotM} (h : KOwn w B v l) (hb : Below w.heap.size w w') : KOwn w' B v l := by
  obtain ⟨us, h⟩ := h; exact ⟨us, h.below hb⟩

theorem madeCells_two (x : KnotM) (u : Value) (n : Nat) : (madeCells #[.string x.1, u] (n * 2)).toList = kcells (List.replicate n x) (List.replicate n u) := by
  have hl := kcells_length (List.replicate n x) (List.replicate n u) (by simp)
  rw [List.length_replicate] at hl
  apply List.ext_getElem?
  intro i
  by_cases hi : i < n * 2
  · obtain ⟨j, hj | hj⟩ : ∃ j, i = j * 2 ∨ i = j * 2 + 1 := ⟨i / 2, by omega⟩
    · subst hj
      rw [kcells_path _ _ j (by simp; omega) (by simp)]
      simp [madeCells, hi]
    · subst hj
      rw [kcells_ids _ _ j (by simp; omega) (by simp)]
      simp [madeCells, hi, Nat.add_mod]
  · rw [List.getElem?_eq_none (by simp [size_madeCells]; omega), List.getElem?_eq_none (by omega)]

theorem ints_zero (n : Nat) : (madeCells #[.int .i64 0] n).toList = ints (List.replicate n 0) := by
  rw [toList_madeCells_one, ints, List.map_replicate]

theorem ints_set (l : List Int) (k : Nat) (x : Int) : (ints l).set k (.int .i64 x) = ints (l.set k x) := by simp [ints, List.map_set]

/-- A store elsewhere leaves an own row as it is. -/
theorem own_far {w : World} {B n size g j : Nat} {E : TypeId} {u v : Value} {xs : List Value} (h : w.ownsRow B E size v n xs) (hg : g < B) : (w.setCell ⟨g, j, none⟩ u).ownsRow B E size v n xs :=
  h.kept (grown_setCell w g j u) (by
    cases e : v.ownBlock with
    | none => exact .inl rfl
    | some k => exact .inr (by have := (h.lt k e).1; intro e2; cases e2; omega))

theorem Apart.symm {a b : Value} (h : Apart a b) : Apart b a := by
  rcases h with h | h
  · cases e : b.ownBlock with
    | none => exact .inl e
    | some x => exact .inr (by rw [h, e]; exact fun h => by cases h)
  · exact .inr (fun e => h e.symm)

theorem apart_set {v u : Value} {us : List Value} {k : Nat} (h : (v :: us).Pairwise Apart) (hu : ∀ x ∈ v :: us, Apart u x) : (v :: us.set k u).Pairwise Apart := by
  rw [List.pairwise_cons] at h ⊢
  refine ⟨fun a ha => ?_, ?_⟩
  · rcases List.mem_or_eq_of_mem_set ha with h1 | rfl
    · exact h.1 a h1
    · exact (hu v (by simp)).symm
  · have h2 := h.2
    rw [List.pairwise_iff_getElem] at h2 ⊢
    intro i j hi hj hij
    rw [List.length_set] at hi hj
    rw [List.getElem_set, List.getElem_set]
    split <;> split
    · omega
    · exact hu _ (List.mem_cons_of_mem _ (List.getElem_mem hj))
    · exact (hu _ (List.mem_cons_of_mem _ (List.getElem_mem hi))).symm
    · exact h2 i j hi hj hij

theorem KOwnU.lt {w : World} {B : Nat} {v : Value} {l : List KnotM} {us : List Value} (h : KOwnU w B v l us) : ∀ x ∈ v :: us, ∀ b, x.ownBlock = some b → B ≤ b ∧ b < w.heap.size := by
  intro x hx b hb
  rcases List.mem_cons.1 hx with rfl | hx
  · exact h.2.1.lt b hb
  · obtain ⟨j, hj, rfl⟩ := List.mem_iff_getElem.1 hx
    exact (h.2.2.1 j (by have := h.1; omega) hj).lt b hb

/-- A knot laid into its place: a new text, and a new row of numbers that was made later than all the others. -/
theorem KOwnU.put {w : World} {B g n cap k N : Nat} {l : List KnotM} {us : List Value} {x : KnotM} {u : Value} (h : KOwnU w B (.slice (some ⟨g, 0, none⟩) n cap) l us) (hn : n = l.length) (hk : k < l.length)
    (ho : w.ownsRow B 2 1 u x.2.length (ints x.2)) (hN : ∀ y ∈ (.slice (some ⟨g, 0, none⟩) n cap) :: us, ∀ b, y.ownBlock = some b → b < N) (hu : ∀ b, u.ownBlock = some b → N ≤ b) :
    KOwnU ((w.setCell ⟨g, k * 2, none⟩ (.string x.1)).setCell ⟨g, k * 2 + 1, none⟩ u) B (.slice (some ⟨g, 0, none⟩) n cap) (l.set k x) (us.set k u) := by
  subst hn
  have hap := h.2.2.2
  have hg : g < N := hN _ List.mem_cons_self g rfl
  have hug : u.ownBlock ≠ some g := fun e => by have := hu g e; omega
  refine ⟨by simp [h.1], ?_, fun j h1 h2 => ?_, apart_set hap fun y hy => ?_⟩
  · rw [List.length_set, ← kcells_set l us k x u h.1 hk]
    exact ((h.2.1.stored _ _).1.stored _ _).1
  · rw [List.length_set] at h1 h2
    rw [List.getElem_set]
    simp only [List.getElem_set]
    split
    · exact own_kept (own_kept ho hug) hug
    · have hne : us[j].ownBlock ≠ some g := by
        have := (List.pairwise_cons.1 hap).1 us[j] (List.getElem_mem _)
        rcases this with h | h
        · cases h
        · exact fun e => h e.symm
      exact own_kept (own_kept (h.2.2.1 j h1 h2) hne) hne
  · cases e : u.ownBlock with
    | none => exact .inl e
    | some b => exact .inr (fun e2 => by have h1 := hu b e; have h2 := hN y hy b (by rw [← e2, e]); omega)

def knotZ : KnotM := (⟨#[]⟩, [])

end Go.Proofs.YtcpoodhbakkmcaaGreatDoor
