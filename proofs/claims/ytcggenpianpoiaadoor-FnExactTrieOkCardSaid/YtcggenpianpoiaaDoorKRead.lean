/- Rows of knots that come in as arguments: what their cells hold. -/
import Derived.Test.YtcggenpianpoiaaDoorKnot
import Derived.Test.YtcggenpianpoiaaDoorSTopic
import Derived.Deep.Slices
import Derived.ChangeSame
namespace Go.Proofs.YtcggenpianpoiaaDoor
open Go.ChangeShapes Go.WideShapes Go.RowKit Go.Deep

section
variable {H : Type} {enc : TypeId × Value → H} {P : Program} {w : World} {base : Nat} {spare : Nat → Bool} {held : Bool}

/-- An address of which a first cell is there has no spot. -/
theorem addr_plain {a : Addr} {v : Value} (h : w.cell? a = some v) : a = ⟨a.block, a.off, none⟩ := by
  obtain ⟨b, o, s⟩ := a
  cases s with
  | none => rfl
  | some s =>
    unfold World.cell? at h
    split at h <;> simp at h

theorem addr_mk (b o n : Nat) : (⟨b, o, none⟩ : Addr).add n = ⟨b, o + n, none⟩ := by
  unfold Addr.add; split <;> simp_all

theorem ints_read {t e : TypeId} {fuel : Nat} {cs : List Value} {x : DataW H × List MemPlace} (ht : P.underlying t = some (.slice e)) (he : P.underlying e = some (.int .i64)) (hc : P.cellsOf e = 1)
    (h : DataW.trod enc P w base spare held fuel t cs = some x) : ∃ u l, cs = [u] ∧ IntsAt w u l := by
  rcases open_ints ht he hc h with ⟨rfl, _⟩ | ⟨a, len, cap, zs, rfl, _, hl, hm, hz, _, hcell, _⟩
  · exact ⟨_, [], rfl, none, 0, rfl, Nat.le_refl _, by unfold maxLen; omega, .inl rfl⟩
  · have hz2 : len ≤ zs.length := by rw [hz]; split <;> omega
    have hlen : (zs.take len).length = len := by rw [List.length_take]; omega
    refine ⟨_, zs.take len, rfl, _, cap, by rw [hlen], by omega, hm, ?_⟩
    by_cases h0 : len = 0
    · subst h0; exact .inl rfl
    · have ha : a = ⟨a.block, a.off, none⟩ := addr_plain (by have := hcell 0 (by omega); simpa [Addr.add] using this)
      refine .inr ⟨a.block, a.off, by rw [← ha], fun j hj => ?_⟩
      have hj2 : j < zs.length := by omega
      have := hcell j hj2
      rw [ha, addr_mk] at this
      rw [this, List.getElem_take, List.getD_eq_getElem?_getD, List.getElem?_eq_getElem hj2]; rfl

theorem knot_read {t ts ti ei : TypeId} {f0 f1 : Field} {fuel : Nat} {cs : List Value} {x : DataW H × List MemPlace} (ht : P.underlying t = some (.struct #[f0, f1])) (hC : P.cellsOf t = 2)
    (h0 : f0.type = ts) (o0 : f0.offset = 0) (h1 : f1.type = ti) (o1 : f1.offset = 1) (hs : P.underlying ts = some .string) (hcs : P.cellsOf ts = 1) (hti : P.underlying ti = some (.slice ei)) (hci : P.cellsOf ti = 1) (hei : P.underlying ei = some (.int .i64)) (hce : P.cellsOf ei = 1)
    (h : DataW.trod enc P w base spare held fuel t cs = some x) : ∃ p u l, cs = [.string p, u] ∧ p.size ≤ maxLen ∧ IntsAt w u l := by
  obtain ⟨y0, y1, n, _, hl, q0, q1⟩ := trod_struct2 ht h
  rw [hC] at hl
  match cs, hl with
  | [c0, c1], _ =>
    rw [h0, o0, hcs] at q0
    rw [h1, o1, hci] at q1
    obtain ⟨p, hp, _, hsz⟩ := DataW.trod_string hs q0
    obtain ⟨u, l, hu, hi⟩ := ints_read hti hei hce q1
    simp only [List.drop_zero, List.take_succ_cons, List.take_zero, List.cons.injEq, and_true] at hp
    simp only [List.drop_succ_cons, List.drop_zero, List.take_succ_cons, List.take_zero, List.cons.injEq, and_true] at hu
    subst hp hu
    exact ⟨p, _, l, rfl, hsz, hi⟩

theorem knots_read {tt t ts ti ei : TypeId} {f0 f1 : Field} {fuel : Nat} {cs : List Value} {x : DataW H × List MemPlace} (htt : P.underlying tt = some (.slice t)) (ht : P.underlying t = some (.struct #[f0, f1])) (hC : P.cellsOf t = 2)
    (h0 : f0.type = ts) (o0 : f0.offset = 0) (h1 : f1.type = ti) (o1 : f1.offset = 1) (hs : P.underlying ts = some .string) (hcs : P.cellsOf ts = 1) (hti : P.underlying ti = some (.slice ei)) (hci : P.cellsOf ti = 1) (hei : P.underlying ei = some (.int .i64)) (hce : P.cellsOf ei = 1)
    (h : DataW.trod enc P w base spare held fuel tt cs = some x) : ∃ v l, cs = [v] ∧ KnotsAt w v l ∧ ∀ y ∈ l, y.1.size ≤ maxLen := by
  rcases open_slice htt h with ⟨rfl, _⟩ | ⟨a, len, cap, m, n, D, Pl, rfl, _, hl, hm, hmm, _, hx⟩
  · exact ⟨_, [], rfl, ⟨none, 0, rfl, Nat.le_refl _, by unfold maxLen; omega, .inl rfl⟩, by simp⟩
  · have hlm : len ≤ m := by rw [hmm]; split <;> omega
    have hk : ∀ i, i < len → ∃ y : KnotM, y.1.size ≤ maxLen ∧ w.cell? (a.add (i * 2)) = some (.string y.1) ∧ ∃ u, w.cell? ((a.add (i * 2)).add 1) = some u ∧ IntsAt w u y.2 := fun i hi => by
      obtain ⟨cs', e1, e2⟩ := hx i (by omega)
      rw [hC] at e1
      obtain ⟨_, _, hat⟩ := World.cells?_some e1
      obtain ⟨p, u, l, rfl, hsz, hi⟩ := knot_read ht hC h0 o0 h1 o1 hs hcs hti hci hei hce e2
      refine ⟨(p, l), hsz, ?_, u, ?_, hi⟩
      · have := hat 0 (by omega); simpa [Addr.add] using this
      · have := hat 1 (by omega); simpa using this
    have : Inhabited KnotM := ⟨(⟨#[]⟩, [])⟩
    obtain ⟨f, hf⟩ := choose_lt hk
    refine ⟨_, (List.range len).map f, rfl, ⟨some a, cap, by simp, by simpa using hl, hm, ?_⟩, fun y hy => ?_⟩
    · by_cases h00 : len = 0
      · subst h00; exact .inl rfl
      · have ha : a = ⟨a.block, a.off, none⟩ := addr_plain (by have := (hf 0 (by omega)).2.1; simpa [Addr.add] using this)
        refine .inr ⟨a.block, a.off, by rw [← ha], fun j hj => ?_⟩
        simp only [List.length_map, List.length_range] at hj
        obtain ⟨_, c1, u, c2, hi⟩ := hf j hj
        simp only [List.getElem_map, List.getElem_range]
        rw [ha, addr_mk] at c1 c2
        rw [addr_mk] at c2
        exact ⟨c1, u, c2, hi⟩
    · obtain ⟨i, hi, rfl⟩ := List.mem_map.1 hy
      exact (hf i (List.mem_range.1 hi)).1

end

end Go.Proofs.YtcggenpianpoiaaDoor
