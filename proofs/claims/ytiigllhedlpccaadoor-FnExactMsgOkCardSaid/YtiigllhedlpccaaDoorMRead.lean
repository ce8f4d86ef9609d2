/- Messages, rows of them and rings that come in as arguments: what their cells hold. -/
import Derived.Test.YtiigllhedlpccaaDoorMsg
import Derived.Test.YtiigllhedlpccaaDoorSTopic
import Derived.Deep.Slices
import Derived.ChangeSame
namespace Go.Proofs.YtiigllhedlpccaaDoor
open Go.ChangeShapes Go.WideShapes Go.RowKit Go.Deep

section
variable {H : Type} {enc : TypeId × Value → H} {P : Program} {w : World} {base : Nat} {spare : Nat → Bool} {held : Bool}

/-- An address of which a first cell is there has no spot. -/
theorem addr_plainM {a : Addr} {v : Value} (h : w.cell? a = some v) : a = ⟨a.block, a.off, none⟩ := by
  obtain ⟨b, o, s⟩ := a
  cases s with
  | none => rfl
  | some s =>
    unfold World.cell? at h
    split at h <;> simp at h

theorem addr_mkM (b o n : Nat) : (⟨b, o, none⟩ : Addr).add n = ⟨b, o + n, none⟩ := by
  unfold Addr.add; split <;> simp_all

theorem trod_struct4 {t : TypeId} {f0 f1 f2 f3 : Field} {fuel : Nat} {cs : List Value} {x : DataW H × List MemPlace} (ht : P.underlying t = some (.struct #[f0, f1, f2, f3])) (h : DataW.trod enc P w base spare held fuel t cs = some x) :
    ∃ y0 y1 y2 y3 n, cs.length = P.cellsOf t ∧ DataW.trod enc P w base spare held n f0.type ((cs.drop f0.offset).take (P.cellsOf f0.type)) = some y0 ∧
      DataW.trod enc P w base spare held n f1.type ((cs.drop f1.offset).take (P.cellsOf f1.type)) = some y1 ∧ DataW.trod enc P w base spare held n f2.type ((cs.drop f2.offset).take (P.cellsOf f2.type)) = some y2 ∧
      DataW.trod enc P w base spare held n f3.type ((cs.drop f3.offset).take (P.cellsOf f3.type)) = some y3 := by
  obtain ⟨xs, n, _, rfl, hl, hlen, hf⟩ := DataW.trod_struct ht h
  match xs, hlen with
  | [y0, y1, y2, y3], _ => exact ⟨y0, y1, y2, y3, n, hl, by simpa using hf 0 f0 rfl, by simpa using hf 1 f1 rfl, by simpa using hf 2 f2 rfl, by simpa using hf 3 f3 rfl⟩

theorem msg_read {t ti ts : TypeId} {f0 f1 f2 f3 : Field} {fuel : Nat} {cs : List Value} {x : DataW H × List MemPlace} (ht : P.underlying t = some (.struct #[f0, f1, f2, f3])) (hC : P.cellsOf t = 4)
    (h0 : f0.type = ti ∧ f0.offset = 0) (h1 : f1.type = ti ∧ f1.offset = 1) (h2 : f2.type = ts ∧ f2.offset = 2) (h3 : f3.type = ti ∧ f3.offset = 3)
    (hi : P.underlying ti = some (.int .i64)) (hci : P.cellsOf ti = 1) (hs : P.underlying ts = some .string) (hcs : P.cellsOf ts = 1)
    (h : DataW.trod enc P w base spare held fuel t cs = some x) : ∃ y : MsgM, cs = mval y ∧ y.2.2.1.size ≤ maxLen := by
  obtain ⟨y0, y1, y2, y3, n, hl, q0, q1, q2, q3⟩ := trod_struct4 ht h
  rw [hC] at hl
  match cs, hl with
  | [c0, c1, c2, c3], _ =>
    rw [h0.1, h0.2, hci] at q0
    rw [h1.1, h1.2, hci] at q1
    rw [h2.1, h2.2, hcs] at q2
    rw [h3.1, h3.2, hci] at q3
    obtain ⟨a, e0, _, _⟩ := DataW.trod_int hi q0
    obtain ⟨b, e1, _, _⟩ := DataW.trod_int hi q1
    obtain ⟨p, e2, _, hsz⟩ := DataW.trod_string hs q2
    obtain ⟨d, e3, _, _⟩ := DataW.trod_int hi q3
    simp only [List.drop_zero, List.take_succ_cons, List.take_zero, List.cons.injEq, and_true, List.drop_succ_cons] at e0 e1 e2 e3
    subst e0 e1 e2 e3
    exact ⟨(a, b, p, d), rfl, hsz⟩

theorem msgs_read {tt t ti ts : TypeId} {f0 f1 f2 f3 : Field} {fuel : Nat} {cs : List Value} {x : DataW H × List MemPlace} (htt : P.underlying tt = some (.slice t)) (ht : P.underlying t = some (.struct #[f0, f1, f2, f3])) (hC : P.cellsOf t = 4)
    (h0 : f0.type = ti ∧ f0.offset = 0) (h1 : f1.type = ti ∧ f1.offset = 1) (h2 : f2.type = ts ∧ f2.offset = 2) (h3 : f3.type = ti ∧ f3.offset = 3)
    (hi : P.underlying ti = some (.int .i64)) (hci : P.cellsOf ti = 1) (hs : P.underlying ts = some .string) (hcs : P.cellsOf ts = 1)
    (h : DataW.trod enc P w base spare held fuel tt cs = some x) : ∃ v l, cs = [v] ∧ MsgsAt w v l ∧ ∀ y ∈ l, y.2.2.1.size ≤ maxLen := by
  rcases open_slice htt h with ⟨rfl, _⟩ | ⟨a, len, cap, m, n, D, Pl, rfl, _, hl, hm, hmm, _, hx⟩
  · exact ⟨_, [], rfl, ⟨none, 0, rfl, Nat.le_refl _, by unfold maxLen; omega, .inl rfl⟩, by simp⟩
  · have hlm : len ≤ m := by rw [hmm]; split <;> omega
    have hk : ∀ i, i < len → ∃ y : MsgM, y.2.2.1.size ≤ maxLen ∧ w.cell? (a.add (i * 4)) = some (.int .i64 y.1) ∧ w.cell? ((a.add (i * 4)).add 1) = some (.int .i64 y.2.1) ∧ w.cell? ((a.add (i * 4)).add 2) = some (.string y.2.2.1) ∧ w.cell? ((a.add (i * 4)).add 3) = some (.int .i64 y.2.2.2) := fun i hi' => by
      obtain ⟨cs', e1, e2⟩ := hx i (by omega)
      rw [hC] at e1
      obtain ⟨_, _, hat⟩ := World.cells?_some e1
      obtain ⟨y, rfl, hsz⟩ := msg_read ht hC h0 h1 h2 h3 hi hci hs hcs e2
      refine ⟨y, hsz, ?_, ?_, ?_, ?_⟩
      · have := hat 0 (by omega); simpa [Addr.add, mval] using this
      · have := hat 1 (by omega); simpa [mval] using this
      · have := hat 2 (by omega); simpa [mval] using this
      · have := hat 3 (by omega); simpa [mval] using this
    have : Inhabited MsgM := ⟨(0, 0, ⟨#[]⟩, 0)⟩
    obtain ⟨f, hf⟩ := choose_lt hk
    refine ⟨_, (List.range len).map f, rfl, ⟨some a, cap, by simp, by simpa using hl, hm, ?_⟩, fun y hy => ?_⟩
    · by_cases h00 : len = 0
      · subst h00; exact .inl rfl
      · have ha : a = ⟨a.block, a.off, none⟩ := addr_plainM (by have := (hf 0 (by omega)).2.1; simpa [Addr.add] using this)
        refine .inr ⟨a.block, a.off, by rw [← ha], fun j hj => ?_⟩
        simp only [List.length_map, List.length_range] at hj
        obtain ⟨_, c1, c2, c3, c4⟩ := hf j hj
        simp only [List.getElem_map, List.getElem_range]
        rw [ha, addr_mkM] at c1 c2 c3 c4
        rw [addr_mkM] at c2 c3 c4
        exact ⟨c1, c2, c3, c4⟩
    · obtain ⟨i, hi, rfl⟩ := List.mem_map.1 hy
      exact (hf i (List.mem_range.1 hi)).1

theorem ring_read {tr tt t ti ts : TypeId} {g0 g1 f0 f1 f2 f3 : Field} {fuel : Nat} {cs : List Value} {x : DataW H × List MemPlace} (hr : P.underlying tr = some (.struct #[g0, g1])) (hR : P.cellsOf tr = 2)
    (hg0 : g0.type = ti ∧ g0.offset = 0) (hg1 : g1.type = tt ∧ g1.offset = 1) (hctt : P.cellsOf tt = 1)
    (htt : P.underlying tt = some (.slice t)) (ht : P.underlying t = some (.struct #[f0, f1, f2, f3])) (hC : P.cellsOf t = 4)
    (h0 : f0.type = ti ∧ f0.offset = 0) (h1 : f1.type = ti ∧ f1.offset = 1) (h2 : f2.type = ts ∧ f2.offset = 2) (h3 : f3.type = ti ∧ f3.offset = 3)
    (hi : P.underlying ti = some (.int .i64)) (hci : P.cellsOf ti = 1) (hs : P.underlying ts = some .string) (hcs : P.cellsOf ts = 1)
    (h : DataW.trod enc P w base spare held fuel tr cs = some x) : ∃ cap v l, cs = [.int .i64 cap, v] ∧ MsgsAt w v l ∧ ∀ y ∈ l, y.2.2.1.size ≤ maxLen := by
  obtain ⟨y0, y1, n, _, hl, q0, q1⟩ := trod_struct2 hr h
  rw [hR] at hl
  match cs, hl with
  | [c0, c1], _ =>
    rw [hg0.1, hg0.2, hci] at q0
    rw [hg1.1, hg1.2, hctt] at q1
    obtain ⟨a, e0, _, _⟩ := DataW.trod_int hi q0
    obtain ⟨v, l, e1, hv, hsz⟩ := msgs_read htt ht hC h0 h1 h2 h3 hi hci hs hcs q1
    simp only [List.drop_zero, List.take_succ_cons, List.take_zero, List.cons.injEq, and_true, List.drop_succ_cons] at e0 e1
    subst e0 e1
    exact ⟨a, _, l, rfl, hv, hsz⟩

end

end Go.Proofs.YtiigllhedlpccaaDoor
