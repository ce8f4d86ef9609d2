/- Brokers that come in as arguments: what their cells hold. -/
import Derived.Test.YtmfbffhbgelnnaaGreatDoorZB3
import Derived.Test.YtmfbffhbgelnnaaGreatDoorZSzSub
set_option linter.unusedSimpArgs false
set_option linter.unusedVariables false
namespace Go.Proofs.YtmfbffhbgelnnaaGreatDoor
open Go.ChangeShapes Go.WideShapes Go.RowKit Go.Deep

section
variable {H : Type} {enc : TypeId × Value → H} {w : World} {base : Nat} {spare : Nat → Bool} {held : Bool}

theorem trod_struct3 {P : Program} {t : TypeId} {f0 f1 f2 : Field} {fuel : Nat} {cs : List Value} {x : DataW H × List MemPlace} (ht : P.underlying t = some (.struct #[f0, f1, f2])) (h : DataW.trod enc P w base spare held fuel t cs = some x) :
    ∃ n, cs.length = P.cellsOf t ∧ ∀ (j : Nat) (f : Field), [f0, f1, f2][j]? = some f → ∃ y, DataW.trod enc P w base spare held n f.type ((cs.drop f.offset).take (P.cellsOf f.type)) = some y := by
  obtain ⟨xs, n, _, rfl, hl, hlen, hf⟩ := DataW.trod_struct ht h
  match xs, hlen with
  | [y0, y1, y2], _ =>
    refine ⟨n, hl, fun j f hj => ?_⟩
    match j with
    | 0 => cases hj; exact ⟨y0, by simpa using hf 0 f0 rfl⟩
    | 1 => cases hj; exact ⟨y1, by simpa using hf 1 f1 rfl⟩
    | 2 => cases hj; exact ⟨y2, by simpa using hf 2 f2 rfl⟩
    | j + 3 => simp at hj
theorem trod_struct7 {P : Program} {t : TypeId} {f0 f1 f2 f3 f4 f5 f6 : Field} {fuel : Nat} {cs : List Value} {x : DataW H × List MemPlace} (ht : P.underlying t = some (.struct #[f0, f1, f2, f3, f4, f5, f6])) (h : DataW.trod enc P w base spare held fuel t cs = some x) :
    ∃ n, cs.length = P.cellsOf t ∧ ∀ (j : Nat) (f : Field), [f0, f1, f2, f3, f4, f5, f6][j]? = some f → ∃ y, DataW.trod enc P w base spare held n f.type ((cs.drop f.offset).take (P.cellsOf f.type)) = some y := by
  obtain ⟨xs, n, _, rfl, hl, hlen, hf⟩ := DataW.trod_struct ht h
  match xs, hlen with
  | [y0, y1, y2, y3, y4, y5, y6], _ =>
    refine ⟨n, hl, fun j f hj => ?_⟩
    match j with
    | 0 => cases hj; exact ⟨y0, by simpa using hf 0 f0 rfl⟩
    | 1 => cases hj; exact ⟨y1, by simpa using hf 1 f1 rfl⟩
    | 2 => cases hj; exact ⟨y2, by simpa using hf 2 f2 rfl⟩
    | 3 => cases hj; exact ⟨y3, by simpa using hf 3 f3 rfl⟩
    | 4 => cases hj; exact ⟨y4, by simpa using hf 4 f4 rfl⟩
    | 5 => cases hj; exact ⟨y5, by simpa using hf 5 f5 rfl⟩
    | 6 => cases hj; exact ⟨y6, by simpa using hf 6 f6 rfl⟩
    | j + 7 => simp at hj

set_option maxRecDepth 100000 in
theorem sub_read {fuel : Nat} {cs : List Value} {x : DataW H × List MemPlace} (h : DataW.trod enc Tryz.prog w base spare held fuel 89 cs = some x) :
    ∃ (s : SubM) (v : Value), cs = scells s v ∧ MsgsAt w v s.box.q ∧ s.fil.size ≤ maxLen ∧ ∀ y ∈ s.box.q, y.2.2.1.size ≤ maxLen := by
  obtain ⟨n, hl, hf⟩ := trod_struct3 Tryz.underlying89 h
  rw [show Tryz.prog.cellsOf 89 = 10 by kernel_rfl] at hl
  match cs, hl with
  | [c0, c1, c2, c3, c4, c5, c6, c7, c8, c9], _ =>
    obtain ⟨y0, q0⟩ := hf 0 _ rfl
    obtain ⟨y1, q1⟩ := hf 1 _ rfl
    obtain ⟨y2, q2⟩ := hf 2 _ rfl
    dsimp only at q0 q1 q2
    rw [show Tryz.prog.cellsOf 9 = 1 by kernel_rfl] at q0
    rw [show Tryz.prog.cellsOf 87 = 8 by kernel_rfl] at q1
    rw [show Tryz.prog.cellsOf 4 = 1 by kernel_rfl] at q2
    obtain ⟨p, e0, _, hsz⟩ := DataW.trod_string Tryz.underlying9 q0
    obtain ⟨b, v, e1, hv, hm⟩ := box_read Tryz.underlying87 (by kernel_rfl) ⟨rfl, rfl⟩ ⟨rfl, rfl⟩ ⟨rfl, rfl⟩ ⟨rfl, rfl⟩ ⟨rfl, rfl⟩ ⟨rfl, rfl⟩ ⟨rfl, rfl⟩ ⟨rfl, rfl⟩ (by kernel_rfl) Tryz.underlying4 (by kernel_rfl) Tryz.underlying24 Tryz.underlying95 (by kernel_rfl) ⟨rfl, rfl⟩ ⟨rfl, rfl⟩ ⟨rfl, rfl⟩ ⟨rfl, rfl⟩ Tryz.underlying2 (by kernel_rfl) Tryz.underlying9 (by kernel_rfl) q1
    obtain ⟨z, e2, _⟩ := DataW.trod_bool Tryz.underlying4 q2
    simp only [List.drop_zero, List.take_succ_cons, List.take_zero, List.cons.injEq, and_true, List.drop_succ_cons, and_true] at e0 e1 e2
    obtain ⟨rfl, rfl, rfl, rfl, rfl, rfl, rfl, rfl⟩ := e1
    subst e0 e2
    exact ⟨⟨p, b, z⟩, _, rfl, hv, hsz, hm⟩

set_option maxRecDepth 100000 in
theorem subs_read {fuel : Nat} {cs : List Value} {x : DataW H × List MemPlace} (h : DataW.trod enc Tryz.prog w base spare held fuel 22 cs = some x) :
    ∃ v l, cs = [v] ∧ SubsAt w v l ∧ ∀ s ∈ l, s.fil.size ≤ maxLen ∧ ∀ y ∈ s.box.q, y.2.2.1.size ≤ maxLen := by
  rcases open_slice Tryz.underlying22 h with ⟨rfl, _⟩ | ⟨a, len, cap, m, n, D, Pl, rfl, _, hl, hm, hmm, _, hx⟩
  · exact ⟨_, [], rfl, ⟨none, 0, rfl, Nat.le_refl _, by unfold maxLen; omega, .inl rfl⟩, by simp⟩
  · have hlm : len ≤ m := by rw [hmm]; split <;> omega
    have hk : ∀ i, i < len → ∃ y : SubM, (y.fil.size ≤ maxLen ∧ ∀ z ∈ y.box.q, z.2.2.1.size ≤ maxLen) ∧ ∃ u, MsgsAt w u y.box.q ∧ ∀ j v, (scells y u)[j]? = some v → w.cell? ((a.add (i * 10)).add j) = some v := fun i hi' => by
      obtain ⟨cs', e1, e2⟩ := hx i (by omega)
      rw [show Tryz.prog.cellsOf 89 = 10 by kernel_rfl] at e1
      obtain ⟨_, _, hat⟩ := World.cells?_some e1
      obtain ⟨y, u, rfl, hv, hs1, hs2⟩ := sub_read e2
      refine ⟨y, ⟨hs1, hs2⟩, u, hv, fun j v hj => ?_⟩
      have hj2 : j < 10 := (List.getElem?_eq_some_iff.1 hj).1
      have := hat j hj2
      rw [this, hj]
    have : Inhabited SubM := ⟨⟨⟨#[]⟩, zeroBox, false⟩⟩
    obtain ⟨f, hf⟩ := choose_lt hk
    refine ⟨_, (List.range len).map f, rfl, ⟨some a, cap, by simp, by simpa using hl, hm, ?_⟩, fun y hy => ?_⟩
    · by_cases h00 : len = 0
      · subst h00; exact .inl rfl
      · have ha : a = ⟨a.block, a.off, none⟩ := addr_plainM (by obtain ⟨_, u, _, hc⟩ := hf 0 (by omega); have := hc 0 _ rfl; simpa [Addr.add] using this)
        refine .inr ⟨a.block, a.off, by rw [← ha], fun j hj => ?_⟩
        simp only [List.length_map, List.length_range] at hj
        obtain ⟨_, u, hv, hc⟩ := hf j hj
        simp only [List.getElem_map, List.getElem_range]
        refine ⟨u, hv, fun i v hi => ?_⟩
        have h2 := hc i v hi
        rw [ha, addr_mkM, addr_mkM] at h2
        exact h2
    · obtain ⟨i, hi, rfl⟩ := List.mem_map.1 hy
      exact (hf i (List.mem_range.1 hi)).1

set_option maxRecDepth 100000 in
theorem broker_read {fuel : Nat} {cs : List Value} {x : DataW H × List MemPlace} (h : DataW.trod enc Tryz.prog w base spare held fuel 28 cs = some x) :
    ∃ (b : BrokerM) (v : BrV), cs = (brcells b v).toList ∧ BrAt w v b ∧ BrLen b := by
  obtain ⟨n, hl, hf⟩ := trod_struct7 Tryz.underlying28 h
  rw [show Tryz.prog.cellsOf 28 = 8 by kernel_rfl] at hl
  match cs, hl with
  | [c0, c1, c2, c3, c4, c5, c6, c7], _ =>
    obtain ⟨y0, q0⟩ := hf 0 _ rfl
    obtain ⟨y1, q1⟩ := hf 1 _ rfl
    obtain ⟨y2, q2⟩ := hf 2 _ rfl
    obtain ⟨y3, q3⟩ := hf 3 _ rfl
    obtain ⟨y4, q4⟩ := hf 4 _ rfl
    obtain ⟨y5, q5⟩ := hf 5 _ rfl
    obtain ⟨y6, q6⟩ := hf 6 _ rfl
    dsimp only at q0 q1 q2 q3 q4 q5 q6
    rw [show Tryz.prog.cellsOf 2 = 1 by kernel_rfl] at q0 q5
    rw [show Tryz.prog.cellsOf 22 = 1 by kernel_rfl] at q1
    rw [show Tryz.prog.cellsOf 23 = 1 by kernel_rfl] at q2
    rw [show Tryz.prog.cellsOf 24 = 1 by kernel_rfl] at q3
    rw [show Tryz.prog.cellsOf 26 = 2 by kernel_rfl] at q4
    rw [show Tryz.prog.cellsOf 4 = 1 by kernel_rfl] at q6
    obtain ⟨z0, e0, _, _⟩ := DataW.trod_int Tryz.underlying2 q0
    obtain ⟨v1, l1, e1, hv1, hs1⟩ := subs_read q1
    obtain ⟨v2, l2, e2, hv2, hs2⟩ := knots_read Tryz.underlying23 Tryz.underlying92 (by kernel_rfl) rfl rfl rfl rfl Tryz.underlying9 (by kernel_rfl) Tryz.underlying45 (by kernel_rfl) Tryz.underlying2 (by kernel_rfl) q2
    obtain ⟨v3, l3, e3, hv3, hs3⟩ := msgs_read Tryz.underlying24 Tryz.underlying95 (by kernel_rfl) ⟨rfl, rfl⟩ ⟨rfl, rfl⟩ ⟨rfl, rfl⟩ ⟨rfl, rfl⟩ Tryz.underlying2 (by kernel_rfl) Tryz.underlying9 (by kernel_rfl) q3
    obtain ⟨cp, v4, l4, e4, hv4, hs4⟩ := ring_read Tryz.underlying26 (by kernel_rfl) ⟨rfl, rfl⟩ ⟨rfl, rfl⟩ (by kernel_rfl) Tryz.underlying24 Tryz.underlying95 (by kernel_rfl) ⟨rfl, rfl⟩ ⟨rfl, rfl⟩ ⟨rfl, rfl⟩ ⟨rfl, rfl⟩ Tryz.underlying2 (by kernel_rfl) Tryz.underlying9 (by kernel_rfl) q4
    obtain ⟨z5, e5, _, _⟩ := DataW.trod_int Tryz.underlying2 q5
    obtain ⟨z6, e6, _⟩ := DataW.trod_bool Tryz.underlying4 q6
    simp only [List.drop_zero, List.take_succ_cons, List.take_zero, List.cons.injEq, and_true, List.drop_succ_cons] at e0 e1 e2 e3 e4 e5 e6
    obtain ⟨rfl, rfl⟩ := e4
    subst e0 e1 e2 e3 e5 e6
    exact ⟨⟨z0, l1, l2, l3, cp, l4, z5, z6⟩, ⟨_, _, _, _⟩, rfl, ⟨hv1, hv2, hv3, hv4⟩, ⟨hs1, hs2, hs3, hs4⟩⟩

end

end Go.Proofs.YtmfbffhbgelnnaaGreatDoor
