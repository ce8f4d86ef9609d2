/- The walk of (*node).take: a number taken out below a node, and the nodes that nothing needs then. -/
import Derived.Test.YtcpoodhbakkmcaaGreatDoorZB7
import Derived.Test.YtcpoodhbakkmcaaGreatDoorZDelP
set_option linter.unusedSimpArgs false
set_option linter.unusedVariables false
namespace Go.Proofs.YtcpoodhbakkmcaaGreatDoor
open Go.RowKit

/-- What is not below X stays. -/
theorem take_keeps (id : Int) : ∀ (r : PathM) (K : List KeyM) (X Q : PathM), Q ∈ paths K → ¬ (X <+: Q ∧ Q ≠ X) → Q ∈ paths (takeKeys id K X r).1
  | [], K, X, Q, hQ, _ => by rw [takeKeys]; split <;> simp only [remAt_paths, hQ]
  | p :: r, K, X, Q, hQ, hn => by
    have h1 : Q ∈ paths (takeKeys id K (X ++ [p]) r).1 := take_keeps id r K (X ++ [p]) Q hQ (fun h => hn ⟨List.IsPrefix.trans (List.prefix_append _ _) h.1, fun e => by
      have := h.1.length_le; rw [e] at this; simp at this; omega⟩)
    have h2 : Q ≠ X ++ [p] := fun e => hn ⟨by rw [e]; exact List.prefix_append _ _, fun e2 => by have := congrArg List.length (e.symm.trans e2); simp at this⟩
    rw [takeKeys]
    split
    · dsimp only
      split
      · dsimp only
        split
        · exact (cut_paths _ _ _).2 ⟨h1, h2⟩
        · exact h1
      · exact h1
    · exact hQ

/-- What a call of take leaves. -/
def TakeAt (id : Int) (w : World) (B : Nat) (T : List NodeM) (P : PathM) (r : List ByteArray) (e : Ending) (w' : World) : Prop :=
  e = .returned (.bool (takeKeys id (T.map keyOf) P (lists r)).2) ∧ ∃ T', TreeOk T' ∧ Nodes w' B T' ∧ Below B w w' ∧ KeepsS w w' ∧ T'.map keyOf = (takeKeys id (T.map keyOf) P (lists r)).1 ∧ pp T' = (pp T).filter (fun a => decide (a.1 ∈ paths (T'.map keyOf)))

theorem pp_all {T : List NodeM} : pp T = (pp T).filter (fun a => decide (a.1 ∈ paths (T.map keyOf))) := by
  rw [eq_comm, List.filter_eq_self]
  intro a ha
  obtain ⟨y, hy, rfl⟩ := List.mem_map.1 ha
  rw [decide_eq_true_iff, paths_keys]
  exact List.mem_map.2 ⟨y, hy, rfl⟩

theorem kid_facts {w : World} {B i : Nat} {T : List NodeM} {x : NodeM} {q : List UInt8} (hN : Nodes w B T) (hx : x ∈ T) (hf : found (kids T x.path) q = true) (hi : idx (kids T x.path) q = i) :
    ∃ kg n kcap c, (kids T x.path).length = n ∧ i < n ∧ x.kidsV = .slice (some ⟨kg, 0, none⟩) n kcap ∧ w.cell? ⟨x.ptr, 2, none⟩ = some (.slice (some ⟨kg, 0, none⟩) n kcap) ∧ w.cell? ⟨kg, i, none⟩ = some (.pointer (some ⟨c.ptr, 0, none⟩)) ∧ c ∈ T ∧ c.path = x.path ++ [q] := by
  obtain ⟨hix, hlast⟩ := found_at hf
  rw [hi] at hix
  have hcm := List.getElem_mem hix
  simp only [hi] at hlast
  have hcp := (kids_mem.1 hcm).2
  rw [hlast] at hcp
  obtain ⟨kg, kcap, hkv, hkc⟩ := kid_cell hN hx (k := i) hix
  have hk2 := (hN.box x hx).2.kids
  rw [hkv] at hk2
  exact ⟨kg, _, kcap, (kids T x.path)[i], rfl, hix, hkv, hk2, hkc i hix, (kids_mem.1 hcm).1, hcp⟩

/-- The node itself, and its children, behind a take below one of them. -/
theorem behind {id : Int} {T T1 : List NodeM} {x : NodeM} {q : List UInt8} {r : PathM} (hT1 : TreeOk T1) (hx : x ∈ T) (hk : T1.map keyOf = (takeKeys id (T.map keyOf) (x.path ++ [q]) r).1)
    (hpp : pp T1 = (pp T).filter (fun a => decide (a.1 ∈ paths (T1.map keyOf)))) : (∃ x1 ∈ T1, x1.path = x.path ∧ x1.ptr = x.ptr) ∧ pp (kids T1 x.path) = pp (kids T x.path) := by
  have hin : ∀ Q ∈ paths (T.map keyOf), ¬ (x.path ++ [q] <+: Q ∧ Q ≠ x.path ++ [q]) → Q ∈ paths (T1.map keyOf) := fun Q hQ hn => by
    rw [hk]; exact take_keeps id r _ _ Q hQ hn
  constructor
  · have h1 : (x.path, x.ptr) ∈ pp T1 := by
      rw [hpp, List.mem_filter]
      refine ⟨List.mem_map.2 ⟨x, hx, rfl⟩, ?_⟩
      rw [decide_eq_true_iff]
      refine hin _ (by rw [paths_keys]; exact List.mem_map.2 ⟨x, hx, rfl⟩) fun h => ?_
      have := h.1.length_le; simp at this; omega
    obtain ⟨x1, h2, e⟩ := List.mem_map.1 h1
    exact ⟨x1, h2, congrArg Prod.fst e, congrArg Prod.snd e⟩
  · have e : ∀ T : List NodeM, pp (kids T x.path) = (pp T).filter (fun a => decide (a.1 ≠ []) && decide (a.1.dropLast = x.path)) := fun T => by
      unfold pp kids; rw [List.filter_map]; rfl
    rw [e, e, hpp, List.filter_filter]
    refine List.filter_congr fun a ha => ?_
    cases h : (decide (a.1 ≠ []) && decide (a.1.dropLast = x.path))
    · simp
    · rw [Bool.and_eq_true, decide_eq_true_iff, decide_eq_true_iff] at h
      rw [Bool.true_and, decide_eq_true_iff]
      obtain ⟨y, hy, rfl⟩ := List.mem_map.1 ha
      refine hin _ (by rw [paths_keys]; exact List.mem_map.2 ⟨y, hy, rfl⟩) fun h2 => ?_
      have h3 := congrArg List.length h.2
      simp only [List.length_dropLast] at h3
      have h4 := h2.1.length_le
      simp only [List.length_append, List.length_cons, List.length_nil] at h4
      have h5 : 0 < y.path.length := List.length_pos_iff.2 h.1
      exact h2.2 (h2.1.eq_of_length (by simp; omega)).symm

theorem rises_take {id : Int} : ∀ (r : PathM) (K : List KeyM) (X : PathM), (∀ a ∈ K, rises a.2 = true) → ∀ a ∈ (takeKeys id K X r).1, rises a.2 = true
  | [], K, X, h, a, ha => by
    rw [takeKeys] at ha
    split at ha
    · unfold remAt at ha
      obtain ⟨b, hb, rfl⟩ := List.mem_map.1 ha
      split
      · have h1 := rises_pair.1 (h b hb)
        exact rises_pair.2 ⟨fun z hz => h1.1 z (List.mem_filter.1 hz).1, h1.2.filter _⟩
      · exact h b hb
    · exact h a ha
  | p :: r, K, X, h, a, ha => by
    have IH := rises_take (id := id) r K (X ++ [p]) h
    rw [takeKeys] at ha
    split at ha
    · dsimp only at ha
      split at ha
      · dsimp only at ha
        split at ha
        · exact IH a (List.mem_filter.1 ha).1
        · exact IH a ha
      · exact IH a ha
    · exact h a ha

theorem keys_rise {T : List NodeM} (h : ∀ y ∈ T, rises y.ids = true) : ∀ a ∈ T.map keyOf, rises a.2 = true := fun a ha => by
  obtain ⟨y, hy, rfl⟩ := List.mem_map.1 ha; exact h y hy

/-- A child taken out, in memory. -/
theorem take_cut {w w3 : World} {B i : Nat} {T : List NodeM} {x c : NodeM} {q : List UInt8} {v' : Value} (hN : Nodes w B T) (hT : TreeOk T) (hx : x ∈ T) (hc : c ∈ T) (hcp : c.path = x.path ++ [q]) (hB : B ≤ w.heap.size)
    (hf : found (kids T x.path) q = true) (hi : idx (kids T x.path) q = i) (he : emptyB T c = true)
    (hr3 : w3.ownsRow B 45 1 v' ((ptrs (kids T x.path)).length - 1) ((ptrs (kids T x.path)).take i ++ (ptrs (kids T x.path)).drop (i + 1)))
    (hg3 : w.grownBy w3 x.kidsV.ownBlock) (hv3 : v'.ownBlock = x.kidsV.ownBlock) :
    (∃ T', TreeOk T' ∧ Nodes (w3.setCell ⟨x.ptr, 2, none⟩ v') B T' ∧ Below B w (w3.setCell ⟨x.ptr, 2, none⟩ v') ∧ KeepsS w (w3.setCell ⟨x.ptr, 2, none⟩ v') ∧ T'.map keyOf = cutAt (T.map keyOf) c.path ∧ pp T' = (pp T).filter (fun a => decide (a.1 ≠ c.path))) ∧
      w3.cell? ⟨x.ptr, 2, none⟩ = some x.kidsV ∧ w3.frozen? ⟨x.ptr, 2, none⟩ = false := by
  have n1 : 2 ≠ 65 := by decide
  have n2 : 45 ≠ 65 := by decide
  have n3 : 2 ≠ 45 := by decide
  have hbox := (hN.box x hx).2
  have hbox3 : w3.heap[x.ptr]? = some (.cells #[.string (bts x.last), x.idsV, x.kidsV] 65 (0, 0)) :=
    (hg3.block x.ptr (Array.getElem?_eq_some_iff.1 hbox).1 (fun e => own_not_at (hN.kid x hx) hbox n2 e.symm)).trans hbox
  have G3 : GrownL w w3 [boxV x, x.idsV, x.kidsV] := .grown (x := x.kidsV) hg3 (by simp)
  have G4 : GrownL w (w3.setCell ⟨x.ptr, 2, none⟩ v') [boxV x, x.idsV, x.kidsV] := G3.setCell (x := boxV x) (by simp) rfl 2 v'
  have hids3 : w3.ownsRow B 2 1 x.idsV x.ids.length (ints x.ids) := (hN.ids x hx).kept hg3 (by rcases apart_types (hN.ids x hx) (hN.kid x hx) n3 with h | h; exact .inl h; exact .inr h)
  have hpl : (ptrs (kids T x.path)).length = (kids T x.path).length := by simp [ptrs]
  have hke : kids T c.path = [] := by unfold emptyB at he; rw [Bool.and_eq_true, List.isEmpty_iff, List.isEmpty_iff] at he; exact he.2
  obtain ⟨T', _, h1, h2, h3, h4⟩ := hN.cut (p := q) (kv := v') hT hx hc hcp hf hke G4 (by rw [heap_setCell hbox3]; rfl) (own_kept hids3 (own_not_at hids3 hbox3 n1))
    (own_kept (by rw [hi, ← hpl]; exact hr3) (own_not_at hr3 hbox3 n2)) (.inl hv3)
  exact ⟨⟨T', h1, h2, G4.toBelow hB (hN.from hx), KeepsS.grown G4 (hN.noText hx), h3, h4⟩, by rw [cell_of_heap hbox3]; rfl, free_of_heap hbox3⟩

/-- The child isn't there. -/
theorem TakeAt.none {id : Int} {w w' : World} {B : Nat} {T : List NodeM} {P : PathM} {q : ByteArray} {r : List ByteArray} (hN : Nodes w B T) (hT : TreeOk T) (hB : B ≤ w.heap.size) (hb : Below w.heap.size w w') (h : P ++ [q.data.toList] ∉ paths (T.map keyOf)) :
    TakeAt id w B T P (q :: r) (.returned (.bool false)) w' := by
  have e : takeKeys id (T.map keyOf) P (lists (q :: r)) = (T.map keyOf, false) := by show takeKeys id _ P (q.data.toList :: lists r) = _; rw [takeKeys, if_neg h]
  exact ⟨by rw [e], T, hT, hN.below hb, hb.mono hB, KeepsS.below hb, by rw [e], pp_all⟩

theorem TakeAt.no {id : Int} {w w1 w2 w3 : World} {B : Nat} {T : List NodeM} {P : PathM} {q : ByteArray} {r : List ByteArray} (hB : Below B w w1) (hS : KeepsS w w1) (hp : P ++ [q.data.toList] ∈ paths (T.map keyOf))
    (h : TakeAt id w1 B T (P ++ [q.data.toList]) r (.returned (.bool false)) w2) (hb : Below w2.heap.size w2 w3) (hBw : B ≤ w1.heap.size) : TakeAt id w B T P (q :: r) (.returned (.bool false)) w3 := by
  obtain ⟨h1, T', h2, h3, h4, h5, h6, h7⟩ := h
  have hf : (takeKeys id (T.map keyOf) (P ++ [q.data.toList]) (lists r)).2 = false := by injection h1 with h1; injection h1 with h1; exact h1.symm
  have e : takeKeys id (T.map keyOf) P (lists (q :: r)) = ((takeKeys id (T.map keyOf) (P ++ [q.data.toList]) (lists r)).1, false) := by
    show takeKeys id _ P (q.data.toList :: lists r) = _; rw [takeKeys, if_pos hp]; dsimp only; rw [if_neg (by rw [hf]; simp)]
  exact ⟨by rw [e], T', h2, h3.below hb, (hB.trans h4).trans (hb.mono (Nat.le_trans hBw h4.size)), (hS.trans h5).trans (KeepsS.below hb), by rw [e]; exact h6, h7⟩

theorem TakeAt.keep {id : Int} {w w1 w2 w3 : World} {B : Nat} {T T1 : List NodeM} {P : PathM} {q : ByteArray} {r : List ByteArray} (hB : Below B w w1) (hS : KeepsS w w1) (hp : P ++ [q.data.toList] ∈ paths (T.map keyOf))
    (hb2 : (takeKeys id (T.map keyOf) (P ++ [q.data.toList]) (lists r)).2 = true) (h2 : TreeOk T1) (h3 : Nodes w2 B T1) (h4 : Below B w1 w2) (h5 : KeepsS w1 w2) (h6 : T1.map keyOf = (takeKeys id (T.map keyOf) (P ++ [q.data.toList]) (lists r)).1)
    (h7 : pp T1 = (pp T).filter (fun a => decide (a.1 ∈ paths (T1.map keyOf)))) (he : emptyAt (T1.map keyOf) (P ++ [q.data.toList]) = false) (hb : Below w2.heap.size w2 w3) (hBw : B ≤ w1.heap.size) : TakeAt id w B T P (q :: r) (.returned (.bool true)) w3 := by
  have e : takeKeys id (T.map keyOf) P (lists (q :: r)) = (T1.map keyOf, true) := by
    show takeKeys id _ P (q.data.toList :: lists r) = _; rw [takeKeys, if_pos hp]; dsimp only; rw [if_pos hb2, ← h6, if_neg (by rw [he]; simp)]
  exact ⟨by rw [e], T1, h2, h3.below hb, (hB.trans h4).trans (hb.mono (Nat.le_trans hBw h4.size)), (hS.trans h5).trans (KeepsS.below hb), by rw [e], h7⟩

theorem TakeAt.cut {id : Int} {w w1 w2 w3 : World} {B : Nat} {T T1 T2 : List NodeM} {P : PathM} {q : ByteArray} {r : List ByteArray} (hB : Below B w w1) (hS : KeepsS w w1) (hp : P ++ [q.data.toList] ∈ paths (T.map keyOf))
    (hb2 : (takeKeys id (T.map keyOf) (P ++ [q.data.toList]) (lists r)).2 = true) (h4 : Below B w1 w2) (h5 : KeepsS w1 w2) (h6 : T1.map keyOf = (takeKeys id (T.map keyOf) (P ++ [q.data.toList]) (lists r)).1)
    (h7 : pp T1 = (pp T).filter (fun a => decide (a.1 ∈ paths (T1.map keyOf)))) (he : emptyAt (T1.map keyOf) (P ++ [q.data.toList]) = true)
    (k1 : TreeOk T2) (k2 : Nodes w3 B T2) (k3 : Below B w2 w3) (k4 : KeepsS w2 w3) (k5 : T2.map keyOf = cutAt (T1.map keyOf) (P ++ [q.data.toList])) (k6 : pp T2 = (pp T1).filter (fun a => decide (a.1 ≠ P ++ [q.data.toList]))) : TakeAt id w B T P (q :: r) (.returned (.bool true)) w3 := by
  have e : takeKeys id (T.map keyOf) P (lists (q :: r)) = (T2.map keyOf, true) := by
    show takeKeys id _ P (q.data.toList :: lists r) = _; rw [takeKeys, if_pos hp]; dsimp only; rw [if_pos hb2, ← h6, if_pos he, ← k5]
  refine ⟨by rw [e], T2, k1, k2, (hB.trans h4).trans k3, (hS.trans h5).trans k4, by rw [e], ?_⟩
  rw [k6, h7, List.filter_filter]
  refine List.filter_congr fun a _ => ?_
  rw [k5, Bool.eq_iff_iff, Bool.and_eq_true, decide_eq_true_iff, decide_eq_true_iff, decide_eq_true_iff, cut_paths]
  exact And.comm

end Go.Proofs.YtcpoodhbakkmcaaGreatDoor
