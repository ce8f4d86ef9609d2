/- The walk of (*node).take. -/
import Derived.Test.YtcpoodhbakkmcaaGreatDoorZITake
set_option linter.unusedSimpArgs false
set_option linter.unusedVariables false
namespace Go.Proofs.YtcpoodhbakkmcaaGreatDoor
open Go.RowKit

/-- What is known behind the take below a child: the same child again. -/
theorem take_behind {id : Int} {w6 : World} {B i : Nat} {T T1 : List NodeM} {x : NodeM} {q : ByteArray} {r : PathM} (hx : x ∈ T) (hf : found (kids T x.path) q.data.toList = true) (hi : idx (kids T x.path) q.data.toList = i)
    (hT1 : TreeOk T1) (hN1 : Nodes w6 B T1) (hk : T1.map keyOf = (takeKeys id (T.map keyOf) (x.path ++ [q.data.toList]) r).1) (hpp : pp T1 = (pp T).filter (fun a => decide (a.1 ∈ paths (T1.map keyOf)))) :
    ∃ x1 kg n kcap c, x1 ∈ T1 ∧ x1.path = x.path ∧ x1.ptr = x.ptr ∧ found (kids T1 x1.path) q.data.toList = true ∧ idx (kids T1 x1.path) q.data.toList = i ∧ (kids T1 x1.path).length = n ∧ n = (kids T x.path).length ∧ i < n ∧
      x1.kidsV = .slice (some ⟨kg, 0, none⟩) n kcap ∧ w6.cell? ⟨x.ptr, 2, none⟩ = some (.slice (some ⟨kg, 0, none⟩) n kcap) ∧ w6.cell? ⟨kg, i, none⟩ = some (.pointer (some ⟨c.ptr, 0, none⟩)) ∧ c ∈ T1 ∧ c.path = x.path ++ [q.data.toList] := by
  obtain ⟨⟨x1, h1, h2, h3⟩, h4⟩ := behind hT1 hx hk hpp
  have hf1 : found (kids T1 x1.path) q.data.toList = true := by rw [h2, found_pp h4]; exact hf
  have hi1 : idx (kids T1 x1.path) q.data.toList = i := by rw [h2, idx_pp h4]; exact hi
  obtain ⟨kg, n, kcap, c, a1, a2, a3, a4, a5, a6, a7⟩ := kid_facts hN1 h1 hf1 hi1
  rw [h3] at a4
  rw [h2] at a7
  refine ⟨x1, kg, n, kcap, c, h1, h2, h3, hf1, hi1, a1, ?_, a2, a3, a4, a5, a6, a7⟩
  rw [← a1, h2]; have := congrArg List.length h4; simpa [pp] using this


set_option maxRecDepth 100000 in
set_option maxHeartbeats 6400000 in
theorem take_any (id : Int) (B : Nat) : ∀ (r : List ByteArray) (T : List NodeM) (x : NodeM) (w : World) (pv : Value), x ∈ T → TreeOk T → Nodes w B T → B ≤ w.heap.size → TextsRow w pv r → (∀ y ∈ T, rises y.ids = true) → T.length ≤ 4000000 →
    Calls Tryz.prog 39 #[.pointer (some ⟨x.ptr, 0, none⟩), pv, .int .i64 id] w fun e w' => TakeAt id w B T x.path r e w' := by
  intro r
  induction r with
  | nil =>
    intro T x w pv hx hT hN hB hp hr hl
    obtain ⟨a, c, rfl, _, _⟩ := hp
    have CP := Lib.hid (takeId_any T x id w B hN hT hx hB (hr x hx))
    have HPA : Hid (∀ e w', (e = .returned (.bool (hasId x.ids id)) ∧ ∃ T', TreeOk T' ∧ Nodes w' B T' ∧ Below B w w' ∧ KeepsS w w' ∧ pp T' = pp T ∧ T'.map keyOf = if hasId x.ids id then remAt (T.map keyOf) x.path id else T.map keyOf) → TakeAt id w B T x.path [] e w') := Lib.hid (by
      rintro e w' ⟨h1, T', h2, h3, h4, h5, h6, h7⟩
      have e1 : idsAt (T.map keyOf) x.path = x.ids := idsAt_of (tree_paths hT) (List.mem_map_of_mem hx)
      have e2 : takeKeys id (T.map keyOf) x.path (lists []) = (T'.map keyOf, hasId x.ids id) := by
        rw [show lists [] = [] from rfl, takeKeys, e1, h7]
        split
        · rename_i h; rw [h]
        · rename_i h; rw [Bool.not_eq_true] at h; rw [h]
      refine ⟨by rw [e2]; exact h1, T', h2, h3, h4, h5, by rw [e2], ?_⟩
      rw [h6]
      have e3 : paths (T'.map keyOf) = paths (T.map keyOf) := by rw [h7]; split <;> simp only [remAt_paths]
      rw [e3]; exact pp_all)
    clear hx hT hN hr hl hB
    obtain ⟨b, hb⟩ : ∃ b, hasId x.ids id = b := ⟨_, rfl⟩
    rw [hb] at CP HPA
    go_enter Tryz.func39, Tryz.ntmps39
    go_wp2_with fail
    refine CP.out.mono ?_
    rintro e w' ⟨rfl, h⟩
    have H := Lib.hid h
    clear h CP hb
    go_wp2
    go_ret
    exact HPA.out _ _ ⟨rfl, H.out⟩
  | cons q r IH0 =>
    intro T x w pv hx hT hN hB hp hr hl
    have IH := Lib.hid IH0
    clear IH0
    obtain ⟨a, c, rfl, hpc, hpp⟩ := hp
    obtain ⟨g, o, cur, f, rfl, hgc, hcs⟩ : ∃ g o cur f, a = some ⟨g, o, none⟩ ∧ w.heap[g]? = some (.cells cur 9 f) ∧ ∀ j (h : j < (q :: r).length), cur[o + j]? = some (.string (q :: r)[j]) := by
      rcases hpp with h | h
      · cases h
      · exact h
    have hq : w.cell? ⟨g, o, none⟩ = some (.string q) := by rw [cell_of_heap hgc]; have := hcs 0 (by simp); simpa using this
    have CK := Lib.hid (kidIdx_any T x q w B hN hT hx hl)
    have HPC : Hid (r.length + 1 ≤ c) := Lib.hid (by simpa using hpc)
    have HCS := Lib.hid hcs
    have hz : (((r.length + 1 : Nat) : Int) == 0) = false := by rw [beq_eq_false_iff_ne]; omega
    have hz2 : decide ((0 : Int) < ((r.length + 1 : Nat) : Int)) = true := decide_eq_true (by omega)
    have hz3 : (1 : Int) ≤ (r.length : Int) + 1 := by omega
    have HG := Lib.hid hgc
    have HBW := Lib.hid hB
    have HNN := Lib.hid hN
    have HTT := Lib.hid hT
    have HRR := Lib.hid hr
    have HX := Lib.hid hx
    have HL4 := Lib.hid hl
    have HLN := Lib.hid hl
    rw [List.length_cons] at hpc ⊢
    have hpc1 : 1 ≤ c := by omega
    obtain ⟨i, hi⟩ : ∃ i, idx (kids T x.path) q.data.toList = i := ⟨_, rfl⟩
    rw [hi] at CK
    cases hf : found (kids T x.path) q.data.toList
    · rw [hf] at CK
      have HFIN := Lib.hid (TakeAt.none (id := id) (r := r) (q := q) (P := x.path) (w' := w.drew) hN hT hB (Below.refl _ _).drew (fun e => by
        rw [paths_keys] at e
        obtain ⟨y, hy, e⟩ := List.mem_map.1 e
        exact found_no (hT.kids_rise x.path) hf y (kids_mem.2 ⟨hy, by rw [last_snoc e]; exact e⟩) (last_snoc e)))
      clear hx hT hN hB hr hl hf hi hgc hcs hpp HNN HTT HRR
      go_enter Tryz.func39, Tryz.ntmps39
      go_wp2_with fail
      refine CK.out.mono ?_
      rintro e w' ⟨rfl, rfl⟩
      clear CK
      go_wp2_with fail
      refine wp_region_held_drew (S := fun _ => True) (by kernel_rfl) ?_ (fun hHeld => ?_)
      · trivial
      change wpAnyH _ _ _ _ _ 16 #[false, false, false, false, false, false, false, false, false, false, false, false, false, false, false, false] _ _
      refine wpAnyH_take (i := 0) (v := ?_) rfl (by kernel_rfl) (by kernel_rfl) (by kernel_rfl) (fun _ _ _ h => h) (Or.inl ⟨by rfl, ?_⟩) (by assumption) ?_
      rotate_left
      · intro w hSw; (try dsimp only at hSw); go_simp; try with_reducible rfl
      try simp only [Act.put, List.getElem_toArray, List.getElem_cons_succ, List.getElem_cons_zero, List.setIfInBounds_toArray, List.set_cons_zero, List.set_cons_succ]
      refine wpAnyH_take (i := 1) (v := ?_) rfl (by kernel_rfl) (by kernel_rfl) (by kernel_rfl) (fun _ _ _ h => h) (Or.inl ⟨by rfl, ?_⟩) (by assumption) ?_
      rotate_left
      · intro w hSw; (try dsimp only at hSw); go_simp; try with_reducible rfl
      try simp only [Act.put, List.getElem_toArray, List.getElem_cons_succ, List.getElem_cons_zero, List.setIfInBounds_toArray, List.set_cons_zero, List.set_cons_succ]
      refine wpAnyH_take (i := 2) (v := ?_) rfl (by kernel_rfl) (by kernel_rfl) (by kernel_rfl) (fun _ _ _ h => h) (Or.inl ⟨by rfl, ?_⟩) (by assumption) ?_
      rotate_left
      · intro w hSw; (try dsimp only at hSw); go_simp; try with_reducible rfl
      try simp only [Act.put, List.getElem_toArray, List.getElem_cons_succ, List.getElem_cons_zero, List.setIfInBounds_toArray, List.set_cons_zero, List.set_cons_succ]
      refine wpAnyH_take (i := 3) (v := undef) rfl (by kernel_rfl) (by kernel_rfl) (by kernel_rfl) (fun _ _ _ h => h) (Or.inr ⟨by rfl, rfl⟩) (by assumption) ?_
      try simp only [Act.put, List.getElem_toArray, List.getElem_cons_succ, List.getElem_cons_zero, List.setIfInBounds_toArray, List.set_cons_zero, List.set_cons_succ]
      refine wpAnyH_take (i := 4) (v := undef) rfl (by kernel_rfl) (by kernel_rfl) (by kernel_rfl) (fun _ _ _ h => h) (Or.inr ⟨by rfl, rfl⟩) (by assumption) ?_
      try simp only [Act.put, List.getElem_toArray, List.getElem_cons_succ, List.getElem_cons_zero, List.setIfInBounds_toArray, List.set_cons_zero, List.set_cons_succ]
      refine wpAnyH_take (i := 5) (v := undef) rfl (by kernel_rfl) (by kernel_rfl) (by kernel_rfl) (fun _ _ _ h => h) (Or.inr ⟨by rfl, rfl⟩) (by assumption) ?_
      try simp only [Act.put, List.getElem_toArray, List.getElem_cons_succ, List.getElem_cons_zero, List.setIfInBounds_toArray, List.set_cons_zero, List.set_cons_succ]
      refine wpAnyH_take (i := 6) (v := undef) rfl (by kernel_rfl) (by kernel_rfl) (by kernel_rfl) (fun _ _ _ h => h) (Or.inr ⟨by rfl, rfl⟩) (by assumption) ?_
      try simp only [Act.put, List.getElem_toArray, List.getElem_cons_succ, List.getElem_cons_zero, List.setIfInBounds_toArray, List.set_cons_zero, List.set_cons_succ]
      refine wpAnyH_take (i := 7) (v := undef) rfl (by kernel_rfl) (by kernel_rfl) (by kernel_rfl) (fun _ _ _ h => h) (Or.inr ⟨by rfl, rfl⟩) (by assumption) ?_
      try simp only [Act.put, List.getElem_toArray, List.getElem_cons_succ, List.getElem_cons_zero, List.setIfInBounds_toArray, List.set_cons_zero, List.set_cons_succ]
      refine wpAnyH_take (i := 8) (v := undef) rfl (by kernel_rfl) (by kernel_rfl) (by kernel_rfl) (fun _ _ _ h => h) (Or.inr ⟨by rfl, rfl⟩) (by assumption) ?_
      try simp only [Act.put, List.getElem_toArray, List.getElem_cons_succ, List.getElem_cons_zero, List.setIfInBounds_toArray, List.set_cons_zero, List.set_cons_succ]
      refine wpAnyH_take (i := 9) (v := undef) rfl (by kernel_rfl) (by kernel_rfl) (by kernel_rfl) (fun _ _ _ h => h) (Or.inr ⟨by rfl, rfl⟩) (by assumption) ?_
      try simp only [Act.put, List.getElem_toArray, List.getElem_cons_succ, List.getElem_cons_zero, List.setIfInBounds_toArray, List.set_cons_zero, List.set_cons_succ]
      refine wpAnyH_take (i := 10) (v := undef) rfl (by kernel_rfl) (by kernel_rfl) (by kernel_rfl) (fun _ _ _ h => h) (Or.inr ⟨by rfl, rfl⟩) (by assumption) ?_
      try simp only [Act.put, List.getElem_toArray, List.getElem_cons_succ, List.getElem_cons_zero, List.setIfInBounds_toArray, List.set_cons_zero, List.set_cons_succ]
      refine wpAnyH_take (i := 11) (v := undef) rfl (by kernel_rfl) (by kernel_rfl) (by kernel_rfl) (fun _ _ _ h => h) (Or.inr ⟨by rfl, rfl⟩) (by assumption) ?_
      try simp only [Act.put, List.getElem_toArray, List.getElem_cons_succ, List.getElem_cons_zero, List.setIfInBounds_toArray, List.set_cons_zero, List.set_cons_succ]
      refine wpAnyH_take (i := 12) (v := undef) rfl (by kernel_rfl) (by kernel_rfl) (by kernel_rfl) (fun _ _ _ h => h) (Or.inr ⟨by rfl, rfl⟩) (by assumption) ?_
      try simp only [Act.put, List.getElem_toArray, List.getElem_cons_succ, List.getElem_cons_zero, List.setIfInBounds_toArray, List.set_cons_zero, List.set_cons_succ]
      refine wpAnyH_take (i := 13) (v := undef) rfl (by kernel_rfl) (by kernel_rfl) (by kernel_rfl) (fun _ _ _ h => h) (Or.inr ⟨by rfl, rfl⟩) (by assumption) ?_
      try simp only [Act.put, List.getElem_toArray, List.getElem_cons_succ, List.getElem_cons_zero, List.setIfInBounds_toArray, List.set_cons_zero, List.set_cons_succ]
      refine wpAnyH_take (i := 14) (v := undef) rfl (by kernel_rfl) (by kernel_rfl) (by kernel_rfl) (fun _ _ _ h => h) (Or.inr ⟨by rfl, rfl⟩) (by assumption) ?_
      try simp only [Act.put, List.getElem_toArray, List.getElem_cons_succ, List.getElem_cons_zero, List.setIfInBounds_toArray, List.set_cons_zero, List.set_cons_succ]
      refine wpAnyH_take (i := 15) (v := ?_) rfl (by kernel_rfl) (by kernel_rfl) (by kernel_rfl) (fun _ _ _ h => h) (Or.inl ⟨by rfl, ?_⟩) (by assumption) ?_
      rotate_left
      · intro w hSw; (try dsimp only at hSw); go_simp; try with_reducible rfl
      try simp only [Act.put, List.getElem_toArray, List.getElem_cons_succ, List.getElem_cons_zero, List.setIfInBounds_toArray, List.set_cons_zero, List.set_cons_succ]
      refine wpAnyH_done (by kernel_rfl) ?_ _
      go_wp2
      go_ret
      exact HFIN.out
    · rw [hf] at CK
      obtain ⟨kg, kn, kcap, c1, _, hik, _, hck, hcc, hc1, hcp⟩ := kid_facts hN hx hf hi
      have HPI : Hid (x.path ++ [q.data.toList] ∈ paths (T.map keyOf)) := Lib.hid (by rw [paths_keys]; exact List.mem_map.2 ⟨c1, hc1, hcp⟩)
      have HF1 := Lib.hid hf
      have HIX := Lib.hid hi
      clear hx hT hN hB hr hl hf hi hgc hcs hpp
      obtain ⟨b, hb⟩ : ∃ b, (takeKeys id (T.map keyOf) (x.path ++ [q.data.toList]) (lists r)).2 = b := ⟨_, rfl⟩
      go_enter Tryz.func39, Tryz.ntmps39
      go_wp2_with fail
      refine CK.out.mono ?_
      rintro e w' ⟨rfl, rfl⟩
      clear CK
      go_wp2_with fail
      by_cases hp1 : c = 1
      · subst hp1
        have hr0 : r.length = 0 := by omega
        have CR := IH.out T c1 w.drew _ hc1 HTT.out (HNN.out.below (Below.refl _ _).drew) HBW.out (TextsRow.tail (q := q) (o := o) HPC.out (show w.drew.heap[g]? = _ from HG.out) HCS.out) HRR.out HLN.out
        rw [hcp] at CR
        simp only [hr0, Nat.sub_self, ↓reduceIte] at CR
        have HC := Lib.hid CR
        clear CR
        refine wp_region_held_drew (S := fun _ => True) (by kernel_rfl) ?_ (fun hHeld => ?_)
        · trivial
        change wpAnyH _ _ _ _ _ 16 #[false, false, false, false, false, false, false, false, false, false, false, false, false, false, false, false] _ _
        have hckd : w.drew.cell? ⟨x.ptr, 2, none⟩ = some (.slice (some ⟨kg, 0, none⟩) kn kcap) := hck
        have hccd : w.drew.cell? ⟨kg, i, none⟩ = some (.pointer (some ⟨c1.ptr, 0, none⟩)) := hcc
        refine wpAnyH_take (i := 0) (v := ?_) rfl (by kernel_rfl) (by kernel_rfl) (by kernel_rfl) (fun _ _ _ h => h) (Or.inl ⟨by rfl, ?_⟩) (by assumption) ?_
        rotate_left
        · intro w hSw; (try dsimp only at hSw); go_simp; try with_reducible rfl
        try simp only [Act.put, List.getElem_toArray, List.getElem_cons_succ, List.getElem_cons_zero, List.setIfInBounds_toArray, List.set_cons_zero, List.set_cons_succ]
        refine wpAnyH_take (i := 1) (v := ?_) rfl (by kernel_rfl) (by kernel_rfl) (by kernel_rfl) (fun _ _ _ h => h) (Or.inl ⟨by rfl, ?_⟩) (by assumption) ?_
        rotate_left
        · intro w hSw; (try dsimp only at hSw); go_simp; try with_reducible rfl
        try simp only [Act.put, List.getElem_toArray, List.getElem_cons_succ, List.getElem_cons_zero, List.setIfInBounds_toArray, List.set_cons_zero, List.set_cons_succ]
        refine wpAnyH_take (i := 2) (v := ?_) rfl (by kernel_rfl) (by kernel_rfl) (by kernel_rfl) (fun _ _ _ h => h) (Or.inl ⟨by rfl, ?_⟩) (by assumption) ?_
        rotate_left
        · intro w hSw; (try dsimp only at hSw); go_simp; try with_reducible rfl
        try simp only [Act.put, List.getElem_toArray, List.getElem_cons_succ, List.getElem_cons_zero, List.setIfInBounds_toArray, List.set_cons_zero, List.set_cons_succ]
        refine wpAnyH_take (i := 3) (v := ?_) rfl (by kernel_rfl) (by kernel_rfl) (by kernel_rfl) (fun _ _ _ h => h) (Or.inl ⟨by rfl, ?_⟩) (by assumption) ?_
        rotate_left
        · intro w hSw; (try dsimp only at hSw); go_simp; try with_reducible rfl
        try simp only [Act.put, List.getElem_toArray, List.getElem_cons_succ, List.getElem_cons_zero, List.setIfInBounds_toArray, List.set_cons_zero, List.set_cons_succ]
        refine wpAnyH_take (i := 4) (v := ?_) rfl (by kernel_rfl) (by kernel_rfl) (by kernel_rfl) (fun _ _ _ h => h) (Or.inl ⟨by rfl, ?_⟩) (by assumption) ?_
        rotate_left
        · intro w hSw; (try dsimp only at hSw); go_simp; try with_reducible rfl
        try simp only [Act.put, List.getElem_toArray, List.getElem_cons_succ, List.getElem_cons_zero, List.setIfInBounds_toArray, List.set_cons_zero, List.set_cons_succ]
        refine wpAnyH_take (i := 5) (v := ?_) rfl (by kernel_rfl) (by kernel_rfl) (by kernel_rfl) (fun _ _ _ h => h) (Or.inl ⟨by rfl, ?_⟩) (by assumption) ?_
        rotate_left
        · intro w hSw; (try dsimp only at hSw); go_simp; try with_reducible rfl
        try simp only [Act.put, List.getElem_toArray, List.getElem_cons_succ, List.getElem_cons_zero, List.setIfInBounds_toArray, List.set_cons_zero, List.set_cons_succ]
        refine wpAnyH_take (i := 7) (v := ?_) rfl (by kernel_rfl) (by kernel_rfl) (by kernel_rfl) (fun _ _ _ h => h) (Or.inl ⟨by rfl, ?_⟩) (by assumption) ?_
        rotate_left
        · intro w hSw; (try dsimp only at hSw); go_simp; try with_reducible rfl
        try simp only [Act.put, List.getElem_toArray, List.getElem_cons_succ, List.getElem_cons_zero, List.setIfInBounds_toArray, List.set_cons_zero, List.set_cons_succ]
        refine wpAnyH_take (i := 10) (v := ?_) rfl (by kernel_rfl) (by kernel_rfl) (by kernel_rfl) (fun _ _ _ h => h) (Or.inl ⟨by rfl, ?_⟩) (by assumption) ?_
        rotate_left
        · intro w hSw; (try dsimp only at hSw); go_simp; try with_reducible rfl
        try simp only [Act.put, List.getElem_toArray, List.getElem_cons_succ, List.getElem_cons_zero, List.setIfInBounds_toArray, List.set_cons_zero, List.set_cons_succ]
        refine wpAnyH_take (i := 11) (v := ?_) rfl (by kernel_rfl) (by kernel_rfl) (by kernel_rfl) (fun _ _ _ h => h) (Or.inl ⟨by rfl, ?_⟩) (by assumption) ?_
        rotate_left
        · intro w hSw; (try dsimp only at hSw); go_simp; try with_reducible rfl
        try simp only [Act.put, List.getElem_toArray, List.getElem_cons_succ, List.getElem_cons_zero, List.setIfInBounds_toArray, List.set_cons_zero, List.set_cons_succ]
        refine wpAnyH_take (i := 12) (v := ?_) rfl (by kernel_rfl) (by kernel_rfl) (by kernel_rfl) (fun _ _ _ h => h) (Or.inl ⟨by rfl, ?_⟩) (by assumption) ?_
        rotate_left
        · intro w hSw; (try dsimp only at hSw); go_simp; try with_reducible rfl
        try simp only [Act.put, List.getElem_toArray, List.getElem_cons_succ, List.getElem_cons_zero, List.setIfInBounds_toArray, List.set_cons_zero, List.set_cons_succ]
        refine wpAnyH_ready (rs := [6]) (by kernel_rfl) (by simp) (AllReadyH.cons rfl (fun K hK => ?_) AllReadyH.nil)
        rw [if_pos (by rfl)]
        go_simp
        refine hK.out _ _ ?_ (fun hHeld => ?_)
        · trivial
        clear hK K
        try simp only [Act.put, List.getElem_toArray, List.getElem_cons_succ, List.getElem_cons_zero, List.setIfInBounds_toArray, List.set_cons_zero, List.set_cons_succ]
        refine wpAnyH_take (i := 8) (v := ?_) rfl (by kernel_rfl) (by kernel_rfl) (by kernel_rfl) (fun _ _ _ h => h) (Or.inl ⟨by rfl, ?_⟩) (by assumption) ?_
        rotate_left
        · intro w hSw; (try dsimp only at hSw); go_simp; try with_reducible rfl
        try simp only [Act.put, List.getElem_toArray, List.getElem_cons_succ, List.getElem_cons_zero, List.setIfInBounds_toArray, List.set_cons_zero, List.set_cons_succ]
        refine wpAnyH_ready (rs := [9]) (by kernel_rfl) (by simp) (AllReadyH.cons rfl (fun K hK => ?_) AllReadyH.nil)
        rw [if_pos (by rfl)]
        go_simp
        refine hK.out _ _ ?_ (fun hHeld => ?_)
        · trivial
        clear hK K
        try simp only [Act.put, List.getElem_toArray, List.getElem_cons_succ, List.getElem_cons_zero, List.setIfInBounds_toArray, List.set_cons_zero, List.set_cons_succ]
        cases b
        · skip
          refine wpAnyH_ready (rs := [13]) (by kernel_rfl) (by simp) (AllReadyH.cons rfl (fun K hK => ?_) AllReadyH.nil)
          rw [if_pos (by rfl)]
          go_simp; go_at_call 39; refine HC.out.mono ?_; rintro e w6 h6; obtain rfl : e = .returned (.bool false) := (by rw [h6.1, hb]); have H6 := Lib.hid h6; clear h6; go_wp2_with fail
          refine hK.out _ _ ?_ (fun hHeld => ?_)
          · trivial
          clear hK K
          try simp only [Act.put, List.getElem_toArray, List.getElem_cons_succ, List.getElem_cons_zero, List.setIfInBounds_toArray, List.set_cons_zero, List.set_cons_succ]
          refine wpAnyH_take (i := 14) (v := ?_) rfl (by kernel_rfl) (by kernel_rfl) (by kernel_rfl) (fun _ _ _ h => h) (Or.inl ⟨by rfl, ?_⟩) (by assumption) ?_
          rotate_left
          · intro w hSw; (try dsimp only at hSw); go_simp; try with_reducible rfl
          try simp only [Act.put, List.getElem_toArray, List.getElem_cons_succ, List.getElem_cons_zero, List.setIfInBounds_toArray, List.set_cons_zero, List.set_cons_succ]
          refine wpAnyH_take (i := 15) (v := ?_) rfl (by kernel_rfl) (by kernel_rfl) (by kernel_rfl) (fun _ _ _ h => h) (Or.inl ⟨by rfl, ?_⟩) (by assumption) ?_
          rotate_left
          · intro w hSw; (try dsimp only at hSw); go_simp; try with_reducible rfl
          try simp only [Act.put, List.getElem_toArray, List.getElem_cons_succ, List.getElem_cons_zero, List.setIfInBounds_toArray, List.set_cons_zero, List.set_cons_succ]
          refine wpAnyH_done (by kernel_rfl) ?_ _
          clear hHeld hckd hccd hck hcc
          go_wp2
          go_ret
          exact TakeAt.no (Below.refl _ _).drew (fun _ _ _ h => h) HPI.out H6.out (Below.refl _ _) HBW.out
        · skip
          refine wpAnyH_ready (rs := [13]) (by kernel_rfl) (by simp) (AllReadyH.cons rfl (fun K hK => ?_) AllReadyH.nil)
          rw [if_pos (by rfl)]
          go_simp; go_at_call 39; refine HC.out.mono ?_; rintro e w6 h6; obtain rfl : e = .returned (.bool true) := (by rw [h6.1, hb]); have H6 := Lib.hid h6; clear h6; go_wp2_with fail
          refine hK.out _ _ ?_ (fun hHeld => ?_)
          · trivial
          clear hK K
          try simp only [Act.put, List.getElem_toArray, List.getElem_cons_succ, List.getElem_cons_zero, List.setIfInBounds_toArray, List.set_cons_zero, List.set_cons_succ]
          refine wpAnyH_take (i := 14) (v := ?_) rfl (by kernel_rfl) (by kernel_rfl) (by kernel_rfl) (fun _ _ _ h => h) (Or.inl ⟨by rfl, ?_⟩) (by assumption) ?_
          rotate_left
          · intro w hSw; (try dsimp only at hSw); go_simp; try with_reducible rfl
          try simp only [Act.put, List.getElem_toArray, List.getElem_cons_succ, List.getElem_cons_zero, List.setIfInBounds_toArray, List.set_cons_zero, List.set_cons_succ]
          refine wpAnyH_take (i := 15) (v := ?_) rfl (by kernel_rfl) (by kernel_rfl) (by kernel_rfl) (fun _ _ _ h => h) (Or.inl ⟨by rfl, ?_⟩) (by assumption) ?_
          rotate_left
          · intro w hSw; (try dsimp only at hSw); go_simp; try with_reducible rfl
          try simp only [Act.put, List.getElem_toArray, List.getElem_cons_succ, List.getElem_cons_zero, List.setIfInBounds_toArray, List.set_cons_zero, List.set_cons_succ]
          refine wpAnyH_done (by kernel_rfl) ?_ _
          clear hHeld hckd hccd hck hcc
          obtain ⟨T1, t2, t3, t4, t5, t6, t7⟩ := H6.out.2
          obtain ⟨x1, kg6, n6, kcap6, c6, u1, u2, u3, u4, u5, u6, u7, u8, u9, hck6, hcc6, u12, u13⟩ := take_behind HX.out HF1.out HIX.out t2 t3 t6 t7
          have CE := isEmpty_any T1 c6 w6 B t3 u12
          have hea := emptyB_at t2 u12
          have HD6 := Lib.hid (show i < n6 ∧ n6 ≤ 4000000 from ⟨u8, by rw [u7]; exact Nat.le_trans (kids_le _ _) HL4.out⟩)
          cases hem : emptyB T1 c6
          · have HFIN := Lib.hid (TakeAt.keep (w := w) (Below.refl _ _).drew (fun _ _ _ h => h) HPI.out hb t2 t3 t4 t5 t6 t7 (by rw [← u13, ← hea]; exact hem) (Below.refl _ _) HBW.out)
            rw [hem] at CE
            have CE6 := Lib.hid CE
            clear CE hea hem t2 t3 t4 t5 t6 t7 u1 u2 u3 u4 u5 u6 u7 u9 u12 u13 H6
            go_wp2_with fail
            refine CE6.out.mono ?_
            rintro e w7 ⟨rfl, rfl⟩
            go_wp2
            go_ret
            exact HFIN.out
          · rw [hem] at CE
            have CE6 := Lib.hid CE
            have CD := delP_any x1.kidsV (ptrs (kids T1 x1.path)) i B w6 (by simp [ptrs, u6, u8]) (by simp [ptrs, u6]; exact HD6.out.2) (by intro u hu; obtain ⟨z, _, rfl⟩ := List.mem_map.1 hu; rfl) (by have := t3.kid x1 u1; simpa [ptrs] using this)
            rw [u9] at CD
            have HCD := Lib.hid CD
            have HKX := Lib.hid u9
            have HCUT := Lib.hid (fun (w3 : World) (v' : Value) => take_cut (w3 := w3) (v' := v') t3 t2 u1 u12 (by rw [u13, u2]) (Nat.le_trans HBW.out t4.size) u4 u5 hem)
            have HFIN := Lib.hid (fun (w3 : World) (T2 : List NodeM) => TakeAt.cut (w := w) (w3 := w3) (T2 := T2) (Below.refl _ _).drew (fun _ _ _ h => h) HPI.out hb t4 t5 t6 t7 (by rw [← u13, ← hea]; exact hem))
            have HXP := Lib.hid (show x1.ptr = x.ptr from u3)
            have HCP := Lib.hid u13
            have hi6 := HD6.out.1
            have hw1 : IntKind.i64.wrap ((i : Int) + 1) = (i : Int) + 1 := by have := HD6.out; rw [IntKind.wrap_i64]; omega
            clear CE CD hea hem t2 t3 t4 t5 t6 t7 u1 u2 u3 u4 u5 u6 u7 u9 u12 u13 H6
            go_wp2_with fail
            refine CE6.out.mono ?_
            rintro e w7 ⟨rfl, rfl⟩
            go_wp2_with fail
            refine HCD.out.mono ?_
            rintro e w8 ⟨v', rfl, hr3, hg3, hv3⟩
            have hct := HCUT.out w8 v' hr3 (by rw [HKX.out]; exact hg3) (by rw [HKX.out]; exact hv3)
            rw [HXP.out] at hct
            obtain ⟨⟨T2, k1, k2, k3, k4, k5, k6⟩, hc8, hf8⟩ := hct
            rw [HKX.out] at hc8
            rw [HCP.out] at k5 k6
            have HEND := Lib.hid (HFIN.out _ T2 k1 k2 k3 k4 k5 k6)
            obtain ⟨va, vc, hvs⟩ := own_slice hr3
            subst hvs
            clear hr3 hg3 hv3 k1 k2 k3 k4 k5 k6 hck6 hcc6
            go_wp2
            go_ret
            exact HEND.out
      · skip
        have CR := IH.out T c1 w.drew _ hc1 HTT.out (HNN.out.below (Below.refl _ _).drew) HBW.out (TextsRow.tail (q := q) (o := o) HPC.out (show w.drew.heap[g]? = _ from HG.out) HCS.out) HRR.out HLN.out
        rw [hcp] at CR
        rw [if_neg hp1] at CR
        have HC := Lib.hid CR
        clear CR
        refine wp_region_held_drew (S := fun _ => True) (by kernel_rfl) ?_ (fun hHeld => ?_)
        · trivial
        change wpAnyH _ _ _ _ _ 16 #[false, false, false, false, false, false, false, false, false, false, false, false, false, false, false, false] _ _
        have hckd : w.drew.cell? ⟨x.ptr, 2, none⟩ = some (.slice (some ⟨kg, 0, none⟩) kn kcap) := hck
        have hccd : w.drew.cell? ⟨kg, i, none⟩ = some (.pointer (some ⟨c1.ptr, 0, none⟩)) := hcc
        refine wpAnyH_take (i := 0) (v := ?_) rfl (by kernel_rfl) (by kernel_rfl) (by kernel_rfl) (fun _ _ _ h => h) (Or.inl ⟨by rfl, ?_⟩) (by assumption) ?_
        rotate_left
        · intro w hSw; (try dsimp only at hSw); go_simp; try with_reducible rfl
        try simp only [Act.put, List.getElem_toArray, List.getElem_cons_succ, List.getElem_cons_zero, List.setIfInBounds_toArray, List.set_cons_zero, List.set_cons_succ]
        refine wpAnyH_take (i := 1) (v := ?_) rfl (by kernel_rfl) (by kernel_rfl) (by kernel_rfl) (fun _ _ _ h => h) (Or.inl ⟨by rfl, ?_⟩) (by assumption) ?_
        rotate_left
        · intro w hSw; (try dsimp only at hSw); go_simp; try with_reducible rfl
        try simp only [Act.put, List.getElem_toArray, List.getElem_cons_succ, List.getElem_cons_zero, List.setIfInBounds_toArray, List.set_cons_zero, List.set_cons_succ]
        refine wpAnyH_take (i := 2) (v := ?_) rfl (by kernel_rfl) (by kernel_rfl) (by kernel_rfl) (fun _ _ _ h => h) (Or.inl ⟨by rfl, ?_⟩) (by assumption) ?_
        rotate_left
        · intro w hSw; (try dsimp only at hSw); go_simp; try with_reducible rfl
        try simp only [Act.put, List.getElem_toArray, List.getElem_cons_succ, List.getElem_cons_zero, List.setIfInBounds_toArray, List.set_cons_zero, List.set_cons_succ]
        refine wpAnyH_take (i := 3) (v := ?_) rfl (by kernel_rfl) (by kernel_rfl) (by kernel_rfl) (fun _ _ _ h => h) (Or.inl ⟨by rfl, ?_⟩) (by assumption) ?_
        rotate_left
        · intro w hSw; (try dsimp only at hSw); go_simp; try with_reducible rfl
        try simp only [Act.put, List.getElem_toArray, List.getElem_cons_succ, List.getElem_cons_zero, List.setIfInBounds_toArray, List.set_cons_zero, List.set_cons_succ]
        refine wpAnyH_take (i := 4) (v := ?_) rfl (by kernel_rfl) (by kernel_rfl) (by kernel_rfl) (fun _ _ _ h => h) (Or.inl ⟨by rfl, ?_⟩) (by assumption) ?_
        rotate_left
        · intro w hSw; (try dsimp only at hSw); go_simp; try with_reducible rfl
        try simp only [Act.put, List.getElem_toArray, List.getElem_cons_succ, List.getElem_cons_zero, List.setIfInBounds_toArray, List.set_cons_zero, List.set_cons_succ]
        refine wpAnyH_take (i := 5) (v := ?_) rfl (by kernel_rfl) (by kernel_rfl) (by kernel_rfl) (fun _ _ _ h => h) (Or.inl ⟨by rfl, ?_⟩) (by assumption) ?_
        rotate_left
        · intro w hSw; (try dsimp only at hSw); go_simp; try with_reducible rfl
        try simp only [Act.put, List.getElem_toArray, List.getElem_cons_succ, List.getElem_cons_zero, List.setIfInBounds_toArray, List.set_cons_zero, List.set_cons_succ]
        refine wpAnyH_take (i := 7) (v := ?_) rfl (by kernel_rfl) (by kernel_rfl) (by kernel_rfl) (fun _ _ _ h => h) (Or.inl ⟨by rfl, ?_⟩) (by assumption) ?_
        rotate_left
        · intro w hSw; (try dsimp only at hSw); go_simp; try with_reducible rfl
        try simp only [Act.put, List.getElem_toArray, List.getElem_cons_succ, List.getElem_cons_zero, List.setIfInBounds_toArray, List.set_cons_zero, List.set_cons_succ]
        refine wpAnyH_take (i := 10) (v := ?_) rfl (by kernel_rfl) (by kernel_rfl) (by kernel_rfl) (fun _ _ _ h => h) (Or.inl ⟨by rfl, ?_⟩) (by assumption) ?_
        rotate_left
        · intro w hSw; (try dsimp only at hSw); go_simp; try with_reducible rfl
        try simp only [Act.put, List.getElem_toArray, List.getElem_cons_succ, List.getElem_cons_zero, List.setIfInBounds_toArray, List.set_cons_zero, List.set_cons_succ]
        refine wpAnyH_take (i := 11) (v := ?_) rfl (by kernel_rfl) (by kernel_rfl) (by kernel_rfl) (fun _ _ _ h => h) (Or.inl ⟨by rfl, ?_⟩) (by assumption) ?_
        rotate_left
        · intro w hSw; (try dsimp only at hSw); go_simp; try with_reducible rfl
        try simp only [Act.put, List.getElem_toArray, List.getElem_cons_succ, List.getElem_cons_zero, List.setIfInBounds_toArray, List.set_cons_zero, List.set_cons_succ]
        refine wpAnyH_take (i := 12) (v := ?_) rfl (by kernel_rfl) (by kernel_rfl) (by kernel_rfl) (fun _ _ _ h => h) (Or.inl ⟨by rfl, ?_⟩) (by assumption) ?_
        rotate_left
        · intro w hSw; (try dsimp only at hSw); go_simp; try with_reducible rfl
        try simp only [Act.put, List.getElem_toArray, List.getElem_cons_succ, List.getElem_cons_zero, List.setIfInBounds_toArray, List.set_cons_zero, List.set_cons_succ]
        refine wpAnyH_ready (rs := [6]) (by kernel_rfl) (by simp) (AllReadyH.cons rfl (fun K hK => ?_) AllReadyH.nil)
        rw [if_pos (by rfl)]
        go_simp
        refine hK.out _ _ ?_ (fun hHeld => ?_)
        · trivial
        clear hK K
        try simp only [Act.put, List.getElem_toArray, List.getElem_cons_succ, List.getElem_cons_zero, List.setIfInBounds_toArray, List.set_cons_zero, List.set_cons_succ]
        refine wpAnyH_take (i := 8) (v := ?_) rfl (by kernel_rfl) (by kernel_rfl) (by kernel_rfl) (fun _ _ _ h => h) (Or.inl ⟨by rfl, ?_⟩) (by assumption) ?_
        rotate_left
        · intro w hSw; (try dsimp only at hSw); go_simp; try with_reducible rfl
        try simp only [Act.put, List.getElem_toArray, List.getElem_cons_succ, List.getElem_cons_zero, List.setIfInBounds_toArray, List.set_cons_zero, List.set_cons_succ]
        refine wpAnyH_ready (rs := [9]) (by kernel_rfl) (by simp) (AllReadyH.cons rfl (fun K hK => ?_) AllReadyH.nil)
        rw [if_pos (by rfl)]
        go_simp
        refine hK.out _ _ ?_ (fun hHeld => ?_)
        · trivial
        clear hK K
        try simp only [Act.put, List.getElem_toArray, List.getElem_cons_succ, List.getElem_cons_zero, List.setIfInBounds_toArray, List.set_cons_zero, List.set_cons_succ]
        cases b
        · skip
          refine wpAnyH_ready (rs := [13]) (by kernel_rfl) (by simp) (AllReadyH.cons rfl (fun K hK => ?_) AllReadyH.nil)
          rw [if_pos (by rfl)]
          go_simp; go_at_call 39; refine HC.out.mono ?_; rintro e w6 h6; obtain rfl : e = .returned (.bool false) := (by rw [h6.1, hb]); have H6 := Lib.hid h6; clear h6; go_wp2_with fail
          refine hK.out _ _ ?_ (fun hHeld => ?_)
          · trivial
          clear hK K
          try simp only [Act.put, List.getElem_toArray, List.getElem_cons_succ, List.getElem_cons_zero, List.setIfInBounds_toArray, List.set_cons_zero, List.set_cons_succ]
          refine wpAnyH_take (i := 14) (v := ?_) rfl (by kernel_rfl) (by kernel_rfl) (by kernel_rfl) (fun _ _ _ h => h) (Or.inl ⟨by rfl, ?_⟩) (by assumption) ?_
          rotate_left
          · intro w hSw; (try dsimp only at hSw); go_simp; try with_reducible rfl
          try simp only [Act.put, List.getElem_toArray, List.getElem_cons_succ, List.getElem_cons_zero, List.setIfInBounds_toArray, List.set_cons_zero, List.set_cons_succ]
          refine wpAnyH_take (i := 15) (v := ?_) rfl (by kernel_rfl) (by kernel_rfl) (by kernel_rfl) (fun _ _ _ h => h) (Or.inl ⟨by rfl, ?_⟩) (by assumption) ?_
          rotate_left
          · intro w hSw; (try dsimp only at hSw); go_simp; try with_reducible rfl
          try simp only [Act.put, List.getElem_toArray, List.getElem_cons_succ, List.getElem_cons_zero, List.setIfInBounds_toArray, List.set_cons_zero, List.set_cons_succ]
          refine wpAnyH_done (by kernel_rfl) ?_ _
          clear hHeld hckd hccd hck hcc
          go_wp2
          go_ret
          exact TakeAt.no (Below.refl _ _).drew (fun _ _ _ h => h) HPI.out H6.out (Below.refl _ _) HBW.out
        · skip
          refine wpAnyH_ready (rs := [13]) (by kernel_rfl) (by simp) (AllReadyH.cons rfl (fun K hK => ?_) AllReadyH.nil)
          rw [if_pos (by rfl)]
          go_simp; go_at_call 39; refine HC.out.mono ?_; rintro e w6 h6; obtain rfl : e = .returned (.bool true) := (by rw [h6.1, hb]); have H6 := Lib.hid h6; clear h6; go_wp2_with fail
          refine hK.out _ _ ?_ (fun hHeld => ?_)
          · trivial
          clear hK K
          try simp only [Act.put, List.getElem_toArray, List.getElem_cons_succ, List.getElem_cons_zero, List.setIfInBounds_toArray, List.set_cons_zero, List.set_cons_succ]
          refine wpAnyH_take (i := 14) (v := ?_) rfl (by kernel_rfl) (by kernel_rfl) (by kernel_rfl) (fun _ _ _ h => h) (Or.inl ⟨by rfl, ?_⟩) (by assumption) ?_
          rotate_left
          · intro w hSw; (try dsimp only at hSw); go_simp; try with_reducible rfl
          try simp only [Act.put, List.getElem_toArray, List.getElem_cons_succ, List.getElem_cons_zero, List.setIfInBounds_toArray, List.set_cons_zero, List.set_cons_succ]
          refine wpAnyH_take (i := 15) (v := ?_) rfl (by kernel_rfl) (by kernel_rfl) (by kernel_rfl) (fun _ _ _ h => h) (Or.inl ⟨by rfl, ?_⟩) (by assumption) ?_
          rotate_left
          · intro w hSw; (try dsimp only at hSw); go_simp; try with_reducible rfl
          try simp only [Act.put, List.getElem_toArray, List.getElem_cons_succ, List.getElem_cons_zero, List.setIfInBounds_toArray, List.set_cons_zero, List.set_cons_succ]
          refine wpAnyH_done (by kernel_rfl) ?_ _
          clear hHeld hckd hccd hck hcc
          obtain ⟨T1, t2, t3, t4, t5, t6, t7⟩ := H6.out.2
          obtain ⟨x1, kg6, n6, kcap6, c6, u1, u2, u3, u4, u5, u6, u7, u8, u9, hck6, hcc6, u12, u13⟩ := take_behind HX.out HF1.out HIX.out t2 t3 t6 t7
          have CE := isEmpty_any T1 c6 w6 B t3 u12
          have hea := emptyB_at t2 u12
          have HD6 := Lib.hid (show i < n6 ∧ n6 ≤ 4000000 from ⟨u8, by rw [u7]; exact Nat.le_trans (kids_le _ _) HL4.out⟩)
          cases hem : emptyB T1 c6
          · have HFIN := Lib.hid (TakeAt.keep (w := w) (Below.refl _ _).drew (fun _ _ _ h => h) HPI.out hb t2 t3 t4 t5 t6 t7 (by rw [← u13, ← hea]; exact hem) (Below.refl _ _) HBW.out)
            rw [hem] at CE
            have CE6 := Lib.hid CE
            clear CE hea hem t2 t3 t4 t5 t6 t7 u1 u2 u3 u4 u5 u6 u7 u9 u12 u13 H6
            go_wp2_with fail
            refine CE6.out.mono ?_
            rintro e w7 ⟨rfl, rfl⟩
            go_wp2
            go_ret
            exact HFIN.out
          · rw [hem] at CE
            have CE6 := Lib.hid CE
            have CD := delP_any x1.kidsV (ptrs (kids T1 x1.path)) i B w6 (by simp [ptrs, u6, u8]) (by simp [ptrs, u6]; exact HD6.out.2) (by intro u hu; obtain ⟨z, _, rfl⟩ := List.mem_map.1 hu; rfl) (by have := t3.kid x1 u1; simpa [ptrs] using this)
            rw [u9] at CD
            have HCD := Lib.hid CD
            have HKX := Lib.hid u9
            have HCUT := Lib.hid (fun (w3 : World) (v' : Value) => take_cut (w3 := w3) (v' := v') t3 t2 u1 u12 (by rw [u13, u2]) (Nat.le_trans HBW.out t4.size) u4 u5 hem)
            have HFIN := Lib.hid (fun (w3 : World) (T2 : List NodeM) => TakeAt.cut (w := w) (w3 := w3) (T2 := T2) (Below.refl _ _).drew (fun _ _ _ h => h) HPI.out hb t4 t5 t6 t7 (by rw [← u13, ← hea]; exact hem))
            have HXP := Lib.hid (show x1.ptr = x.ptr from u3)
            have HCP := Lib.hid u13
            have hi6 := HD6.out.1
            have hw1 : IntKind.i64.wrap ((i : Int) + 1) = (i : Int) + 1 := by have := HD6.out; rw [IntKind.wrap_i64]; omega
            clear CE CD hea hem t2 t3 t4 t5 t6 t7 u1 u2 u3 u4 u5 u6 u7 u9 u12 u13 H6
            go_wp2_with fail
            refine CE6.out.mono ?_
            rintro e w7 ⟨rfl, rfl⟩
            go_wp2_with fail
            refine HCD.out.mono ?_
            rintro e w8 ⟨v', rfl, hr3, hg3, hv3⟩
            have hct := HCUT.out w8 v' hr3 (by rw [HKX.out]; exact hg3) (by rw [HKX.out]; exact hv3)
            rw [HXP.out] at hct
            obtain ⟨⟨T2, k1, k2, k3, k4, k5, k6⟩, hc8, hf8⟩ := hct
            rw [HKX.out] at hc8
            rw [HCP.out] at k5 k6
            have HEND := Lib.hid (HFIN.out _ T2 k1 k2 k3 k4 k5 k6)
            obtain ⟨va, vc, hvs⟩ := own_slice hr3
            subst hvs
            clear hr3 hg3 hv3 k1 k2 k3 k4 k5 k6 hck6 hcc6
            go_wp2
            go_ret
            exact HEND.out

end Go.Proofs.YtcpoodhbakkmcaaGreatDoor
