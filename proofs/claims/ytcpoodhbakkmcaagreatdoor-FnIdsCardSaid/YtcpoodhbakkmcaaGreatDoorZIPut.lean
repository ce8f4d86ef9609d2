/- The walk of (*node).put: a number put in below a node. -/
import Derived.Test.YtcpoodhbakkmcaaGreatDoorZB7
import Derived.Test.YtcpoodhbakkmcaaGreatDoorZInsP
import Derived.Test.YtcpoodhbakkmcaaGreatDoorZNode2
import Derived.Deep.RegionHeld
set_option linter.unusedSimpArgs false
set_option linter.unusedVariables false
namespace Go.Proofs.YtcpoodhbakkmcaaGreatDoor
open Go.RowKit

/-- The child is there: what the rest of put needs. -/
structure Ready (w W : World) (B : Nat) (T T1 : List NodeM) (x x1 : NodeM) (q : ByteArray) (i : Nat) : Prop where
  nodes : Nodes W B T1
  tree : TreeOk T1
  mem : x1 ∈ T1
  path : x1.path = x.path
  ptr : x1.ptr = x.ptr
  fnd : found (kids T1 x.path) q.data.toList = true
  ix : idx (kids T1 x.path) q.data.toList = i
  keys : T1.map keyOf = insP (T.map keyOf) (x.path ++ [q.data.toList])
  below : Below B w W
  keeps : KeepsS w W
  all : ∀ y ∈ T, ∃ z ∈ T1, z.path = y.path ∧ z.ptr = y.ptr
  ris : ∀ y ∈ T1, rises y.ids = true
  len : T1.length ≤ T.length + 1

theorem Ready.cells {w W : World} {B : Nat} {T T1 : List NodeM} {x x1 : NodeM} {q : ByteArray} {i : Nat} (h : Ready w W B T T1 x x1 q i) :
    ∃ kg n kcap c, i < n ∧ W.cell? ⟨x.ptr, 2, none⟩ = some (.slice (some ⟨kg, 0, none⟩) n kcap) ∧ W.cell? ⟨kg, i, none⟩ = some (.pointer (some ⟨c.ptr, 0, none⟩)) ∧ c ∈ T1 ∧ c.path = x.path ++ [q.data.toList] := by
  obtain ⟨hix, hlast⟩ := found_at h.fnd
  rw [h.ix] at hix
  have hcm := List.getElem_mem hix
  simp only [h.ix] at hlast
  have hcp := (kids_mem.1 hcm).2
  rw [hlast] at hcp
  obtain ⟨kg, kcap, hkv, hkc⟩ := kid_cell h.nodes h.mem (k := i) (by rw [h.path]; exact hix)
  have hk2 := (h.nodes.box x1 h.mem).2.kids
  rw [hkv, h.ptr] at hk2
  simp only [h.path] at hk2 hkc
  exact ⟨kg, _, kcap, (kids T1 x.path)[i], hix, hk2, hkc i hix, (kids_mem.1 hcm).1, hcp⟩

/-- A child laid in: what the rest of put needs. -/
theorem put_ready {w wb w3 : World} {B i : Nat} {T : List NodeM} {x : NodeM} {q : ByteArray} {v' : Value} (hN : Nodes w B T) (hT : TreeOk T) (hx : x ∈ T) (hB : B ≤ w.heap.size) (hr : ∀ y ∈ T, rises y.ids = true) (hgq : Good (x.path ++ [q.data.toList]))
    (hf : found (kids T x.path) q.data.toList = false) (hi : idx (kids T x.path) q.data.toList = i) (hGb : Below w.heap.size w wb) (hbn : wb.heap[w.heap.size]? = some (.cells #[.string q, .slice none 0 0, .slice none 0 0] 65 (0, 0)))
    (hr3 : w3.ownsRow B 45 1 v' ((ptrs (kids T x.path)).length + 1) ((ptrs (kids T x.path)).take i ++ .pointer (some ⟨w.heap.size, 0, none⟩) :: (ptrs (kids T x.path)).drop i))
    (hg3 : wb.grownBy w3 x.kidsV.ownBlock) (hv3 : v'.ownBlock = x.kidsV.ownBlock ∨ v'.ownBlock = some wb.heap.size) :
    (∃ T1 x1, Ready w (w3.setCell ⟨x.ptr, 2, none⟩ v') B T T1 x x1 q i) ∧ w3.cell? ⟨x.ptr, 2, none⟩ = some x.kidsV ∧ w3.frozen? ⟨x.ptr, 2, none⟩ = false := by
  have n1 : 2 ≠ 65 := by decide
  have n2 : 45 ≠ 65 := by decide
  have n3 : 2 ≠ 45 := by decide
  have Nb := hN.below hGb
  have hboxb := (Nb.box x hx).2
  have hbox3 : w3.heap[x.ptr]? = some (.cells #[.string (bts x.last), x.idsV, x.kidsV] 65 (0, 0)) :=
    (hg3.block x.ptr (Array.getElem?_eq_some_iff.1 hboxb).1 (fun e => own_not_at (Nb.kid x hx) hboxb n2 e.symm)).trans hboxb
  have hbn3 : w3.heap[w.heap.size]? = some (.cells #[.string q, .slice none 0 0, .slice none 0 0] 65 (0, 0)) :=
    (hg3.block _ (Array.getElem?_eq_some_iff.1 hbn).1 (fun e => own_not_at (Nb.kid x hx) hbn n2 e.symm)).trans hbn
  have hne : w.heap.size ≠ x.ptr := by have := (Array.getElem?_eq_some_iff.1 (hN.box x hx).2).1; omega
  have G3 : GrownL w w3 [boxV x, x.idsV, x.kidsV] := (GrownL.below hGb).trans (.grown (x := x.kidsV) hg3 (by simp))
  have G4 : GrownL w (w3.setCell ⟨x.ptr, 2, none⟩ v') [boxV x, x.idsV, x.kidsV] := G3.setCell (x := boxV x) (by simp) rfl 2 v'
  have hids3 : w3.ownsRow B 2 1 x.idsV x.ids.length (ints x.ids) := (Nb.ids x hx).kept hg3 (by rcases apart_types (Nb.ids x hx) (Nb.kid x hx) n3 with h | h; exact .inl h; exact .inr h)
  have hpl : (ptrs (kids T x.path)).length = (kids T x.path).length := by simp [ptrs]
  obtain ⟨T1, h1, h2, h3, h4, h5, h6, h7⟩ := hN.put (b := w.heap.size) (p := q.data.toList) (kv := v') hT hx hgq hB hf G4 (by rw [heap_setCell hbox3]; rfl) (own_kept hids3 (own_not_at hids3 hbox3 n1))
    (own_kept (by rw [hi, ← hpl]; exact hr3) (own_not_at hr3 hbox3 n2)) (by
      rcases hv3 with h | h
      · exact .inl h
      · exact .inr (fun b e => by rw [h] at e; cases e; exact hGb.size)) (Nat.le_refl _) (by rw [Below.heap_setCell _ _ _ _ (by show w.heap.size ≠ x.ptr; exact hne)]; exact hbn3)
  obtain ⟨x1, hx1, e1, e2⟩ := h5 x hx
  refine ⟨⟨T1, x1, ⟨h2, h1, hx1, e1, e2, h6, h7.trans hi, h3, G4.toBelow hB (hN.from hx), KeepsS.grown G4 (hN.noText hx), h5, rises_ins hT hgq hr h3, by omega⟩⟩, by rw [cell_of_heap hbox3]; rfl, free_of_heap hbox3⟩



set_option maxRecDepth 100000 in
set_option maxHeartbeats 6400000 in
theorem put_any (id : Int) (B : Nat) : ∀ (r : List ByteArray) (T : List NodeM) (x : NodeM) (w : World) (pv : Value), x ∈ T → TreeOk T → Nodes w B T → B ≤ w.heap.size → TextsRow w pv r → Good (x.path ++ lists r) → (∀ y ∈ T, rises y.ids = true) → T.length + r.length ≤ 4000000 →
    Calls Tryz.prog 21 #[.pointer (some ⟨x.ptr, 0, none⟩), pv, .int .i64 id] w fun e w' => PutAt id w B T x.path r e w' := by
  intro r
  induction r with
  | nil =>
    intro T x w pv hx hT hN hB hp hg hr hl
    obtain ⟨a, c, rfl, _, _⟩ := hp
    have CP := Lib.hid (putId_any T x id w B hN hT hx hB (hr x hx))
    have HPA : Hid (∀ e w', (e = .returned (.bool (!(hasId x.ids id))) ∧ ∃ T', TreeOk T' ∧ Nodes w' B T' ∧ Below B w w' ∧ KeepsS w w' ∧ pp T' = pp T ∧ T'.map keyOf = if hasId x.ids id then T.map keyOf else addAt (T.map keyOf) x.path id) → PutAt id w B T x.path [] e w') := Lib.hid (by
      rintro e w' ⟨h1, T', h2, h3, h4, h5, h6, h7⟩
      have e1 : idsAt (T.map keyOf) x.path = x.ids := idsAt_of (tree_paths hT) (List.mem_map_of_mem hx)
      refine ⟨?_, T', h2, h3, h4, h5, same_pp h6, ?_⟩
      · rw [h1, show lists [] = [] from rfl, putKeys, e1]; split
        · rename_i h; rw [h]; rfl
        · rename_i h; rw [Bool.not_eq_true] at h; rw [h]; rfl
      · rw [h7, show lists [] = [] from rfl, putKeys, e1]; split <;> rfl)
    clear hx hT hN hg hr hl hB
    obtain ⟨b, hb⟩ : ∃ b, (!(hasId x.ids id)) = b := ⟨_, rfl⟩
    rw [hb] at CP HPA
    go_enter Tryz.func21, Tryz.ntmps21
    go_wp2_with fail
    refine CP.out.mono ?_
    rintro e w' ⟨rfl, h⟩
    have H := Lib.hid h
    clear h CP hb
    go_wp2
    go_ret
    exact HPA.out _ _ ⟨rfl, H.out⟩
  | cons q r IH0 =>
    intro T x w pv hx hT hN hB hp hg hr hl
    obtain ⟨a, c, rfl, hpc, hpp⟩ := hp
    obtain ⟨g, o, cur, f, rfl, hgc, hcs⟩ : ∃ g o cur f, a = some ⟨g, o, none⟩ ∧ w.heap[g]? = some (.cells cur 9 f) ∧ ∀ j (h : j < (q :: r).length), cur[o + j]? = some (.string (q :: r)[j]) := by
      rcases hpp with h | h
      · cases h
      · exact h
    have hq : w.cell? ⟨g, o, none⟩ = some (.string q) := by rw [cell_of_heap hgc]; have := hcs 0 (by simp); simpa using this
    have CK := Lib.hid (kidIdx_any T x q w B hN hT hx (by simp at hl; omega))
    have HPC : Hid (r.length + 1 ≤ c) := Lib.hid (by simpa using hpc)
    have HCS := Lib.hid hcs
    have hge : x.path ++ [q.data.toList] ++ lists r = x.path ++ lists (q :: r) := by simp [lists]
    have HGD : Hid (Good (x.path ++ [q.data.toList] ++ lists r)) := Lib.hid (by rw [hge]; exact hg)
    have hgq : Good (x.path ++ [q.data.toList]) := fun p hp => HGD.out p (List.mem_append_left _ hp)
    clear hge
    have hz : (((r.length + 1 : Nat) : Int) == 0) = false := by rw [beq_eq_false_iff_ne]; omega
    have hz2 : decide ((0 : Int) < ((r.length + 1 : Nat) : Int)) = true := decide_eq_true (by omega)
    have hz3 : (1 : Int) ≤ (r.length : Int) + 1 := by omega
    have IH := Lib.hid IH0
    clear IH0
    have HG := Lib.hid hgc
    have HBW := Lib.hid hB
    rw [List.length_cons] at hl hpc ⊢
    have hpc1 : 1 ≤ c := by omega
    obtain ⟨i, hi⟩ : ∃ i, idx (kids T x.path) q.data.toList = i := ⟨_, rfl⟩
    rw [hi] at CK
    have HLN : Hid (T.length + r.length + 1 ≤ 4000000) := Lib.hid hl
    cases hf : found (kids T x.path) q.data.toList
    · rw [hf] at CK
      have hkl := kids_le T x.path
      have hic : i ≤ (kids T x.path).length := by rw [← hi]; exact List.countP_le_length
      obtain ⟨wa, hwa⟩ : ∃ wa, (w.alloc (.cells #[.string q, .slice none 0 0, .slice none 0 0] 65)).drew = wa := ⟨_, rfl⟩
      have hA1 : Below w.heap.size w wa := by rw [← hwa]; exact ((Below.refl _ _).alloc (Nat.le_refl _) _).drew
      have hbn1 : wa.heap[w.heap.size]? = some (.cells #[.string q, .slice none 0 0, .slice none 0 0] 65 (0, 0)) := by rw [← hwa]; exact heap_alloc_new w _
      have hsa : wa.heap.size = w.heap.size + 1 := by rw [← hwa]; simp
      obtain ⟨wb, hwb⟩ : ∃ wb, wa.alloc (.cells #[.pointer (some ⟨w.heap.size, 0, none⟩)] 45) = wb := ⟨_, rfl⟩
      have hA2 : Below wa.heap.size wa wb := by rw [← hwb]; exact (Below.refl _ _).alloc (Nat.le_refl _) _
      have hsl : wb.heap[wa.heap.size]? = some (.cells #[.pointer (some ⟨w.heap.size, 0, none⟩)] 45 (0, 0)) := by rw [← hwb]; exact heap_alloc_new wa _
      have hGb : Below w.heap.size w wb := below_end hA1 hA2
      have Nb := hN.below hGb
      have CI := insP_any x.kidsV (ptrs (kids T x.path)) i (.pointer (some ⟨w.heap.size, 0, none⟩)) wa.heap.size B wb (by simpa [ptrs] using hic) (by simp [ptrs]; omega) (by intro u hu; obtain ⟨z, _, rfl⟩ := List.mem_map.1 hu; rfl) rfl (Nat.le_trans hB hGb.size) (by have := Nb.kid x hx; simpa [ptrs] using this) hsl (fun k hk => by have := (hN.kid x hx).lt k hk; omega)
      obtain ⟨ka, kc, hkv⟩ := own_slice (hN.kid x hx)
      have hck := (hN.box x hx).2.kids
      rw [hkv] at hck
      obtain ⟨kn, hkn⟩ : ∃ kn, (kids T x.path).length = kn := ⟨_, rfl⟩
      rw [hkn] at hkv hck
      have HKV := Lib.hid hkv
      have CI2 := Lib.hid CI
      rw [hkv] at CI2
      have HWA := Lib.hid hwa
      have HWB := Lib.hid hwb
      have hqa : wa.cell? ⟨g, o, none⟩ = some (.string q) := (hA1.cell (World.block_lt_of_cell? _ _ hq)).trans hq
      have hqb : wb.cell? ⟨g, o, none⟩ = some (.string q) := (hGb.cell (World.block_lt_of_cell? _ _ hq)).trans hq
      have HGB := Lib.hid hGb
      have HNB := Lib.hid Nb
      have HSA := Lib.hid hsa
      have HBN := Lib.hid ((hA2.block _ (by omega)).trans hbn1)
      have HFN := Lib.hid hf
      have HII := Lib.hid hi
      have HNN := Lib.hid hN
      have HTT := Lib.hid hT
      have HGQ := Lib.hid hgq
      have HRR := Lib.hid hr
      have HKN := Lib.hid hkn
      clear CI hwa hwb hGb Nb hsa hbn1 hsl hA1 hA2 hf hi hr hg hgq hT hN hB hgc hcs hl hpp hkv hkl hic hkn
      go_enter Tryz.func21, Tryz.ntmps21
      go_wp2_with fail
      refine CK.out.mono ?_
      rintro e w' ⟨rfl, rfl⟩
      clear CK
      go_wp2_with fail
      refine wp_region_held_drew (S := fun wx => wx.cell? ⟨g, o, none⟩ = some (.string q)) (by kernel_rfl) ?_ (fun hHeld => ?_)
      · exact hq
      change wpAnyH _ _ _ _ _ 16 #[false, false, false, false, false, false, false, false, false, false, false, false, false, false, false, false] _ _
      have hckd : w.drew.cell? ⟨x.ptr, 2, none⟩ = some (.slice ka kn kc) := hck
      have hcka : wa.cell? ⟨x.ptr, 2, none⟩ = some (.slice ka kn kc) := by rw [← HWA.out]; exact (((Below.refl w.heap.size w).alloc (Nat.le_refl _) _).cell (World.block_lt_of_cell? _ _ hck)).trans hck
      have hckb : wb.cell? ⟨x.ptr, 2, none⟩ = some (.slice ka kn kc) := (HGB.out.cell (World.block_lt_of_cell? _ _ hck)).trans hck
      refine wpAnyH_take (i := 0) (v := ?_) rfl (by kernel_rfl) (by kernel_rfl) (by kernel_rfl) (fun _ _ _ h => h) (Or.inl ⟨by rfl, ?_⟩) (by assumption) ?_
      rotate_left
      · intro w hSw; (try dsimp only at hSw); go_simp; try with_reducible rfl
      try simp only [Act.put, List.getElem_toArray, List.getElem_cons_succ, List.getElem_cons_zero, List.setIfInBounds_toArray, List.set_cons_zero, List.set_cons_succ]
      refine wpAnyH_take (i := 1) (v := ?_) rfl (by kernel_rfl) (by kernel_rfl) (by kernel_rfl) (fun _ _ _ h => h) (Or.inl ⟨by rfl, ?_⟩) (by assumption) ?_
      rotate_left
      · intro w hSw; (try dsimp only at hSw); go_simp; try with_reducible rfl
      try simp only [Act.put, List.getElem_toArray, List.getElem_cons_succ, List.getElem_cons_zero, List.setIfInBounds_toArray, List.set_cons_zero, List.set_cons_succ]
      refine wpAnyH_take (i := 2) (v := ?_) rfl (by kernel_rfl) (by kernel_rfl) (by kernel_rfl) (fun _ _ _ h => h) (Or.inl ⟨by rfl, ?_⟩) (by assumption) ?_
      rotate_left
      · intro w hSw; (try dsimp only at hSw); go_simp; try with_reducible rfl
      try simp only [Act.put, List.getElem_toArray, List.getElem_cons_succ, List.getElem_cons_zero, List.setIfInBounds_toArray, List.set_cons_zero, List.set_cons_succ]
      refine wpAnyH_take (i := 3) (v := ?_) rfl (by kernel_rfl) (by kernel_rfl) (by kernel_rfl) (fun _ _ _ h => h) (Or.inl ⟨by rfl, ?_⟩) (by assumption) ?_
      rotate_left
      · intro w hSw; (try dsimp only at hSw); go_simp; try with_reducible rfl
      try simp only [Act.put, List.getElem_toArray, List.getElem_cons_succ, List.getElem_cons_zero, List.setIfInBounds_toArray, List.set_cons_zero, List.set_cons_succ]
      refine wpAnyH_take (i := 5) (v := ?_) rfl (by kernel_rfl) (by kernel_rfl) (by kernel_rfl) (fun _ _ _ h => h) (Or.inl ⟨by rfl, ?_⟩) (by assumption) ?_
      rotate_left
      · intro w hSw; (try dsimp only at hSw); go_simp; try with_reducible rfl
      try simp only [Act.put, List.getElem_toArray, List.getElem_cons_succ, List.getElem_cons_zero, List.setIfInBounds_toArray, List.set_cons_zero, List.set_cons_succ]
      refine wpAnyH_take (i := 6) (v := ?_) rfl (by kernel_rfl) (by kernel_rfl) (by kernel_rfl) (fun _ _ _ h => h) (Or.inl ⟨by rfl, ?_⟩) (by assumption) ?_
      rotate_left
      · intro w hSw; (try dsimp only at hSw); go_simp; try with_reducible rfl
      try simp only [Act.put, List.getElem_toArray, List.getElem_cons_succ, List.getElem_cons_zero, List.setIfInBounds_toArray, List.set_cons_zero, List.set_cons_succ]
      refine wpAnyH_take (i := 7) (v := ?_) rfl (by kernel_rfl) (by kernel_rfl) (by kernel_rfl) (fun _ _ _ h => h) (Or.inl ⟨by rfl, ?_⟩) (by assumption) ?_
      rotate_left
      · intro w hSw; (try dsimp only at hSw); go_simp; try with_reducible rfl
      try simp only [Act.put, List.getElem_toArray, List.getElem_cons_succ, List.getElem_cons_zero, List.setIfInBounds_toArray, List.set_cons_zero, List.set_cons_succ]
      refine wpAnyH_take (i := 8) (v := ?_) rfl (by kernel_rfl) (by kernel_rfl) (by kernel_rfl) (fun _ _ _ h => h) (Or.inl ⟨by rfl, ?_⟩) (by assumption) ?_
      rotate_left
      · intro w hSw; (try dsimp only at hSw); go_simp; try with_reducible rfl
      try simp only [Act.put, List.getElem_toArray, List.getElem_cons_succ, List.getElem_cons_zero, List.setIfInBounds_toArray, List.set_cons_zero, List.set_cons_succ]
      refine wpAnyH_take (i := 9) (v := ?_) rfl (by kernel_rfl) (by kernel_rfl) (by kernel_rfl) (fun _ _ _ h => h) (Or.inl ⟨by rfl, ?_⟩) (by assumption) ?_
      rotate_left
      · intro w hSw; (try dsimp only at hSw); go_simp; try with_reducible rfl
      try simp only [Act.put, List.getElem_toArray, List.getElem_cons_succ, List.getElem_cons_zero, List.setIfInBounds_toArray, List.set_cons_zero, List.set_cons_succ]
      refine wpAnyH_ready (rs := [4, 10]) (by kernel_rfl) (by simp) (AllReadyH.cons rfl (fun K hK => ?_) (AllReadyH.cons rfl (fun K hK => ?_) AllReadyH.nil))
      · skip
        rw [if_pos (by rfl)]
        go_simp
        refine hK.out _ _ ?_ (fun hHeld => ?_)
        · exact hHeld
        clear hK K
        try simp only [Act.put, List.getElem_toArray, List.getElem_cons_succ, List.getElem_cons_zero, List.setIfInBounds_toArray, List.set_cons_zero, List.set_cons_succ]
        refine wpAnyH_ready (rs := [10]) (by kernel_rfl) (by simp) (AllReadyH.cons rfl (fun K hK => ?_) AllReadyH.nil)
        rw [if_pos (by rfl)]
        go_simp
        refine hK.out _ _ ?_ (fun hHeld => ?_)
        · rw [HWA.out]; exact hqa
        clear hK K
        try simp only [Act.put, List.getElem_toArray, List.getElem_cons_succ, List.getElem_cons_zero, List.setIfInBounds_toArray, List.set_cons_zero, List.set_cons_succ]
        rw [HWA.out]
        refine wpAnyH_ready (rs := [11]) (by kernel_rfl) (by simp) (AllReadyH.cons rfl (fun K hK => ?_) AllReadyH.nil)
        rw [if_pos (by rfl)]
        go_simp
        refine hK.out _ _ ?_ (fun hHeld => ?_)
        · rw [HWB.out]; exact hqb
        clear hK K
        try simp only [Act.put, List.getElem_toArray, List.getElem_cons_succ, List.getElem_cons_zero, List.setIfInBounds_toArray, List.set_cons_zero, List.set_cons_succ]
        rw [HWB.out]
        refine wpAnyH_ready (rs := [12]) (by kernel_rfl) (by simp) (AllReadyH.cons rfl (fun K hK => ?_) AllReadyH.nil)
        rw [if_pos (by rfl)]
        go_simp; go_at_call 45; refine CI2.out.mono ?_; rintro e w3 ⟨v', rfl, hr3, hg3, hv3⟩; go_wp2_with fail
        refine hK.out _ _ ?_ (fun hHeld => ?_)
        · exact (hg3.cell hqb (fun e => by have h := HNB.out.kid x hx; rw [HKV.out] at h; exact own_not_at h ((HGB.out.block g (Array.getElem?_eq_some_iff.1 HG.out).1).trans HG.out) (by decide) e.symm))
        clear hK K
        try simp only [Act.put, List.getElem_toArray, List.getElem_cons_succ, List.getElem_cons_zero, List.setIfInBounds_toArray, List.set_cons_zero, List.set_cons_succ]
        have hPR := put_ready HNN.out HTT.out hx HBW.out HRR.out HGQ.out HFN.out HII.out HGB.out HBN.out hr3 (by rw [HKV.out]; exact hg3) (by rw [HKV.out]; exact hv3)
        obtain ⟨va, vc, hvs⟩ := own_slice hr3
        obtain ⟨⟨T1, x1, hD⟩, hc3, hf3⟩ := hPR
        rw [HKV.out] at hc3
        subst hvs
        obtain ⟨W1, hW1⟩ : ∃ W1, w3.setCell ⟨x.ptr, 2, none⟩ (.slice va ((ptrs (kids T x.path)).length + 1) vc) = W1 := ⟨_, rfl⟩
        rw [hW1] at hD
        have HD := Lib.hid hD
        have HW1 := Lib.hid hW1
        have hqw : W1.cell? ⟨g, o, none⟩ = some (.string q) := by
          have := HD.out.keeps g cur f HG.out
          rw [cell_of_heap this]; have := HCS.out 0 (by simp); simpa using this
        clear hr3 hg3 hv3 hD hW1
        refine wpAnyH_take (i := 13) (v := ?_) rfl (by kernel_rfl) (by kernel_rfl) (by kernel_rfl) (fun _ _ _ h => h) (Or.inl ⟨by rfl, ?_⟩) (by assumption) ?_
        rotate_left
        · intro w hSw; (try dsimp only at hSw); go_simp; try with_reducible rfl
        try simp only [Act.put, List.getElem_toArray, List.getElem_cons_succ, List.getElem_cons_zero, List.setIfInBounds_toArray, List.set_cons_zero, List.set_cons_succ]
        refine wpAnyH_take (i := 14) (v := ?_) rfl (by kernel_rfl) (by kernel_rfl) (by kernel_rfl) (fun _ _ _ h => h) (Or.inl ⟨by rfl, ?_⟩) (by assumption) ?_
        rotate_left
        · intro w hSw; (try dsimp only at hSw); go_simp; try with_reducible rfl
        try simp only [Act.put, List.getElem_toArray, List.getElem_cons_succ, List.getElem_cons_zero, List.setIfInBounds_toArray, List.set_cons_zero, List.set_cons_succ]
        refine wpAnyH_ready (rs := [15]) (by kernel_rfl) (by simp) (AllReadyH.cons rfl (fun K hK => ?_) AllReadyH.nil)
        rw [if_pos (by rfl)]
        go_simp
        refine hK.out _ _ ?_ (fun hHeld => ?_)
        · rw [HW1.out]; exact hqw
        clear hK K
        try simp only [Act.put, List.getElem_toArray, List.getElem_cons_succ, List.getElem_cons_zero, List.setIfInBounds_toArray, List.set_cons_zero, List.set_cons_succ]
        rw [HW1.out]
        refine wpAnyH_done (by kernel_rfl) ?_ _
        clear hHeld hckd hcka hckb hck
        have hq := hqw
        go_wp2_with fail
        by_cases hp1 : c = 1
        · subst hp1
          have hr0 : r.length = 0 := by omega
          obtain ⟨kg, kn, kcap, c1, hik, hck, hcc, hc1, hcp⟩ := HD.out.cells
          have CR := IH.out T1 c1 W1.drew _ hc1 HD.out.tree (HD.out.nodes.below (Below.refl _ _).drew) (Nat.le_trans HBW.out HD.out.below.size) (TextsRow.tail (q := q) (o := o) HPC.out (show W1.drew.heap[g]? = _ from HD.out.keeps g cur f HG.out) HCS.out) (by rw [hcp]; exact HGD.out) HD.out.ris (by have := HD.out.len; have := HLN.out; omega)
          rw [hcp] at CR
          simp only [hr0, Nat.sub_self, ↓reduceIte] at CR
          have HC := Lib.hid CR
          have HST := Lib.hid (fun e w' (h : PutAt id W1.drew B T1 (x.path ++ [q.data.toList]) r e w') => PutAt.step HD.out.keys HD.out.below.drew HD.out.keeps HD.out.all h)
          clear CR hcp hc1
          refine wp_region_held_drew (S := fun _ => True) (by kernel_rfl) ?_ (fun hHeld => ?_)
          · trivial
          change wpAnyH _ _ _ _ _ 12 #[false, false, false, false, false, false, false, false, false, false, false, false] _ _
          have hck : W1.drew.cell? ⟨x.ptr, 2, none⟩ = some (.slice (some ⟨kg, 0, none⟩) kn kcap) := hck
          have hcc : W1.drew.cell? ⟨kg, i, none⟩ = some (.pointer (some ⟨c1.ptr, 0, none⟩)) := hcc
          refine wpAnyH_take (i := 0) (v := ?_) rfl (by kernel_rfl) (by kernel_rfl) (by kernel_rfl) (fun _ _ _ h => h) (Or.inl ⟨by rfl, ?_⟩) (by assumption) ?_
          rotate_left
          · intro w hSw; (try dsimp only at hSw); go_simp; try with_reducible rfl
          try simp only [Act.put, List.getElem_toArray, List.getElem_cons_succ, List.getElem_cons_zero, List.setIfInBounds_toArray, List.set_cons_zero, List.set_cons_succ]
          refine wpAnyH_take (i := 1) (v := ?_) rfl (by kernel_rfl) (by kernel_rfl) (by kernel_rfl) (fun _ _ _ h => h) (Or.inl ⟨by rfl, ?_⟩) (by assumption) ?_
          rotate_left
          · intro w hSw; (try dsimp only at hSw); go_simp; try with_reducible rfl
          try simp only [Act.put, List.getElem_toArray, List.getElem_cons_succ, List.getElem_cons_zero, List.setIfInBounds_toArray, List.set_cons_zero, List.set_cons_succ]
          refine wpAnyH_take (i := 2) (v := ?_) rfl (by kernel_rfl) (by kernel_rfl) (by kernel_rfl) (fun _ _ _ h => h) (Or.inl ⟨by rfl, ?_⟩) (by assumption) ?_
          rotate_left
          · intro w hSw; (try dsimp only at hSw); go_simp; try with_reducible rfl
          try simp only [Act.put, List.getElem_toArray, List.getElem_cons_succ, List.getElem_cons_zero, List.setIfInBounds_toArray, List.set_cons_zero, List.set_cons_succ]
          refine wpAnyH_take (i := 4) (v := ?_) rfl (by kernel_rfl) (by kernel_rfl) (by kernel_rfl) (fun _ _ _ h => h) (Or.inl ⟨by rfl, ?_⟩) (by assumption) ?_
          rotate_left
          · intro w hSw; (try dsimp only at hSw); go_simp; try with_reducible rfl
          try simp only [Act.put, List.getElem_toArray, List.getElem_cons_succ, List.getElem_cons_zero, List.setIfInBounds_toArray, List.set_cons_zero, List.set_cons_succ]
          refine wpAnyH_take (i := 7) (v := ?_) rfl (by kernel_rfl) (by kernel_rfl) (by kernel_rfl) (fun _ _ _ h => h) (Or.inl ⟨by rfl, ?_⟩) (by assumption) ?_
          rotate_left
          · intro w hSw; (try dsimp only at hSw); go_simp; try with_reducible rfl
          try simp only [Act.put, List.getElem_toArray, List.getElem_cons_succ, List.getElem_cons_zero, List.setIfInBounds_toArray, List.set_cons_zero, List.set_cons_succ]
          refine wpAnyH_take (i := 8) (v := ?_) rfl (by kernel_rfl) (by kernel_rfl) (by kernel_rfl) (fun _ _ _ h => h) (Or.inl ⟨by rfl, ?_⟩) (by assumption) ?_
          rotate_left
          · intro w hSw; (try dsimp only at hSw); go_simp; try with_reducible rfl
          try simp only [Act.put, List.getElem_toArray, List.getElem_cons_succ, List.getElem_cons_zero, List.setIfInBounds_toArray, List.set_cons_zero, List.set_cons_succ]
          refine wpAnyH_take (i := 9) (v := ?_) rfl (by kernel_rfl) (by kernel_rfl) (by kernel_rfl) (fun _ _ _ h => h) (Or.inl ⟨by rfl, ?_⟩) (by assumption) ?_
          rotate_left
          · intro w hSw; (try dsimp only at hSw); go_simp; try with_reducible rfl
          try simp only [Act.put, List.getElem_toArray, List.getElem_cons_succ, List.getElem_cons_zero, List.setIfInBounds_toArray, List.set_cons_zero, List.set_cons_succ]
          refine wpAnyH_ready (rs := [3]) (by kernel_rfl) (by simp) (AllReadyH.cons rfl (fun K hK => ?_) AllReadyH.nil)
          rw [if_pos (by rfl)]
          go_simp
          refine hK.out _ _ ?_ (fun hHeld => ?_)
          · trivial
          clear hK K
          try simp only [Act.put, List.getElem_toArray, List.getElem_cons_succ, List.getElem_cons_zero, List.setIfInBounds_toArray, List.set_cons_zero, List.set_cons_succ]
          refine wpAnyH_take (i := 5) (v := ?_) rfl (by kernel_rfl) (by kernel_rfl) (by kernel_rfl) (fun _ _ _ h => h) (Or.inl ⟨by rfl, ?_⟩) (by assumption) ?_
          rotate_left
          · intro w hSw; (try dsimp only at hSw); go_simp; try with_reducible rfl
          try simp only [Act.put, List.getElem_toArray, List.getElem_cons_succ, List.getElem_cons_zero, List.setIfInBounds_toArray, List.set_cons_zero, List.set_cons_succ]
          refine wpAnyH_ready (rs := [6]) (by kernel_rfl) (by simp) (AllReadyH.cons rfl (fun K hK => ?_) AllReadyH.nil)
          rw [if_pos (by rfl)]
          go_simp
          refine hK.out _ _ ?_ (fun hHeld => ?_)
          · trivial
          clear hK K
          try simp only [Act.put, List.getElem_toArray, List.getElem_cons_succ, List.getElem_cons_zero, List.setIfInBounds_toArray, List.set_cons_zero, List.set_cons_succ]
          refine wpAnyH_ready (rs := [10]) (by kernel_rfl) (by simp) (AllReadyH.cons rfl (fun K hK => ?_) AllReadyH.nil)
          rw [if_pos (by rfl)]
          go_simp; go_at_call 21; refine HC.out.mono ?_; rintro e w6 h6; have H6 := Lib.hid h6; obtain ⟨rfl, _⟩ := h6; go_wp2_with fail
          refine hK.out _ _ ?_ (fun hHeld => ?_)
          · trivial
          clear hK K
          try simp only [Act.put, List.getElem_toArray, List.getElem_cons_succ, List.getElem_cons_zero, List.setIfInBounds_toArray, List.set_cons_zero, List.set_cons_succ]
          refine wpAnyH_take (i := 11) (v := ?_) rfl (by kernel_rfl) (by kernel_rfl) (by kernel_rfl) (fun _ _ _ h => h) (Or.inl ⟨by rfl, ?_⟩) (by assumption) ?_
          rotate_left
          · intro w hSw; (try dsimp only at hSw); go_simp; try with_reducible rfl
          try simp only [Act.put, List.getElem_toArray, List.getElem_cons_succ, List.getElem_cons_zero, List.setIfInBounds_toArray, List.set_cons_zero, List.set_cons_succ]
          refine wpAnyH_done (by kernel_rfl) ?_ _
          go_wp2
          go_ret
          exact HST.out _ _ H6.out
        · skip
          obtain ⟨kg, kn, kcap, c1, hik, hck, hcc, hc1, hcp⟩ := HD.out.cells
          have CR := IH.out T1 c1 W1.drew _ hc1 HD.out.tree (HD.out.nodes.below (Below.refl _ _).drew) (Nat.le_trans HBW.out HD.out.below.size) (TextsRow.tail (q := q) (o := o) HPC.out (show W1.drew.heap[g]? = _ from HD.out.keeps g cur f HG.out) HCS.out) (by rw [hcp]; exact HGD.out) HD.out.ris (by have := HD.out.len; have := HLN.out; omega)
          rw [hcp] at CR
          rw [if_neg hp1] at CR
          have HC := Lib.hid CR
          have HST := Lib.hid (fun e w' (h : PutAt id W1.drew B T1 (x.path ++ [q.data.toList]) r e w') => PutAt.step HD.out.keys HD.out.below.drew HD.out.keeps HD.out.all h)
          clear CR hcp hc1
          refine wp_region_held_drew (S := fun _ => True) (by kernel_rfl) ?_ (fun hHeld => ?_)
          · trivial
          change wpAnyH _ _ _ _ _ 12 #[false, false, false, false, false, false, false, false, false, false, false, false] _ _
          have hck : W1.drew.cell? ⟨x.ptr, 2, none⟩ = some (.slice (some ⟨kg, 0, none⟩) kn kcap) := hck
          have hcc : W1.drew.cell? ⟨kg, i, none⟩ = some (.pointer (some ⟨c1.ptr, 0, none⟩)) := hcc
          refine wpAnyH_take (i := 0) (v := ?_) rfl (by kernel_rfl) (by kernel_rfl) (by kernel_rfl) (fun _ _ _ h => h) (Or.inl ⟨by rfl, ?_⟩) (by assumption) ?_
          rotate_left
          · intro w hSw; (try dsimp only at hSw); go_simp; try with_reducible rfl
          try simp only [Act.put, List.getElem_toArray, List.getElem_cons_succ, List.getElem_cons_zero, List.setIfInBounds_toArray, List.set_cons_zero, List.set_cons_succ]
          refine wpAnyH_take (i := 1) (v := ?_) rfl (by kernel_rfl) (by kernel_rfl) (by kernel_rfl) (fun _ _ _ h => h) (Or.inl ⟨by rfl, ?_⟩) (by assumption) ?_
          rotate_left
          · intro w hSw; (try dsimp only at hSw); go_simp; try with_reducible rfl
          try simp only [Act.put, List.getElem_toArray, List.getElem_cons_succ, List.getElem_cons_zero, List.setIfInBounds_toArray, List.set_cons_zero, List.set_cons_succ]
          refine wpAnyH_take (i := 2) (v := ?_) rfl (by kernel_rfl) (by kernel_rfl) (by kernel_rfl) (fun _ _ _ h => h) (Or.inl ⟨by rfl, ?_⟩) (by assumption) ?_
          rotate_left
          · intro w hSw; (try dsimp only at hSw); go_simp; try with_reducible rfl
          try simp only [Act.put, List.getElem_toArray, List.getElem_cons_succ, List.getElem_cons_zero, List.setIfInBounds_toArray, List.set_cons_zero, List.set_cons_succ]
          refine wpAnyH_take (i := 4) (v := ?_) rfl (by kernel_rfl) (by kernel_rfl) (by kernel_rfl) (fun _ _ _ h => h) (Or.inl ⟨by rfl, ?_⟩) (by assumption) ?_
          rotate_left
          · intro w hSw; (try dsimp only at hSw); go_simp; try with_reducible rfl
          try simp only [Act.put, List.getElem_toArray, List.getElem_cons_succ, List.getElem_cons_zero, List.setIfInBounds_toArray, List.set_cons_zero, List.set_cons_succ]
          refine wpAnyH_take (i := 7) (v := ?_) rfl (by kernel_rfl) (by kernel_rfl) (by kernel_rfl) (fun _ _ _ h => h) (Or.inl ⟨by rfl, ?_⟩) (by assumption) ?_
          rotate_left
          · intro w hSw; (try dsimp only at hSw); go_simp; try with_reducible rfl
          try simp only [Act.put, List.getElem_toArray, List.getElem_cons_succ, List.getElem_cons_zero, List.setIfInBounds_toArray, List.set_cons_zero, List.set_cons_succ]
          refine wpAnyH_take (i := 8) (v := ?_) rfl (by kernel_rfl) (by kernel_rfl) (by kernel_rfl) (fun _ _ _ h => h) (Or.inl ⟨by rfl, ?_⟩) (by assumption) ?_
          rotate_left
          · intro w hSw; (try dsimp only at hSw); go_simp; try with_reducible rfl
          try simp only [Act.put, List.getElem_toArray, List.getElem_cons_succ, List.getElem_cons_zero, List.setIfInBounds_toArray, List.set_cons_zero, List.set_cons_succ]
          refine wpAnyH_take (i := 9) (v := ?_) rfl (by kernel_rfl) (by kernel_rfl) (by kernel_rfl) (fun _ _ _ h => h) (Or.inl ⟨by rfl, ?_⟩) (by assumption) ?_
          rotate_left
          · intro w hSw; (try dsimp only at hSw); go_simp; try with_reducible rfl
          try simp only [Act.put, List.getElem_toArray, List.getElem_cons_succ, List.getElem_cons_zero, List.setIfInBounds_toArray, List.set_cons_zero, List.set_cons_succ]
          refine wpAnyH_ready (rs := [3]) (by kernel_rfl) (by simp) (AllReadyH.cons rfl (fun K hK => ?_) AllReadyH.nil)
          rw [if_pos (by rfl)]
          go_simp
          refine hK.out _ _ ?_ (fun hHeld => ?_)
          · trivial
          clear hK K
          try simp only [Act.put, List.getElem_toArray, List.getElem_cons_succ, List.getElem_cons_zero, List.setIfInBounds_toArray, List.set_cons_zero, List.set_cons_succ]
          refine wpAnyH_take (i := 5) (v := ?_) rfl (by kernel_rfl) (by kernel_rfl) (by kernel_rfl) (fun _ _ _ h => h) (Or.inl ⟨by rfl, ?_⟩) (by assumption) ?_
          rotate_left
          · intro w hSw; (try dsimp only at hSw); go_simp; try with_reducible rfl
          try simp only [Act.put, List.getElem_toArray, List.getElem_cons_succ, List.getElem_cons_zero, List.setIfInBounds_toArray, List.set_cons_zero, List.set_cons_succ]
          refine wpAnyH_ready (rs := [6]) (by kernel_rfl) (by simp) (AllReadyH.cons rfl (fun K hK => ?_) AllReadyH.nil)
          rw [if_pos (by rfl)]
          go_simp
          refine hK.out _ _ ?_ (fun hHeld => ?_)
          · trivial
          clear hK K
          try simp only [Act.put, List.getElem_toArray, List.getElem_cons_succ, List.getElem_cons_zero, List.setIfInBounds_toArray, List.set_cons_zero, List.set_cons_succ]
          refine wpAnyH_ready (rs := [10]) (by kernel_rfl) (by simp) (AllReadyH.cons rfl (fun K hK => ?_) AllReadyH.nil)
          rw [if_pos (by rfl)]
          go_simp; go_at_call 21; refine HC.out.mono ?_; rintro e w6 h6; have H6 := Lib.hid h6; obtain ⟨rfl, _⟩ := h6; go_wp2_with fail
          refine hK.out _ _ ?_ (fun hHeld => ?_)
          · trivial
          clear hK K
          try simp only [Act.put, List.getElem_toArray, List.getElem_cons_succ, List.getElem_cons_zero, List.setIfInBounds_toArray, List.set_cons_zero, List.set_cons_succ]
          refine wpAnyH_take (i := 11) (v := ?_) rfl (by kernel_rfl) (by kernel_rfl) (by kernel_rfl) (fun _ _ _ h => h) (Or.inl ⟨by rfl, ?_⟩) (by assumption) ?_
          rotate_left
          · intro w hSw; (try dsimp only at hSw); go_simp; try with_reducible rfl
          try simp only [Act.put, List.getElem_toArray, List.getElem_cons_succ, List.getElem_cons_zero, List.setIfInBounds_toArray, List.set_cons_zero, List.set_cons_succ]
          refine wpAnyH_done (by kernel_rfl) ?_ _
          go_wp2
          go_ret
          exact HST.out _ _ H6.out
      · skip
        rw [if_pos (by rfl)]
        go_simp
        refine hK.out _ _ ?_ (fun hHeld => ?_)
        · rw [HWA.out]; exact hqa
        clear hK K
        try simp only [Act.put, List.getElem_toArray, List.getElem_cons_succ, List.getElem_cons_zero, List.setIfInBounds_toArray, List.set_cons_zero, List.set_cons_succ]
        rw [HWA.out]
        refine wpAnyH_ready (rs := [4, 11]) (by kernel_rfl) (by simp) (AllReadyH.cons rfl (fun K hK => ?_) (AllReadyH.cons rfl (fun K hK => ?_) AllReadyH.nil))
        · skip
          rw [if_pos (by rfl)]
          go_simp
          refine hK.out _ _ ?_ (fun hHeld => ?_)
          · exact hqa
          clear hK K
          try simp only [Act.put, List.getElem_toArray, List.getElem_cons_succ, List.getElem_cons_zero, List.setIfInBounds_toArray, List.set_cons_zero, List.set_cons_succ]
          refine wpAnyH_ready (rs := [11]) (by kernel_rfl) (by simp) (AllReadyH.cons rfl (fun K hK => ?_) AllReadyH.nil)
          rw [if_pos (by rfl)]
          go_simp
          refine hK.out _ _ ?_ (fun hHeld => ?_)
          · rw [HWB.out]; exact hqb
          clear hK K
          try simp only [Act.put, List.getElem_toArray, List.getElem_cons_succ, List.getElem_cons_zero, List.setIfInBounds_toArray, List.set_cons_zero, List.set_cons_succ]
          rw [HWB.out]
          refine wpAnyH_ready (rs := [12]) (by kernel_rfl) (by simp) (AllReadyH.cons rfl (fun K hK => ?_) AllReadyH.nil)
          rw [if_pos (by rfl)]
          go_simp; go_at_call 45; refine CI2.out.mono ?_; rintro e w3 ⟨v', rfl, hr3, hg3, hv3⟩; go_wp2_with fail
          refine hK.out _ _ ?_ (fun hHeld => ?_)
          · exact (hg3.cell hqb (fun e => by have h := HNB.out.kid x hx; rw [HKV.out] at h; exact own_not_at h ((HGB.out.block g (Array.getElem?_eq_some_iff.1 HG.out).1).trans HG.out) (by decide) e.symm))
          clear hK K
          try simp only [Act.put, List.getElem_toArray, List.getElem_cons_succ, List.getElem_cons_zero, List.setIfInBounds_toArray, List.set_cons_zero, List.set_cons_succ]
          have hPR := put_ready HNN.out HTT.out hx HBW.out HRR.out HGQ.out HFN.out HII.out HGB.out HBN.out hr3 (by rw [HKV.out]; exact hg3) (by rw [HKV.out]; exact hv3)
          obtain ⟨va, vc, hvs⟩ := own_slice hr3
          obtain ⟨⟨T1, x1, hD⟩, hc3, hf3⟩ := hPR
          rw [HKV.out] at hc3
          subst hvs
          obtain ⟨W1, hW1⟩ : ∃ W1, w3.setCell ⟨x.ptr, 2, none⟩ (.slice va ((ptrs (kids T x.path)).length + 1) vc) = W1 := ⟨_, rfl⟩
          rw [hW1] at hD
          have HD := Lib.hid hD
          have HW1 := Lib.hid hW1
          have hqw : W1.cell? ⟨g, o, none⟩ = some (.string q) := by
            have := HD.out.keeps g cur f HG.out
            rw [cell_of_heap this]; have := HCS.out 0 (by simp); simpa using this
          clear hr3 hg3 hv3 hD hW1
          refine wpAnyH_take (i := 13) (v := ?_) rfl (by kernel_rfl) (by kernel_rfl) (by kernel_rfl) (fun _ _ _ h => h) (Or.inl ⟨by rfl, ?_⟩) (by assumption) ?_
          rotate_left
          · intro w hSw; (try dsimp only at hSw); go_simp; try with_reducible rfl
          try simp only [Act.put, List.getElem_toArray, List.getElem_cons_succ, List.getElem_cons_zero, List.setIfInBounds_toArray, List.set_cons_zero, List.set_cons_succ]
          refine wpAnyH_take (i := 14) (v := ?_) rfl (by kernel_rfl) (by kernel_rfl) (by kernel_rfl) (fun _ _ _ h => h) (Or.inl ⟨by rfl, ?_⟩) (by assumption) ?_
          rotate_left
          · intro w hSw; (try dsimp only at hSw); go_simp; try with_reducible rfl
          try simp only [Act.put, List.getElem_toArray, List.getElem_cons_succ, List.getElem_cons_zero, List.setIfInBounds_toArray, List.set_cons_zero, List.set_cons_succ]
          refine wpAnyH_ready (rs := [15]) (by kernel_rfl) (by simp) (AllReadyH.cons rfl (fun K hK => ?_) AllReadyH.nil)
          rw [if_pos (by rfl)]
          go_simp
          refine hK.out _ _ ?_ (fun hHeld => ?_)
          · rw [HW1.out]; exact hqw
          clear hK K
          try simp only [Act.put, List.getElem_toArray, List.getElem_cons_succ, List.getElem_cons_zero, List.setIfInBounds_toArray, List.set_cons_zero, List.set_cons_succ]
          rw [HW1.out]
          refine wpAnyH_done (by kernel_rfl) ?_ _
          clear hHeld hckd hcka hckb hck
          have hq := hqw
          go_wp2_with fail
          by_cases hp1 : c = 1
          · subst hp1
            have hr0 : r.length = 0 := by omega
            obtain ⟨kg, kn, kcap, c1, hik, hck, hcc, hc1, hcp⟩ := HD.out.cells
            have CR := IH.out T1 c1 W1.drew _ hc1 HD.out.tree (HD.out.nodes.below (Below.refl _ _).drew) (Nat.le_trans HBW.out HD.out.below.size) (TextsRow.tail (q := q) (o := o) HPC.out (show W1.drew.heap[g]? = _ from HD.out.keeps g cur f HG.out) HCS.out) (by rw [hcp]; exact HGD.out) HD.out.ris (by have := HD.out.len; have := HLN.out; omega)
            rw [hcp] at CR
            simp only [hr0, Nat.sub_self, ↓reduceIte] at CR
            have HC := Lib.hid CR
            have HST := Lib.hid (fun e w' (h : PutAt id W1.drew B T1 (x.path ++ [q.data.toList]) r e w') => PutAt.step HD.out.keys HD.out.below.drew HD.out.keeps HD.out.all h)
            clear CR hcp hc1
            refine wp_region_held_drew (S := fun _ => True) (by kernel_rfl) ?_ (fun hHeld => ?_)
            · trivial
            change wpAnyH _ _ _ _ _ 12 #[false, false, false, false, false, false, false, false, false, false, false, false] _ _
            have hck : W1.drew.cell? ⟨x.ptr, 2, none⟩ = some (.slice (some ⟨kg, 0, none⟩) kn kcap) := hck
            have hcc : W1.drew.cell? ⟨kg, i, none⟩ = some (.pointer (some ⟨c1.ptr, 0, none⟩)) := hcc
            refine wpAnyH_take (i := 0) (v := ?_) rfl (by kernel_rfl) (by kernel_rfl) (by kernel_rfl) (fun _ _ _ h => h) (Or.inl ⟨by rfl, ?_⟩) (by assumption) ?_
            rotate_left
            · intro w hSw; (try dsimp only at hSw); go_simp; try with_reducible rfl
            try simp only [Act.put, List.getElem_toArray, List.getElem_cons_succ, List.getElem_cons_zero, List.setIfInBounds_toArray, List.set_cons_zero, List.set_cons_succ]
            refine wpAnyH_take (i := 1) (v := ?_) rfl (by kernel_rfl) (by kernel_rfl) (by kernel_rfl) (fun _ _ _ h => h) (Or.inl ⟨by rfl, ?_⟩) (by assumption) ?_
            rotate_left
            · intro w hSw; (try dsimp only at hSw); go_simp; try with_reducible rfl
            try simp only [Act.put, List.getElem_toArray, List.getElem_cons_succ, List.getElem_cons_zero, List.setIfInBounds_toArray, List.set_cons_zero, List.set_cons_succ]
            refine wpAnyH_take (i := 2) (v := ?_) rfl (by kernel_rfl) (by kernel_rfl) (by kernel_rfl) (fun _ _ _ h => h) (Or.inl ⟨by rfl, ?_⟩) (by assumption) ?_
            rotate_left
            · intro w hSw; (try dsimp only at hSw); go_simp; try with_reducible rfl
            try simp only [Act.put, List.getElem_toArray, List.getElem_cons_succ, List.getElem_cons_zero, List.setIfInBounds_toArray, List.set_cons_zero, List.set_cons_succ]
            refine wpAnyH_take (i := 4) (v := ?_) rfl (by kernel_rfl) (by kernel_rfl) (by kernel_rfl) (fun _ _ _ h => h) (Or.inl ⟨by rfl, ?_⟩) (by assumption) ?_
            rotate_left
            · intro w hSw; (try dsimp only at hSw); go_simp; try with_reducible rfl
            try simp only [Act.put, List.getElem_toArray, List.getElem_cons_succ, List.getElem_cons_zero, List.setIfInBounds_toArray, List.set_cons_zero, List.set_cons_succ]
            refine wpAnyH_take (i := 7) (v := ?_) rfl (by kernel_rfl) (by kernel_rfl) (by kernel_rfl) (fun _ _ _ h => h) (Or.inl ⟨by rfl, ?_⟩) (by assumption) ?_
            rotate_left
            · intro w hSw; (try dsimp only at hSw); go_simp; try with_reducible rfl
            try simp only [Act.put, List.getElem_toArray, List.getElem_cons_succ, List.getElem_cons_zero, List.setIfInBounds_toArray, List.set_cons_zero, List.set_cons_succ]
            refine wpAnyH_take (i := 8) (v := ?_) rfl (by kernel_rfl) (by kernel_rfl) (by kernel_rfl) (fun _ _ _ h => h) (Or.inl ⟨by rfl, ?_⟩) (by assumption) ?_
            rotate_left
            · intro w hSw; (try dsimp only at hSw); go_simp; try with_reducible rfl
            try simp only [Act.put, List.getElem_toArray, List.getElem_cons_succ, List.getElem_cons_zero, List.setIfInBounds_toArray, List.set_cons_zero, List.set_cons_succ]
            refine wpAnyH_take (i := 9) (v := ?_) rfl (by kernel_rfl) (by kernel_rfl) (by kernel_rfl) (fun _ _ _ h => h) (Or.inl ⟨by rfl, ?_⟩) (by assumption) ?_
            rotate_left
            · intro w hSw; (try dsimp only at hSw); go_simp; try with_reducible rfl
            try simp only [Act.put, List.getElem_toArray, List.getElem_cons_succ, List.getElem_cons_zero, List.setIfInBounds_toArray, List.set_cons_zero, List.set_cons_succ]
            refine wpAnyH_ready (rs := [3]) (by kernel_rfl) (by simp) (AllReadyH.cons rfl (fun K hK => ?_) AllReadyH.nil)
            rw [if_pos (by rfl)]
            go_simp
            refine hK.out _ _ ?_ (fun hHeld => ?_)
            · trivial
            clear hK K
            try simp only [Act.put, List.getElem_toArray, List.getElem_cons_succ, List.getElem_cons_zero, List.setIfInBounds_toArray, List.set_cons_zero, List.set_cons_succ]
            refine wpAnyH_take (i := 5) (v := ?_) rfl (by kernel_rfl) (by kernel_rfl) (by kernel_rfl) (fun _ _ _ h => h) (Or.inl ⟨by rfl, ?_⟩) (by assumption) ?_
            rotate_left
            · intro w hSw; (try dsimp only at hSw); go_simp; try with_reducible rfl
            try simp only [Act.put, List.getElem_toArray, List.getElem_cons_succ, List.getElem_cons_zero, List.setIfInBounds_toArray, List.set_cons_zero, List.set_cons_succ]
            refine wpAnyH_ready (rs := [6]) (by kernel_rfl) (by simp) (AllReadyH.cons rfl (fun K hK => ?_) AllReadyH.nil)
            rw [if_pos (by rfl)]
            go_simp
            refine hK.out _ _ ?_ (fun hHeld => ?_)
            · trivial
            clear hK K
            try simp only [Act.put, List.getElem_toArray, List.getElem_cons_succ, List.getElem_cons_zero, List.setIfInBounds_toArray, List.set_cons_zero, List.set_cons_succ]
            refine wpAnyH_ready (rs := [10]) (by kernel_rfl) (by simp) (AllReadyH.cons rfl (fun K hK => ?_) AllReadyH.nil)
            rw [if_pos (by rfl)]
            go_simp; go_at_call 21; refine HC.out.mono ?_; rintro e w6 h6; have H6 := Lib.hid h6; obtain ⟨rfl, _⟩ := h6; go_wp2_with fail
            refine hK.out _ _ ?_ (fun hHeld => ?_)
            · trivial
            clear hK K
            try simp only [Act.put, List.getElem_toArray, List.getElem_cons_succ, List.getElem_cons_zero, List.setIfInBounds_toArray, List.set_cons_zero, List.set_cons_succ]
            refine wpAnyH_take (i := 11) (v := ?_) rfl (by kernel_rfl) (by kernel_rfl) (by kernel_rfl) (fun _ _ _ h => h) (Or.inl ⟨by rfl, ?_⟩) (by assumption) ?_
            rotate_left
            · intro w hSw; (try dsimp only at hSw); go_simp; try with_reducible rfl
            try simp only [Act.put, List.getElem_toArray, List.getElem_cons_succ, List.getElem_cons_zero, List.setIfInBounds_toArray, List.set_cons_zero, List.set_cons_succ]
            refine wpAnyH_done (by kernel_rfl) ?_ _
            go_wp2
            go_ret
            exact HST.out _ _ H6.out
          · skip
            obtain ⟨kg, kn, kcap, c1, hik, hck, hcc, hc1, hcp⟩ := HD.out.cells
            have CR := IH.out T1 c1 W1.drew _ hc1 HD.out.tree (HD.out.nodes.below (Below.refl _ _).drew) (Nat.le_trans HBW.out HD.out.below.size) (TextsRow.tail (q := q) (o := o) HPC.out (show W1.drew.heap[g]? = _ from HD.out.keeps g cur f HG.out) HCS.out) (by rw [hcp]; exact HGD.out) HD.out.ris (by have := HD.out.len; have := HLN.out; omega)
            rw [hcp] at CR
            rw [if_neg hp1] at CR
            have HC := Lib.hid CR
            have HST := Lib.hid (fun e w' (h : PutAt id W1.drew B T1 (x.path ++ [q.data.toList]) r e w') => PutAt.step HD.out.keys HD.out.below.drew HD.out.keeps HD.out.all h)
            clear CR hcp hc1
            refine wp_region_held_drew (S := fun _ => True) (by kernel_rfl) ?_ (fun hHeld => ?_)
            · trivial
            change wpAnyH _ _ _ _ _ 12 #[false, false, false, false, false, false, false, false, false, false, false, false] _ _
            have hck : W1.drew.cell? ⟨x.ptr, 2, none⟩ = some (.slice (some ⟨kg, 0, none⟩) kn kcap) := hck
            have hcc : W1.drew.cell? ⟨kg, i, none⟩ = some (.pointer (some ⟨c1.ptr, 0, none⟩)) := hcc
            refine wpAnyH_take (i := 0) (v := ?_) rfl (by kernel_rfl) (by kernel_rfl) (by kernel_rfl) (fun _ _ _ h => h) (Or.inl ⟨by rfl, ?_⟩) (by assumption) ?_
            rotate_left
            · intro w hSw; (try dsimp only at hSw); go_simp; try with_reducible rfl
            try simp only [Act.put, List.getElem_toArray, List.getElem_cons_succ, List.getElem_cons_zero, List.setIfInBounds_toArray, List.set_cons_zero, List.set_cons_succ]
            refine wpAnyH_take (i := 1) (v := ?_) rfl (by kernel_rfl) (by kernel_rfl) (by kernel_rfl) (fun _ _ _ h => h) (Or.inl ⟨by rfl, ?_⟩) (by assumption) ?_
            rotate_left
            · intro w hSw; (try dsimp only at hSw); go_simp; try with_reducible rfl
            try simp only [Act.put, List.getElem_toArray, List.getElem_cons_succ, List.getElem_cons_zero, List.setIfInBounds_toArray, List.set_cons_zero, List.set_cons_succ]
            refine wpAnyH_take (i := 2) (v := ?_) rfl (by kernel_rfl) (by kernel_rfl) (by kernel_rfl) (fun _ _ _ h => h) (Or.inl ⟨by rfl, ?_⟩) (by assumption) ?_
            rotate_left
            · intro w hSw; (try dsimp only at hSw); go_simp; try with_reducible rfl
            try simp only [Act.put, List.getElem_toArray, List.getElem_cons_succ, List.getElem_cons_zero, List.setIfInBounds_toArray, List.set_cons_zero, List.set_cons_succ]
            refine wpAnyH_take (i := 4) (v := ?_) rfl (by kernel_rfl) (by kernel_rfl) (by kernel_rfl) (fun _ _ _ h => h) (Or.inl ⟨by rfl, ?_⟩) (by assumption) ?_
            rotate_left
            · intro w hSw; (try dsimp only at hSw); go_simp; try with_reducible rfl
            try simp only [Act.put, List.getElem_toArray, List.getElem_cons_succ, List.getElem_cons_zero, List.setIfInBounds_toArray, List.set_cons_zero, List.set_cons_succ]
            refine wpAnyH_take (i := 7) (v := ?_) rfl (by kernel_rfl) (by kernel_rfl) (by kernel_rfl) (fun _ _ _ h => h) (Or.inl ⟨by rfl, ?_⟩) (by assumption) ?_
            rotate_left
            · intro w hSw; (try dsimp only at hSw); go_simp; try with_reducible rfl
            try simp only [Act.put, List.getElem_toArray, List.getElem_cons_succ, List.getElem_cons_zero, List.setIfInBounds_toArray, List.set_cons_zero, List.set_cons_succ]
            refine wpAnyH_take (i := 8) (v := ?_) rfl (by kernel_rfl) (by kernel_rfl) (by kernel_rfl) (fun _ _ _ h => h) (Or.inl ⟨by rfl, ?_⟩) (by assumption) ?_
            rotate_left
            · intro w hSw; (try dsimp only at hSw); go_simp; try with_reducible rfl
            try simp only [Act.put, List.getElem_toArray, List.getElem_cons_succ, List.getElem_cons_zero, List.setIfInBounds_toArray, List.set_cons_zero, List.set_cons_succ]
            refine wpAnyH_take (i := 9) (v := ?_) rfl (by kernel_rfl) (by kernel_rfl) (by kernel_rfl) (fun _ _ _ h => h) (Or.inl ⟨by rfl, ?_⟩) (by assumption) ?_
            rotate_left
            · intro w hSw; (try dsimp only at hSw); go_simp; try with_reducible rfl
            try simp only [Act.put, List.getElem_toArray, List.getElem_cons_succ, List.getElem_cons_zero, List.setIfInBounds_toArray, List.set_cons_zero, List.set_cons_succ]
            refine wpAnyH_ready (rs := [3]) (by kernel_rfl) (by simp) (AllReadyH.cons rfl (fun K hK => ?_) AllReadyH.nil)
            rw [if_pos (by rfl)]
            go_simp
            refine hK.out _ _ ?_ (fun hHeld => ?_)
            · trivial
            clear hK K
            try simp only [Act.put, List.getElem_toArray, List.getElem_cons_succ, List.getElem_cons_zero, List.setIfInBounds_toArray, List.set_cons_zero, List.set_cons_succ]
            refine wpAnyH_take (i := 5) (v := ?_) rfl (by kernel_rfl) (by kernel_rfl) (by kernel_rfl) (fun _ _ _ h => h) (Or.inl ⟨by rfl, ?_⟩) (by assumption) ?_
            rotate_left
            · intro w hSw; (try dsimp only at hSw); go_simp; try with_reducible rfl
            try simp only [Act.put, List.getElem_toArray, List.getElem_cons_succ, List.getElem_cons_zero, List.setIfInBounds_toArray, List.set_cons_zero, List.set_cons_succ]
            refine wpAnyH_ready (rs := [6]) (by kernel_rfl) (by simp) (AllReadyH.cons rfl (fun K hK => ?_) AllReadyH.nil)
            rw [if_pos (by rfl)]
            go_simp
            refine hK.out _ _ ?_ (fun hHeld => ?_)
            · trivial
            clear hK K
            try simp only [Act.put, List.getElem_toArray, List.getElem_cons_succ, List.getElem_cons_zero, List.setIfInBounds_toArray, List.set_cons_zero, List.set_cons_succ]
            refine wpAnyH_ready (rs := [10]) (by kernel_rfl) (by simp) (AllReadyH.cons rfl (fun K hK => ?_) AllReadyH.nil)
            rw [if_pos (by rfl)]
            go_simp; go_at_call 21; refine HC.out.mono ?_; rintro e w6 h6; have H6 := Lib.hid h6; obtain ⟨rfl, _⟩ := h6; go_wp2_with fail
            refine hK.out _ _ ?_ (fun hHeld => ?_)
            · trivial
            clear hK K
            try simp only [Act.put, List.getElem_toArray, List.getElem_cons_succ, List.getElem_cons_zero, List.setIfInBounds_toArray, List.set_cons_zero, List.set_cons_succ]
            refine wpAnyH_take (i := 11) (v := ?_) rfl (by kernel_rfl) (by kernel_rfl) (by kernel_rfl) (fun _ _ _ h => h) (Or.inl ⟨by rfl, ?_⟩) (by assumption) ?_
            rotate_left
            · intro w hSw; (try dsimp only at hSw); go_simp; try with_reducible rfl
            try simp only [Act.put, List.getElem_toArray, List.getElem_cons_succ, List.getElem_cons_zero, List.setIfInBounds_toArray, List.set_cons_zero, List.set_cons_succ]
            refine wpAnyH_done (by kernel_rfl) ?_ _
            go_wp2
            go_ret
            exact HST.out _ _ H6.out
        · skip
          rw [if_pos (by rfl)]
          go_simp
          refine hK.out _ _ ?_ (fun hHeld => ?_)
          · rw [HWB.out]; exact hqb
          clear hK K
          try simp only [Act.put, List.getElem_toArray, List.getElem_cons_succ, List.getElem_cons_zero, List.setIfInBounds_toArray, List.set_cons_zero, List.set_cons_succ]
          rw [HWB.out]
          refine wpAnyH_ready (rs := [4]) (by kernel_rfl) (by simp) (AllReadyH.cons rfl (fun K hK => ?_) AllReadyH.nil)
          rw [if_pos (by rfl)]
          go_simp
          refine hK.out _ _ ?_ (fun hHeld => ?_)
          · exact hqb
          clear hK K
          try simp only [Act.put, List.getElem_toArray, List.getElem_cons_succ, List.getElem_cons_zero, List.setIfInBounds_toArray, List.set_cons_zero, List.set_cons_succ]
          refine wpAnyH_ready (rs := [12]) (by kernel_rfl) (by simp) (AllReadyH.cons rfl (fun K hK => ?_) AllReadyH.nil)
          rw [if_pos (by rfl)]
          go_simp; go_at_call 45; refine CI2.out.mono ?_; rintro e w3 ⟨v', rfl, hr3, hg3, hv3⟩; go_wp2_with fail
          refine hK.out _ _ ?_ (fun hHeld => ?_)
          · exact (hg3.cell hqb (fun e => by have h := HNB.out.kid x hx; rw [HKV.out] at h; exact own_not_at h ((HGB.out.block g (Array.getElem?_eq_some_iff.1 HG.out).1).trans HG.out) (by decide) e.symm))
          clear hK K
          try simp only [Act.put, List.getElem_toArray, List.getElem_cons_succ, List.getElem_cons_zero, List.setIfInBounds_toArray, List.set_cons_zero, List.set_cons_succ]
          have hPR := put_ready HNN.out HTT.out hx HBW.out HRR.out HGQ.out HFN.out HII.out HGB.out HBN.out hr3 (by rw [HKV.out]; exact hg3) (by rw [HKV.out]; exact hv3)
          obtain ⟨va, vc, hvs⟩ := own_slice hr3
          obtain ⟨⟨T1, x1, hD⟩, hc3, hf3⟩ := hPR
          rw [HKV.out] at hc3
          subst hvs
          obtain ⟨W1, hW1⟩ : ∃ W1, w3.setCell ⟨x.ptr, 2, none⟩ (.slice va ((ptrs (kids T x.path)).length + 1) vc) = W1 := ⟨_, rfl⟩
          rw [hW1] at hD
          have HD := Lib.hid hD
          have HW1 := Lib.hid hW1
          have hqw : W1.cell? ⟨g, o, none⟩ = some (.string q) := by
            have := HD.out.keeps g cur f HG.out
            rw [cell_of_heap this]; have := HCS.out 0 (by simp); simpa using this
          clear hr3 hg3 hv3 hD hW1
          refine wpAnyH_take (i := 13) (v := ?_) rfl (by kernel_rfl) (by kernel_rfl) (by kernel_rfl) (fun _ _ _ h => h) (Or.inl ⟨by rfl, ?_⟩) (by assumption) ?_
          rotate_left
          · intro w hSw; (try dsimp only at hSw); go_simp; try with_reducible rfl
          try simp only [Act.put, List.getElem_toArray, List.getElem_cons_succ, List.getElem_cons_zero, List.setIfInBounds_toArray, List.set_cons_zero, List.set_cons_succ]
          refine wpAnyH_take (i := 14) (v := ?_) rfl (by kernel_rfl) (by kernel_rfl) (by kernel_rfl) (fun _ _ _ h => h) (Or.inl ⟨by rfl, ?_⟩) (by assumption) ?_
          rotate_left
          · intro w hSw; (try dsimp only at hSw); go_simp; try with_reducible rfl
          try simp only [Act.put, List.getElem_toArray, List.getElem_cons_succ, List.getElem_cons_zero, List.setIfInBounds_toArray, List.set_cons_zero, List.set_cons_succ]
          refine wpAnyH_ready (rs := [15]) (by kernel_rfl) (by simp) (AllReadyH.cons rfl (fun K hK => ?_) AllReadyH.nil)
          rw [if_pos (by rfl)]
          go_simp
          refine hK.out _ _ ?_ (fun hHeld => ?_)
          · rw [HW1.out]; exact hqw
          clear hK K
          try simp only [Act.put, List.getElem_toArray, List.getElem_cons_succ, List.getElem_cons_zero, List.setIfInBounds_toArray, List.set_cons_zero, List.set_cons_succ]
          rw [HW1.out]
          refine wpAnyH_done (by kernel_rfl) ?_ _
          clear hHeld hckd hcka hckb hck
          have hq := hqw
          go_wp2_with fail
          by_cases hp1 : c = 1
          · subst hp1
            have hr0 : r.length = 0 := by omega
            obtain ⟨kg, kn, kcap, c1, hik, hck, hcc, hc1, hcp⟩ := HD.out.cells
            have CR := IH.out T1 c1 W1.drew _ hc1 HD.out.tree (HD.out.nodes.below (Below.refl _ _).drew) (Nat.le_trans HBW.out HD.out.below.size) (TextsRow.tail (q := q) (o := o) HPC.out (show W1.drew.heap[g]? = _ from HD.out.keeps g cur f HG.out) HCS.out) (by rw [hcp]; exact HGD.out) HD.out.ris (by have := HD.out.len; have := HLN.out; omega)
            rw [hcp] at CR
            simp only [hr0, Nat.sub_self, ↓reduceIte] at CR
            have HC := Lib.hid CR
            have HST := Lib.hid (fun e w' (h : PutAt id W1.drew B T1 (x.path ++ [q.data.toList]) r e w') => PutAt.step HD.out.keys HD.out.below.drew HD.out.keeps HD.out.all h)
            clear CR hcp hc1
            refine wp_region_held_drew (S := fun _ => True) (by kernel_rfl) ?_ (fun hHeld => ?_)
            · trivial
            change wpAnyH _ _ _ _ _ 12 #[false, false, false, false, false, false, false, false, false, false, false, false] _ _
            have hck : W1.drew.cell? ⟨x.ptr, 2, none⟩ = some (.slice (some ⟨kg, 0, none⟩) kn kcap) := hck
            have hcc : W1.drew.cell? ⟨kg, i, none⟩ = some (.pointer (some ⟨c1.ptr, 0, none⟩)) := hcc
            refine wpAnyH_take (i := 0) (v := ?_) rfl (by kernel_rfl) (by kernel_rfl) (by kernel_rfl) (fun _ _ _ h => h) (Or.inl ⟨by rfl, ?_⟩) (by assumption) ?_
            rotate_left
            · intro w hSw; (try dsimp only at hSw); go_simp; try with_reducible rfl
            try simp only [Act.put, List.getElem_toArray, List.getElem_cons_succ, List.getElem_cons_zero, List.setIfInBounds_toArray, List.set_cons_zero, List.set_cons_succ]
            refine wpAnyH_take (i := 1) (v := ?_) rfl (by kernel_rfl) (by kernel_rfl) (by kernel_rfl) (fun _ _ _ h => h) (Or.inl ⟨by rfl, ?_⟩) (by assumption) ?_
            rotate_left
            · intro w hSw; (try dsimp only at hSw); go_simp; try with_reducible rfl
            try simp only [Act.put, List.getElem_toArray, List.getElem_cons_succ, List.getElem_cons_zero, List.setIfInBounds_toArray, List.set_cons_zero, List.set_cons_succ]
            refine wpAnyH_take (i := 2) (v := ?_) rfl (by kernel_rfl) (by kernel_rfl) (by kernel_rfl) (fun _ _ _ h => h) (Or.inl ⟨by rfl, ?_⟩) (by assumption) ?_
            rotate_left
            · intro w hSw; (try dsimp only at hSw); go_simp; try with_reducible rfl
            try simp only [Act.put, List.getElem_toArray, List.getElem_cons_succ, List.getElem_cons_zero, List.setIfInBounds_toArray, List.set_cons_zero, List.set_cons_succ]
            refine wpAnyH_take (i := 4) (v := ?_) rfl (by kernel_rfl) (by kernel_rfl) (by kernel_rfl) (fun _ _ _ h => h) (Or.inl ⟨by rfl, ?_⟩) (by assumption) ?_
            rotate_left
            · intro w hSw; (try dsimp only at hSw); go_simp; try with_reducible rfl
            try simp only [Act.put, List.getElem_toArray, List.getElem_cons_succ, List.getElem_cons_zero, List.setIfInBounds_toArray, List.set_cons_zero, List.set_cons_succ]
            refine wpAnyH_take (i := 7) (v := ?_) rfl (by kernel_rfl) (by kernel_rfl) (by kernel_rfl) (fun _ _ _ h => h) (Or.inl ⟨by rfl, ?_⟩) (by assumption) ?_
            rotate_left
            · intro w hSw; (try dsimp only at hSw); go_simp; try with_reducible rfl
            try simp only [Act.put, List.getElem_toArray, List.getElem_cons_succ, List.getElem_cons_zero, List.setIfInBounds_toArray, List.set_cons_zero, List.set_cons_succ]
            refine wpAnyH_take (i := 8) (v := ?_) rfl (by kernel_rfl) (by kernel_rfl) (by kernel_rfl) (fun _ _ _ h => h) (Or.inl ⟨by rfl, ?_⟩) (by assumption) ?_
            rotate_left
            · intro w hSw; (try dsimp only at hSw); go_simp; try with_reducible rfl
            try simp only [Act.put, List.getElem_toArray, List.getElem_cons_succ, List.getElem_cons_zero, List.setIfInBounds_toArray, List.set_cons_zero, List.set_cons_succ]
            refine wpAnyH_take (i := 9) (v := ?_) rfl (by kernel_rfl) (by kernel_rfl) (by kernel_rfl) (fun _ _ _ h => h) (Or.inl ⟨by rfl, ?_⟩) (by assumption) ?_
            rotate_left
            · intro w hSw; (try dsimp only at hSw); go_simp; try with_reducible rfl
            try simp only [Act.put, List.getElem_toArray, List.getElem_cons_succ, List.getElem_cons_zero, List.setIfInBounds_toArray, List.set_cons_zero, List.set_cons_succ]
            refine wpAnyH_ready (rs := [3]) (by kernel_rfl) (by simp) (AllReadyH.cons rfl (fun K hK => ?_) AllReadyH.nil)
            rw [if_pos (by rfl)]
            go_simp
            refine hK.out _ _ ?_ (fun hHeld => ?_)
            · trivial
            clear hK K
            try simp only [Act.put, List.getElem_toArray, List.getElem_cons_succ, List.getElem_cons_zero, List.setIfInBounds_toArray, List.set_cons_zero, List.set_cons_succ]
            refine wpAnyH_take (i := 5) (v := ?_) rfl (by kernel_rfl) (by kernel_rfl) (by kernel_rfl) (fun _ _ _ h => h) (Or.inl ⟨by rfl, ?_⟩) (by assumption) ?_
            rotate_left
            · intro w hSw; (try dsimp only at hSw); go_simp; try with_reducible rfl
            try simp only [Act.put, List.getElem_toArray, List.getElem_cons_succ, List.getElem_cons_zero, List.setIfInBounds_toArray, List.set_cons_zero, List.set_cons_succ]
            refine wpAnyH_ready (rs := [6]) (by kernel_rfl) (by simp) (AllReadyH.cons rfl (fun K hK => ?_) AllReadyH.nil)
            rw [if_pos (by rfl)]
            go_simp
            refine hK.out _ _ ?_ (fun hHeld => ?_)
            · trivial
            clear hK K
            try simp only [Act.put, List.getElem_toArray, List.getElem_cons_succ, List.getElem_cons_zero, List.setIfInBounds_toArray, List.set_cons_zero, List.set_cons_succ]
            refine wpAnyH_ready (rs := [10]) (by kernel_rfl) (by simp) (AllReadyH.cons rfl (fun K hK => ?_) AllReadyH.nil)
            rw [if_pos (by rfl)]
            go_simp; go_at_call 21; refine HC.out.mono ?_; rintro e w6 h6; have H6 := Lib.hid h6; obtain ⟨rfl, _⟩ := h6; go_wp2_with fail
            refine hK.out _ _ ?_ (fun hHeld => ?_)
            · trivial
            clear hK K
            try simp only [Act.put, List.getElem_toArray, List.getElem_cons_succ, List.getElem_cons_zero, List.setIfInBounds_toArray, List.set_cons_zero, List.set_cons_succ]
            refine wpAnyH_take (i := 11) (v := ?_) rfl (by kernel_rfl) (by kernel_rfl) (by kernel_rfl) (fun _ _ _ h => h) (Or.inl ⟨by rfl, ?_⟩) (by assumption) ?_
            rotate_left
            · intro w hSw; (try dsimp only at hSw); go_simp; try with_reducible rfl
            try simp only [Act.put, List.getElem_toArray, List.getElem_cons_succ, List.getElem_cons_zero, List.setIfInBounds_toArray, List.set_cons_zero, List.set_cons_succ]
            refine wpAnyH_done (by kernel_rfl) ?_ _
            go_wp2
            go_ret
            exact HST.out _ _ H6.out
          · skip
            obtain ⟨kg, kn, kcap, c1, hik, hck, hcc, hc1, hcp⟩ := HD.out.cells
            have CR := IH.out T1 c1 W1.drew _ hc1 HD.out.tree (HD.out.nodes.below (Below.refl _ _).drew) (Nat.le_trans HBW.out HD.out.below.size) (TextsRow.tail (q := q) (o := o) HPC.out (show W1.drew.heap[g]? = _ from HD.out.keeps g cur f HG.out) HCS.out) (by rw [hcp]; exact HGD.out) HD.out.ris (by have := HD.out.len; have := HLN.out; omega)
            rw [hcp] at CR
            rw [if_neg hp1] at CR
            have HC := Lib.hid CR
            have HST := Lib.hid (fun e w' (h : PutAt id W1.drew B T1 (x.path ++ [q.data.toList]) r e w') => PutAt.step HD.out.keys HD.out.below.drew HD.out.keeps HD.out.all h)
            clear CR hcp hc1
            refine wp_region_held_drew (S := fun _ => True) (by kernel_rfl) ?_ (fun hHeld => ?_)
            · trivial
            change wpAnyH _ _ _ _ _ 12 #[false, false, false, false, false, false, false, false, false, false, false, false] _ _
            have hck : W1.drew.cell? ⟨x.ptr, 2, none⟩ = some (.slice (some ⟨kg, 0, none⟩) kn kcap) := hck
            have hcc : W1.drew.cell? ⟨kg, i, none⟩ = some (.pointer (some ⟨c1.ptr, 0, none⟩)) := hcc
            refine wpAnyH_take (i := 0) (v := ?_) rfl (by kernel_rfl) (by kernel_rfl) (by kernel_rfl) (fun _ _ _ h => h) (Or.inl ⟨by rfl, ?_⟩) (by assumption) ?_
            rotate_left
            · intro w hSw; (try dsimp only at hSw); go_simp; try with_reducible rfl
            try simp only [Act.put, List.getElem_toArray, List.getElem_cons_succ, List.getElem_cons_zero, List.setIfInBounds_toArray, List.set_cons_zero, List.set_cons_succ]
            refine wpAnyH_take (i := 1) (v := ?_) rfl (by kernel_rfl) (by kernel_rfl) (by kernel_rfl) (fun _ _ _ h => h) (Or.inl ⟨by rfl, ?_⟩) (by assumption) ?_
            rotate_left
            · intro w hSw; (try dsimp only at hSw); go_simp; try with_reducible rfl
            try simp only [Act.put, List.getElem_toArray, List.getElem_cons_succ, List.getElem_cons_zero, List.setIfInBounds_toArray, List.set_cons_zero, List.set_cons_succ]
            refine wpAnyH_take (i := 2) (v := ?_) rfl (by kernel_rfl) (by kernel_rfl) (by kernel_rfl) (fun _ _ _ h => h) (Or.inl ⟨by rfl, ?_⟩) (by assumption) ?_
            rotate_left
            · intro w hSw; (try dsimp only at hSw); go_simp; try with_reducible rfl
            try simp only [Act.put, List.getElem_toArray, List.getElem_cons_succ, List.getElem_cons_zero, List.setIfInBounds_toArray, List.set_cons_zero, List.set_cons_succ]
            refine wpAnyH_take (i := 4) (v := ?_) rfl (by kernel_rfl) (by kernel_rfl) (by kernel_rfl) (fun _ _ _ h => h) (Or.inl ⟨by rfl, ?_⟩) (by assumption) ?_
            rotate_left
            · intro w hSw; (try dsimp only at hSw); go_simp; try with_reducible rfl
            try simp only [Act.put, List.getElem_toArray, List.getElem_cons_succ, List.getElem_cons_zero, List.setIfInBounds_toArray, List.set_cons_zero, List.set_cons_succ]
            refine wpAnyH_take (i := 7) (v := ?_) rfl (by kernel_rfl) (by kernel_rfl) (by kernel_rfl) (fun _ _ _ h => h) (Or.inl ⟨by rfl, ?_⟩) (by assumption) ?_
            rotate_left
            · intro w hSw; (try dsimp only at hSw); go_simp; try with_reducible rfl
            try simp only [Act.put, List.getElem_toArray, List.getElem_cons_succ, List.getElem_cons_zero, List.setIfInBounds_toArray, List.set_cons_zero, List.set_cons_succ]
            refine wpAnyH_take (i := 8) (v := ?_) rfl (by kernel_rfl) (by kernel_rfl) (by kernel_rfl) (fun _ _ _ h => h) (Or.inl ⟨by rfl, ?_⟩) (by assumption) ?_
            rotate_left
            · intro w hSw; (try dsimp only at hSw); go_simp; try with_reducible rfl
            try simp only [Act.put, List.getElem_toArray, List.getElem_cons_succ, List.getElem_cons_zero, List.setIfInBounds_toArray, List.set_cons_zero, List.set_cons_succ]
            refine wpAnyH_take (i := 9) (v := ?_) rfl (by kernel_rfl) (by kernel_rfl) (by kernel_rfl) (fun _ _ _ h => h) (Or.inl ⟨by rfl, ?_⟩) (by assumption) ?_
            rotate_left
            · intro w hSw; (try dsimp only at hSw); go_simp; try with_reducible rfl
            try simp only [Act.put, List.getElem_toArray, List.getElem_cons_succ, List.getElem_cons_zero, List.setIfInBounds_toArray, List.set_cons_zero, List.set_cons_succ]
            refine wpAnyH_ready (rs := [3]) (by kernel_rfl) (by simp) (AllReadyH.cons rfl (fun K hK => ?_) AllReadyH.nil)
            rw [if_pos (by rfl)]
            go_simp
            refine hK.out _ _ ?_ (fun hHeld => ?_)
            · trivial
            clear hK K
            try simp only [Act.put, List.getElem_toArray, List.getElem_cons_succ, List.getElem_cons_zero, List.setIfInBounds_toArray, List.set_cons_zero, List.set_cons_succ]
            refine wpAnyH_take (i := 5) (v := ?_) rfl (by kernel_rfl) (by kernel_rfl) (by kernel_rfl) (fun _ _ _ h => h) (Or.inl ⟨by rfl, ?_⟩) (by assumption) ?_
            rotate_left
            · intro w hSw; (try dsimp only at hSw); go_simp; try with_reducible rfl
            try simp only [Act.put, List.getElem_toArray, List.getElem_cons_succ, List.getElem_cons_zero, List.setIfInBounds_toArray, List.set_cons_zero, List.set_cons_succ]
            refine wpAnyH_ready (rs := [6]) (by kernel_rfl) (by simp) (AllReadyH.cons rfl (fun K hK => ?_) AllReadyH.nil)
            rw [if_pos (by rfl)]
            go_simp
            refine hK.out _ _ ?_ (fun hHeld => ?_)
            · trivial
            clear hK K
            try simp only [Act.put, List.getElem_toArray, List.getElem_cons_succ, List.getElem_cons_zero, List.setIfInBounds_toArray, List.set_cons_zero, List.set_cons_succ]
            refine wpAnyH_ready (rs := [10]) (by kernel_rfl) (by simp) (AllReadyH.cons rfl (fun K hK => ?_) AllReadyH.nil)
            rw [if_pos (by rfl)]
            go_simp; go_at_call 21; refine HC.out.mono ?_; rintro e w6 h6; have H6 := Lib.hid h6; obtain ⟨rfl, _⟩ := h6; go_wp2_with fail
            refine hK.out _ _ ?_ (fun hHeld => ?_)
            · trivial
            clear hK K
            try simp only [Act.put, List.getElem_toArray, List.getElem_cons_succ, List.getElem_cons_zero, List.setIfInBounds_toArray, List.set_cons_zero, List.set_cons_succ]
            refine wpAnyH_take (i := 11) (v := ?_) rfl (by kernel_rfl) (by kernel_rfl) (by kernel_rfl) (fun _ _ _ h => h) (Or.inl ⟨by rfl, ?_⟩) (by assumption) ?_
            rotate_left
            · intro w hSw; (try dsimp only at hSw); go_simp; try with_reducible rfl
            try simp only [Act.put, List.getElem_toArray, List.getElem_cons_succ, List.getElem_cons_zero, List.setIfInBounds_toArray, List.set_cons_zero, List.set_cons_succ]
            refine wpAnyH_done (by kernel_rfl) ?_ _
            go_wp2
            go_ret
            exact HST.out _ _ H6.out
    · rw [hf] at CK
      obtain ⟨T1, x1, W1, hD, hW⟩ : ∃ T1 x1 W1, Ready w W1 B T T1 x x1 q i ∧ W1 = w := by
        obtain ⟨hix, hlast⟩ := found_at hf
        have hcm := kids_mem.1 (List.getElem_mem hix)
        rw [hlast] at hcm
        exact ⟨T, x, w, ⟨hN, hT, hx, rfl, rfl, hf, hi, (insP_there (by rw [paths_keys]; exact List.mem_map.2 ⟨_, hcm.1, hcm.2⟩)).symm, Below.refl _ _, KeepsS.refl _, fun y hy => ⟨y, hy, rfl, rfl⟩, hr, by omega⟩, rfl⟩
      subst hW
      have HD := Lib.hid hD
      clear hD hf hi hr hg hgq hT hN hx hB hgc hcs hl hpp
      go_enter Tryz.func21, Tryz.ntmps21
      go_wp2_with fail
      refine CK.out.mono ?_
      rintro e w' ⟨rfl, rfl⟩
      clear CK
      go_wp2_with fail
      by_cases hp1 : c = 1
      · subst hp1
        have hr0 : r.length = 0 := by omega
        obtain ⟨kg, kn, kcap, c1, hik, hck, hcc, hc1, hcp⟩ := HD.out.cells
        have CR := IH.out T1 c1 W1.drew _ hc1 HD.out.tree (HD.out.nodes.below (Below.refl _ _).drew) (Nat.le_trans HBW.out HD.out.below.size) (TextsRow.tail (q := q) (o := o) HPC.out (show W1.drew.heap[g]? = _ from HD.out.keeps g cur f HG.out) HCS.out) (by rw [hcp]; exact HGD.out) HD.out.ris (by have := HD.out.len; have := HLN.out; omega)
        rw [hcp] at CR
        simp only [hr0, Nat.sub_self, ↓reduceIte] at CR
        have HC := Lib.hid CR
        have HST := Lib.hid (fun e w' (h : PutAt id W1.drew B T1 (x.path ++ [q.data.toList]) r e w') => PutAt.step HD.out.keys HD.out.below.drew HD.out.keeps HD.out.all h)
        clear CR hcp hc1
        refine wp_region_held_drew (S := fun _ => True) (by kernel_rfl) ?_ (fun hHeld => ?_)
        · trivial
        change wpAnyH _ _ _ _ _ 12 #[false, false, false, false, false, false, false, false, false, false, false, false] _ _
        have hck : W1.drew.cell? ⟨x.ptr, 2, none⟩ = some (.slice (some ⟨kg, 0, none⟩) kn kcap) := hck
        have hcc : W1.drew.cell? ⟨kg, i, none⟩ = some (.pointer (some ⟨c1.ptr, 0, none⟩)) := hcc
        refine wpAnyH_take (i := 0) (v := ?_) rfl (by kernel_rfl) (by kernel_rfl) (by kernel_rfl) (fun _ _ _ h => h) (Or.inl ⟨by rfl, ?_⟩) (by assumption) ?_
        rotate_left
        · intro w hSw; (try dsimp only at hSw); go_simp; try with_reducible rfl
        try simp only [Act.put, List.getElem_toArray, List.getElem_cons_succ, List.getElem_cons_zero, List.setIfInBounds_toArray, List.set_cons_zero, List.set_cons_succ]
        refine wpAnyH_take (i := 1) (v := ?_) rfl (by kernel_rfl) (by kernel_rfl) (by kernel_rfl) (fun _ _ _ h => h) (Or.inl ⟨by rfl, ?_⟩) (by assumption) ?_
        rotate_left
        · intro w hSw; (try dsimp only at hSw); go_simp; try with_reducible rfl
        try simp only [Act.put, List.getElem_toArray, List.getElem_cons_succ, List.getElem_cons_zero, List.setIfInBounds_toArray, List.set_cons_zero, List.set_cons_succ]
        refine wpAnyH_take (i := 2) (v := ?_) rfl (by kernel_rfl) (by kernel_rfl) (by kernel_rfl) (fun _ _ _ h => h) (Or.inl ⟨by rfl, ?_⟩) (by assumption) ?_
        rotate_left
        · intro w hSw; (try dsimp only at hSw); go_simp; try with_reducible rfl
        try simp only [Act.put, List.getElem_toArray, List.getElem_cons_succ, List.getElem_cons_zero, List.setIfInBounds_toArray, List.set_cons_zero, List.set_cons_succ]
        refine wpAnyH_take (i := 4) (v := ?_) rfl (by kernel_rfl) (by kernel_rfl) (by kernel_rfl) (fun _ _ _ h => h) (Or.inl ⟨by rfl, ?_⟩) (by assumption) ?_
        rotate_left
        · intro w hSw; (try dsimp only at hSw); go_simp; try with_reducible rfl
        try simp only [Act.put, List.getElem_toArray, List.getElem_cons_succ, List.getElem_cons_zero, List.setIfInBounds_toArray, List.set_cons_zero, List.set_cons_succ]
        refine wpAnyH_take (i := 7) (v := ?_) rfl (by kernel_rfl) (by kernel_rfl) (by kernel_rfl) (fun _ _ _ h => h) (Or.inl ⟨by rfl, ?_⟩) (by assumption) ?_
        rotate_left
        · intro w hSw; (try dsimp only at hSw); go_simp; try with_reducible rfl
        try simp only [Act.put, List.getElem_toArray, List.getElem_cons_succ, List.getElem_cons_zero, List.setIfInBounds_toArray, List.set_cons_zero, List.set_cons_succ]
        refine wpAnyH_take (i := 8) (v := ?_) rfl (by kernel_rfl) (by kernel_rfl) (by kernel_rfl) (fun _ _ _ h => h) (Or.inl ⟨by rfl, ?_⟩) (by assumption) ?_
        rotate_left
        · intro w hSw; (try dsimp only at hSw); go_simp; try with_reducible rfl
        try simp only [Act.put, List.getElem_toArray, List.getElem_cons_succ, List.getElem_cons_zero, List.setIfInBounds_toArray, List.set_cons_zero, List.set_cons_succ]
        refine wpAnyH_take (i := 9) (v := ?_) rfl (by kernel_rfl) (by kernel_rfl) (by kernel_rfl) (fun _ _ _ h => h) (Or.inl ⟨by rfl, ?_⟩) (by assumption) ?_
        rotate_left
        · intro w hSw; (try dsimp only at hSw); go_simp; try with_reducible rfl
        try simp only [Act.put, List.getElem_toArray, List.getElem_cons_succ, List.getElem_cons_zero, List.setIfInBounds_toArray, List.set_cons_zero, List.set_cons_succ]
        refine wpAnyH_ready (rs := [3]) (by kernel_rfl) (by simp) (AllReadyH.cons rfl (fun K hK => ?_) AllReadyH.nil)
        rw [if_pos (by rfl)]
        go_simp
        refine hK.out _ _ ?_ (fun hHeld => ?_)
        · trivial
        clear hK K
        try simp only [Act.put, List.getElem_toArray, List.getElem_cons_succ, List.getElem_cons_zero, List.setIfInBounds_toArray, List.set_cons_zero, List.set_cons_succ]
        refine wpAnyH_take (i := 5) (v := ?_) rfl (by kernel_rfl) (by kernel_rfl) (by kernel_rfl) (fun _ _ _ h => h) (Or.inl ⟨by rfl, ?_⟩) (by assumption) ?_
        rotate_left
        · intro w hSw; (try dsimp only at hSw); go_simp; try with_reducible rfl
        try simp only [Act.put, List.getElem_toArray, List.getElem_cons_succ, List.getElem_cons_zero, List.setIfInBounds_toArray, List.set_cons_zero, List.set_cons_succ]
        refine wpAnyH_ready (rs := [6]) (by kernel_rfl) (by simp) (AllReadyH.cons rfl (fun K hK => ?_) AllReadyH.nil)
        rw [if_pos (by rfl)]
        go_simp
        refine hK.out _ _ ?_ (fun hHeld => ?_)
        · trivial
        clear hK K
        try simp only [Act.put, List.getElem_toArray, List.getElem_cons_succ, List.getElem_cons_zero, List.setIfInBounds_toArray, List.set_cons_zero, List.set_cons_succ]
        refine wpAnyH_ready (rs := [10]) (by kernel_rfl) (by simp) (AllReadyH.cons rfl (fun K hK => ?_) AllReadyH.nil)
        rw [if_pos (by rfl)]
        go_simp; go_at_call 21; refine HC.out.mono ?_; rintro e w6 h6; have H6 := Lib.hid h6; obtain ⟨rfl, _⟩ := h6; go_wp2_with fail
        refine hK.out _ _ ?_ (fun hHeld => ?_)
        · trivial
        clear hK K
        try simp only [Act.put, List.getElem_toArray, List.getElem_cons_succ, List.getElem_cons_zero, List.setIfInBounds_toArray, List.set_cons_zero, List.set_cons_succ]
        refine wpAnyH_take (i := 11) (v := ?_) rfl (by kernel_rfl) (by kernel_rfl) (by kernel_rfl) (fun _ _ _ h => h) (Or.inl ⟨by rfl, ?_⟩) (by assumption) ?_
        rotate_left
        · intro w hSw; (try dsimp only at hSw); go_simp; try with_reducible rfl
        try simp only [Act.put, List.getElem_toArray, List.getElem_cons_succ, List.getElem_cons_zero, List.setIfInBounds_toArray, List.set_cons_zero, List.set_cons_succ]
        refine wpAnyH_done (by kernel_rfl) ?_ _
        go_wp2
        go_ret
        exact HST.out _ _ H6.out
      · skip
        obtain ⟨kg, kn, kcap, c1, hik, hck, hcc, hc1, hcp⟩ := HD.out.cells
        have CR := IH.out T1 c1 W1.drew _ hc1 HD.out.tree (HD.out.nodes.below (Below.refl _ _).drew) (Nat.le_trans HBW.out HD.out.below.size) (TextsRow.tail (q := q) (o := o) HPC.out (show W1.drew.heap[g]? = _ from HD.out.keeps g cur f HG.out) HCS.out) (by rw [hcp]; exact HGD.out) HD.out.ris (by have := HD.out.len; have := HLN.out; omega)
        rw [hcp] at CR
        rw [if_neg hp1] at CR
        have HC := Lib.hid CR
        have HST := Lib.hid (fun e w' (h : PutAt id W1.drew B T1 (x.path ++ [q.data.toList]) r e w') => PutAt.step HD.out.keys HD.out.below.drew HD.out.keeps HD.out.all h)
        clear CR hcp hc1
        refine wp_region_held_drew (S := fun _ => True) (by kernel_rfl) ?_ (fun hHeld => ?_)
        · trivial
        change wpAnyH _ _ _ _ _ 12 #[false, false, false, false, false, false, false, false, false, false, false, false] _ _
        have hck : W1.drew.cell? ⟨x.ptr, 2, none⟩ = some (.slice (some ⟨kg, 0, none⟩) kn kcap) := hck
        have hcc : W1.drew.cell? ⟨kg, i, none⟩ = some (.pointer (some ⟨c1.ptr, 0, none⟩)) := hcc
        refine wpAnyH_take (i := 0) (v := ?_) rfl (by kernel_rfl) (by kernel_rfl) (by kernel_rfl) (fun _ _ _ h => h) (Or.inl ⟨by rfl, ?_⟩) (by assumption) ?_
        rotate_left
        · intro w hSw; (try dsimp only at hSw); go_simp; try with_reducible rfl
        try simp only [Act.put, List.getElem_toArray, List.getElem_cons_succ, List.getElem_cons_zero, List.setIfInBounds_toArray, List.set_cons_zero, List.set_cons_succ]
        refine wpAnyH_take (i := 1) (v := ?_) rfl (by kernel_rfl) (by kernel_rfl) (by kernel_rfl) (fun _ _ _ h => h) (Or.inl ⟨by rfl, ?_⟩) (by assumption) ?_
        rotate_left
        · intro w hSw; (try dsimp only at hSw); go_simp; try with_reducible rfl
        try simp only [Act.put, List.getElem_toArray, List.getElem_cons_succ, List.getElem_cons_zero, List.setIfInBounds_toArray, List.set_cons_zero, List.set_cons_succ]
        refine wpAnyH_take (i := 2) (v := ?_) rfl (by kernel_rfl) (by kernel_rfl) (by kernel_rfl) (fun _ _ _ h => h) (Or.inl ⟨by rfl, ?_⟩) (by assumption) ?_
        rotate_left
        · intro w hSw; (try dsimp only at hSw); go_simp; try with_reducible rfl
        try simp only [Act.put, List.getElem_toArray, List.getElem_cons_succ, List.getElem_cons_zero, List.setIfInBounds_toArray, List.set_cons_zero, List.set_cons_succ]
        refine wpAnyH_take (i := 4) (v := ?_) rfl (by kernel_rfl) (by kernel_rfl) (by kernel_rfl) (fun _ _ _ h => h) (Or.inl ⟨by rfl, ?_⟩) (by assumption) ?_
        rotate_left
        · intro w hSw; (try dsimp only at hSw); go_simp; try with_reducible rfl
        try simp only [Act.put, List.getElem_toArray, List.getElem_cons_succ, List.getElem_cons_zero, List.setIfInBounds_toArray, List.set_cons_zero, List.set_cons_succ]
        refine wpAnyH_take (i := 7) (v := ?_) rfl (by kernel_rfl) (by kernel_rfl) (by kernel_rfl) (fun _ _ _ h => h) (Or.inl ⟨by rfl, ?_⟩) (by assumption) ?_
        rotate_left
        · intro w hSw; (try dsimp only at hSw); go_simp; try with_reducible rfl
        try simp only [Act.put, List.getElem_toArray, List.getElem_cons_succ, List.getElem_cons_zero, List.setIfInBounds_toArray, List.set_cons_zero, List.set_cons_succ]
        refine wpAnyH_take (i := 8) (v := ?_) rfl (by kernel_rfl) (by kernel_rfl) (by kernel_rfl) (fun _ _ _ h => h) (Or.inl ⟨by rfl, ?_⟩) (by assumption) ?_
        rotate_left
        · intro w hSw; (try dsimp only at hSw); go_simp; try with_reducible rfl
        try simp only [Act.put, List.getElem_toArray, List.getElem_cons_succ, List.getElem_cons_zero, List.setIfInBounds_toArray, List.set_cons_zero, List.set_cons_succ]
        refine wpAnyH_take (i := 9) (v := ?_) rfl (by kernel_rfl) (by kernel_rfl) (by kernel_rfl) (fun _ _ _ h => h) (Or.inl ⟨by rfl, ?_⟩) (by assumption) ?_
        rotate_left
        · intro w hSw; (try dsimp only at hSw); go_simp; try with_reducible rfl
        try simp only [Act.put, List.getElem_toArray, List.getElem_cons_succ, List.getElem_cons_zero, List.setIfInBounds_toArray, List.set_cons_zero, List.set_cons_succ]
        refine wpAnyH_ready (rs := [3]) (by kernel_rfl) (by simp) (AllReadyH.cons rfl (fun K hK => ?_) AllReadyH.nil)
        rw [if_pos (by rfl)]
        go_simp
        refine hK.out _ _ ?_ (fun hHeld => ?_)
        · trivial
        clear hK K
        try simp only [Act.put, List.getElem_toArray, List.getElem_cons_succ, List.getElem_cons_zero, List.setIfInBounds_toArray, List.set_cons_zero, List.set_cons_succ]
        refine wpAnyH_take (i := 5) (v := ?_) rfl (by kernel_rfl) (by kernel_rfl) (by kernel_rfl) (fun _ _ _ h => h) (Or.inl ⟨by rfl, ?_⟩) (by assumption) ?_
        rotate_left
        · intro w hSw; (try dsimp only at hSw); go_simp; try with_reducible rfl
        try simp only [Act.put, List.getElem_toArray, List.getElem_cons_succ, List.getElem_cons_zero, List.setIfInBounds_toArray, List.set_cons_zero, List.set_cons_succ]
        refine wpAnyH_ready (rs := [6]) (by kernel_rfl) (by simp) (AllReadyH.cons rfl (fun K hK => ?_) AllReadyH.nil)
        rw [if_pos (by rfl)]
        go_simp
        refine hK.out _ _ ?_ (fun hHeld => ?_)
        · trivial
        clear hK K
        try simp only [Act.put, List.getElem_toArray, List.getElem_cons_succ, List.getElem_cons_zero, List.setIfInBounds_toArray, List.set_cons_zero, List.set_cons_succ]
        refine wpAnyH_ready (rs := [10]) (by kernel_rfl) (by simp) (AllReadyH.cons rfl (fun K hK => ?_) AllReadyH.nil)
        rw [if_pos (by rfl)]
        go_simp; go_at_call 21; refine HC.out.mono ?_; rintro e w6 h6; have H6 := Lib.hid h6; obtain ⟨rfl, _⟩ := h6; go_wp2_with fail
        refine hK.out _ _ ?_ (fun hHeld => ?_)
        · trivial
        clear hK K
        try simp only [Act.put, List.getElem_toArray, List.getElem_cons_succ, List.getElem_cons_zero, List.setIfInBounds_toArray, List.set_cons_zero, List.set_cons_succ]
        refine wpAnyH_take (i := 11) (v := ?_) rfl (by kernel_rfl) (by kernel_rfl) (by kernel_rfl) (fun _ _ _ h => h) (Or.inl ⟨by rfl, ?_⟩) (by assumption) ?_
        rotate_left
        · intro w hSw; (try dsimp only at hSw); go_simp; try with_reducible rfl
        try simp only [Act.put, List.getElem_toArray, List.getElem_cons_succ, List.getElem_cons_zero, List.setIfInBounds_toArray, List.set_cons_zero, List.set_cons_succ]
        refine wpAnyH_done (by kernel_rfl) ?_ _
        go_wp2
        go_ret
        exact HST.out _ _ H6.out

end Go.Proofs.YtcpoodhbakkmcaaGreatDoor
