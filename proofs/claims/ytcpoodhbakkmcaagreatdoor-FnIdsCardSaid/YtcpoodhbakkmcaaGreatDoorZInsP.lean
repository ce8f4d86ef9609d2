/- The walk of slices.Insert of one element at []*node, at an own row. -/
import Derived.Test.YtcpoodhbakkmcaaGreatDoorZB1
import Derived.Test.YtcpoodhbakkmcaaGreatDoorZNode
import Derived.Deep.RegionHeld
set_option linter.unusedSimpArgs false
set_option linter.unusedVariables false
namespace Go.Proofs.YtcpoodhbakkmcaaGreatDoor
open Go.RowKit Go.Lib

set_option maxRecDepth 100000 in
set_option maxHeartbeats 3200000 in
/-- At the end. -/
theorem insP_end (v : Value) (xs : List Value) (y : Value) (vb B : Nat) (w : World) (hn : xs.length ≤ 4000000) (hy : y.oneCell' = true) (hB : B ≤ w.heap.size) (hv : w.ownsRow B 45 1 v xs.length xs)
    (hvb : w.heap[vb]? = some (.cells #[y] 45 (0, 0))) :
    Calls Tryz.prog 45 #[v, .int .i64 xs.length, .slice (some ⟨vb, 0, none⟩) 1 1] w fun e w' =>
      ∃ v', e = .returned v' ∧ w'.ownsRow B 45 1 v' (xs.length + 1) (xs ++ [y]) ∧ w.grownBy w' v.ownBlock ∧ (v'.ownBlock = v.ownBlock ∨ v'.ownBlock = some w.heap.size) := by
  obtain ⟨i1, hi1, hz1, hy1, hq1⟩ := insP_info
  have hsrc : SrcAt w (.slice (some ⟨vb, 0, none⟩) 1 1) 1 [y] := ⟨_, _, rfl, .inr ⟨_, rfl, fun j u hu => by
    have hj : j = 0 := by
      rcases Nat.lt_or_ge j 1 with h | h
      · omega
      · rw [List.getElem?_eq_none (by simpa using h)] at hu; cases hu
    subst hj
    cases hu
    rw [Addr.add_lit, cell_of_heap hvb]; rfl⟩⟩
  have HV := Lib.hid hv
  have HS := Lib.hid hsrc
  have hf := hv.2
  obtain ⟨n, hnn⟩ : ∃ n, xs.length = n := ⟨_, rfl⟩
  rw [hnn] at HV hn hf ⊢
  clear hv hsrc hvb
  rcases hf with ⟨rfl, rfl⟩ | ⟨g, c, cur, rfl, hg1, _, hcap, hcm, _, _⟩
  · go_enter Tryz.func45, Tryz.ntmps45
    go_wp2_with (at_builtin; refine wpList_append_src rfl _ _ 63 rfl B 45 i1 (.pointer none) 1 8 Tryz.underlying63 hi1 hz1 hy1 hq1 rfl (by decide) _ _ 0 1 xs [y] rfl HV.out rfl HS.out rfl (by simpa using hy) (by unfold maxLen; omega) (by omega) hB ?_)
    intro v' w' hr hg hd
    go_wp2
    go_ret
    exact ⟨_, rfl, hr, hg, hd⟩
  · unfold maxLen at hcm
    go_enter Tryz.func45, Tryz.ntmps45
    go_wp2_with (at_builtin; refine wpList_append_src rfl _ _ 63 rfl B 45 i1 (.pointer none) 1 8 Tryz.underlying63 hi1 hz1 hy1 hq1 rfl (by decide) _ _ n 1 xs [y] rfl HV.out rfl HS.out rfl (by simpa using hy) (by unfold maxLen; omega) (by omega) hB ?_)
    all_goals (intro v' w' hr hg hd; go_wp2; go_ret; exact ⟨_, rfl, hr, hg, hd⟩)

theorem cells_in (xs : List Value) (i : Nat) (hi : i ≤ xs.length) (y : Value) (rest : List Value) (hr : 1 ≤ rest.length) : layAt (layAt (xs ++ rest) (i + 1) (xs.drop i)) i [y] = xs.take i ++ y :: xs.drop i ++ rest.drop 1 := by
  obtain ⟨r, rest, rfl⟩ : ∃ r rs, rest = r :: rs := by cases rest with | nil => simp at hr | cons r rs => exact ⟨r, rs, rfl⟩
  have h1 : layAt (xs ++ r :: rest) (i + 1) (xs.drop i) = (xs ++ r :: rest).take (i + 1) ++ xs.drop i ++ rest := by
    unfold layAt
    have : (xs ++ r :: rest).drop (i + 1 + (xs.drop i).length) = rest := by
      rw [List.length_drop, show i + 1 + (xs.length - i) = xs.length + 1 by omega, show xs ++ r :: rest = (xs ++ [r]) ++ rest by simp, List.drop_left' (by simp)]
    rw [this]
  rw [h1]
  unfold layAt
  have h2 : ((xs ++ r :: rest).take (i + 1) ++ xs.drop i ++ rest).take i = xs.take i := by
    rw [List.append_assoc, List.take_append_of_le_length (by rw [List.length_take]; simp; omega), List.take_take, Nat.min_eq_left (by omega), List.take_append_of_le_length hi]
  have h3 : ((xs ++ r :: rest).take (i + 1) ++ xs.drop i ++ rest).drop (i + [y].length) = xs.drop i ++ rest := by
    rw [List.append_assoc, List.drop_left' (by rw [List.length_take]; simp; omega)]
  rw [h2, h3]
  simp

set_option maxRecDepth 100000 in
set_option maxHeartbeats 3200000 in
/-- There is room. -/
theorem insP_shift (v : Value) (xs : List Value) (i g c : Nat) (y : Value) (vb B : Nat) (w : World) (hi : i < xs.length) (hn : xs.length ≤ 4000000) (hx : ∀ u ∈ xs, u.oneCell' = true) (hy : y.oneCell' = true) (hB : B ≤ w.heap.size) (hv : w.ownsRow B 45 1 v xs.length xs)
    (hve : v = .slice (some ⟨g, 0, none⟩) xs.length c) (hroom : xs.length + 1 ≤ c)
    (hvb : w.heap[vb]? = some (.cells #[y] 45 (0, 0))) (hne : vb ≠ g) :
    Calls Tryz.prog 45 #[v, .int .i64 i, .slice (some ⟨vb, 0, none⟩) 1 1] w fun e w' =>
      ∃ v', e = .returned v' ∧ w'.ownsRow B 45 1 v' (xs.length + 1) (xs.take i ++ y :: xs.drop i) ∧ w.grownBy w' v.ownBlock ∧ v'.ownBlock = v.ownBlock := by
  subst hve
  obtain ⟨i1, hi1, hz1, hy1, hq1⟩ := insP_info
  obtain ⟨g2, c2, cur, he, hBg, hg, _, hcm, hcs, hct⟩ : ∃ g2 c2 cur, Value.slice (some ⟨g, 0, none⟩) xs.length c = .slice (some ⟨g2, 0, none⟩) xs.length c2 ∧ B ≤ g2 ∧ w.heap[g2]? = some (.cells cur 45 (0, 0)) ∧ xs.length ≤ c2 ∧ c2 ≤ maxLen ∧ cur.size = c2 * 1 ∧ cur.toList.take (xs.length * 1) = xs := by
    rcases hv.2 with ⟨h, _⟩ | h
    · cases h
    · exact h
  cases he
  clear hv
  rw [Nat.mul_one] at hcs hct
  obtain ⟨cl, rfl⟩ : ∃ cl : List Value, cur = cl.toArray := ⟨cur.toList, by simp⟩
  have hcl : cl = xs ++ cl.drop xs.length := by
    have := List.take_append_drop xs.length cl
    rw [show cl.take xs.length = xs from hct] at this; exact this.symm
  have hlen : cl.length = c := by simpa using hcs
  obtain ⟨rs, hrs⟩ : ∃ rs, cl.drop xs.length = rs := ⟨_, rfl⟩
  have hrl : 1 ≤ rs.length := by rw [← hrs, List.length_drop]; omega
  rw [hrs] at hcl
  unfold maxLen at hcm
  have hov : ∀ lb cb, (callFunc 74 #[.slice (some ⟨vb, 0, none⟩) 1 1, .slice (some ⟨g, i + 1, none⟩) lb cb]).run Tryz.prog w = .ok (.value (.bool false)) w := fun lb cb => by
    rw [run_callFunc_extern Tryz.func74 (by kernel_rfl) (by kernel_rfl) (by kernel_rfl) (e := Extern.SlicesOverlaps.overlaps #[63, 63] #[4]) (by kernel_rfl),
      Lib.run_overlaps_apart w 63 4 45 Tryz.underlying63 1 (fun w => (run_sizeOf w hi1).trans (by rw [show Tryz.prog.cellsOf 45 = 1 by kernel_rfl])) ⟨vb, 0, none⟩ ⟨g, i + 1, none⟩ 1 1 lb cb hne 45 45 1 c (by simp [World.shape?, hvb]) (by simp [World.shape?, hg, hlen]) (by omega) (by simp [World.frozen?, hvb]) (by simp [World.frozen?, hvb])]
    rfl
  obtain ⟨n, hnn⟩ : ∃ n, xs.length = n := ⟨_, rfl⟩
  have HL := Lib.hid (cells_in xs i (by omega) y rs hrl)
  have HXD := Lib.hid (show (xs.drop i).length = n - i by rw [List.length_drop, hnn])
  have HCL := Lib.hid hcl
  have HG := Lib.hid hg
  have HVB := Lib.hid hvb
  have HX := Lib.hid (fun u (hu : u ∈ xs.drop i) => hx u (List.mem_of_mem_drop hu))
  have HLN := Lib.hid hlen
  have HN := Lib.hid hnn
  rw [hnn] at hi hn hroom ⊢
  have hz1 : ¬ ((1 : Int) = 0) := by omega
  have hz2 : ¬ ((i : Int) = (n : Int)) := by omega
  have hw1 : IntKind.i64.wrap ((i : Int) + 1) = (i : Int) + 1 := by rw [IntKind.wrap_i64]; omega
  have hw2 : IntKind.i64.wrap ((n : Int) + 1) = (n : Int) + 1 := by rw [IntKind.wrap_i64]; omega
  have hb1 : (0 : Int) ≤ (i : Int) + 1 := by omega
  have hin : i ≤ n := by omega
  have htn : ((i : Int) + 1).toNat = i + 1 := by omega
  have htn2 : ((n : Int) + 1).toNat = n + 1 := by omega
  have hb2 : ¬ (c = i + 1) := by omega
  have hb3 : (i : Int) ≤ (n : Int) + 1 := by omega
  have hb4 : ¬ (c = i) := by omega
  clear hnn hcl hg hvb hx hlen hct hcs hrs hrl
  go_enter Tryz.func45, Tryz.ntmps45
  go_wp2_with (simp only [hov])
  have HS : Hid (w.drew.heap[vb]? = some (.cells #[y] 45 (0, 0)) ∧ w.grownBy w.drew (some g)) := Lib.hid ⟨HVB.out, grown_drewN w 1 _⟩
  refine wp_region_held_drew (S := fun wx => Hid (wx.heap[vb]? = some (.cells #[y] 45 (0, 0)) ∧ w.grownBy wx (some g))) (by kernel_rfl) ?_ (fun hHeld => ?_)
  · exact HS
  change wpAnyH _ _ _ _ _ 9 #[false, false, false, false, false, false, false, false, false] _ _
  clear HS
  refine wpAnyH_take (i := 0) (v := ?_) rfl (by kernel_rfl) (by kernel_rfl) (by kernel_rfl) (fun _ _ _ h => h) (Or.inl ⟨by rfl, ?_⟩) (by assumption) ?_
  rotate_left
  · intro w hSw; (try dsimp only at hSw); go_simp; try with_reducible rfl
  try simp only [Act.put, List.getElem_toArray, List.getElem_cons_succ, List.getElem_cons_zero, List.setIfInBounds_toArray, List.set_cons_zero, List.set_cons_succ]
  refine wpAnyH_take (i := 1) (v := ?_) rfl (by kernel_rfl) (by kernel_rfl) (by kernel_rfl) (fun _ _ _ h => h) (Or.inl ⟨by rfl, ?_⟩) (by assumption) ?_
  rotate_left
  · intro w hSw; (try dsimp only at hSw); go_simp; try with_reducible rfl
  try simp only [Act.put, List.getElem_toArray, List.getElem_cons_succ, List.getElem_cons_zero, List.setIfInBounds_toArray, List.set_cons_zero, List.set_cons_succ]
  refine wpAnyH_take (i := 2) (v := ?_) rfl (by kernel_rfl) (by kernel_rfl) (by kernel_rfl) (fun _ _ _ h => h) (Or.inl ⟨by rfl, ?_⟩) (by assumption) ?_
  rotate_left
  · intro w hSw; (try dsimp only at hSw); go_simp; try with_reducible rfl
  try simp only [Act.put, List.getElem_toArray, List.getElem_cons_succ, List.getElem_cons_zero, List.setIfInBounds_toArray, List.set_cons_zero, List.set_cons_succ]
  refine wpAnyH_take (i := 3) (v := ?_) rfl (by kernel_rfl) (by kernel_rfl) (by kernel_rfl) (fun _ _ _ h => h) (Or.inl ⟨by rfl, ?_⟩) (by assumption) ?_
  rotate_left
  · intro w hSw; (try dsimp only at hSw); go_simp; try with_reducible rfl
  try simp only [Act.put, List.getElem_toArray, List.getElem_cons_succ, List.getElem_cons_zero, List.setIfInBounds_toArray, List.set_cons_zero, List.set_cons_succ]
  refine wpAnyH_take (i := 4) (v := ?_) rfl (by kernel_rfl) (by kernel_rfl) (by kernel_rfl) (fun _ _ _ h => h) (Or.inl ⟨by rfl, ?_⟩) (by assumption) ?_
  rotate_left
  · intro w hSw; (try dsimp only at hSw); go_simp; try with_reducible rfl
  try simp only [Act.put, List.getElem_toArray, List.getElem_cons_succ, List.getElem_cons_zero, List.setIfInBounds_toArray, List.set_cons_zero, List.set_cons_succ]
  refine wpAnyH_take (i := 5) (v := ?_) rfl (by kernel_rfl) (by kernel_rfl) (by kernel_rfl) (fun _ _ _ h => h) (Or.inl ⟨by rfl, ?_⟩) (by assumption) ?_
  rotate_left
  · intro w hSw; (try dsimp only at hSw); go_simp; try with_reducible rfl
  try simp only [Act.put, List.getElem_toArray, List.getElem_cons_succ, List.getElem_cons_zero, List.setIfInBounds_toArray, List.set_cons_zero, List.set_cons_succ]
  refine wpAnyH_take (i := 6) (v := ?_) rfl (by kernel_rfl) (by kernel_rfl) (by kernel_rfl) (fun _ _ _ h => h) (Or.inl ⟨by rfl, ?_⟩) (by assumption) ?_
  rotate_left
  · intro w hSw; (try dsimp only at hSw); go_simp; try with_reducible rfl
  try simp only [Act.put, List.getElem_toArray, List.getElem_cons_succ, List.getElem_cons_zero, List.setIfInBounds_toArray, List.set_cons_zero, List.set_cons_succ]
  refine wpAnyH_take (i := 7) (v := ?_) rfl (by kernel_rfl) (by kernel_rfl) (by kernel_rfl) (fun _ _ _ h => h) (Or.inl ⟨by rfl, ?_⟩) (by assumption) ?_
  rotate_left
  · intro w hSw; (try dsimp only at hSw); go_simp; try with_reducible rfl
  try simp only [Act.put, List.getElem_toArray, List.getElem_cons_succ, List.getElem_cons_zero, List.setIfInBounds_toArray, List.set_cons_zero, List.set_cons_succ]
  refine wpAnyH_ready (rs := [8]) (by kernel_rfl) (by simp) (AllReadyH.cons rfl (fun K hK => ?_) AllReadyH.nil)
  rw [if_pos (by rfl)]
  refine wp_copy_at (.tmp 73) (.tmp 76) 63 rfl 45 Tryz.underlying63 (by rw [hi1]; simp [hy1]) g (i + 1) (n + 1 - (i + 1)) (c - (i + 1)) ⟨g, i, none⟩ (n + 1 - i) (c - i) (xs.drop i) (xs ++ rs) (by simp [Act.eval]) (by simp [Act.eval]) (by rw [← HCL.out]; exact HG.out) (by rw [HXD.out]; simp only [Nat.min_def]; split <;> omega) (by rw [← HCL.out, HLN.out, HXD.out]; omega) (fun j u hj => by rw [Addr.add_lit]; exact (cell_of_heap HG.out (i + j)).trans (by rw [HCL.out, List.getElem?_toArray, List.getElem?_append_left (by have := (List.getElem?_eq_some_iff.1 hj).1; rw [HXD.out] at this; rw [HN.out]; omega), ← List.getElem?_drop]; exact hj)) HX.out ?_; intro w2 hh2 hg2
  refine hK.out _ _ ?_ (fun hHeld => ?_)
  · exact Lib.hid ⟨(hg2.block vb (Array.getElem?_eq_some_iff.1 hHeld.out.1).1 (by simpa using hne)).trans hHeld.out.1, grown_trans hHeld.out.2 hg2⟩
  clear hK K
  try simp only [Act.put, List.getElem_toArray, List.getElem_cons_succ, List.getElem_cons_zero, List.setIfInBounds_toArray, List.set_cons_zero, List.set_cons_succ]
  refine wpAnyH_done (by kernel_rfl) ?_ _
  have HH2 := Lib.hid hh2
  clear hh2 hg2
  have f1 : [y].length = Nat.min 1 (n + 1 - i) := by simp only [List.length_singleton, Nat.min_def]; split <;> omega
  have f2 : i + [y].length ≤ (layAt (xs ++ rs) (i + 1) (xs.drop i)).length := by
    have := HXD.out
    rw [layAt_length (by rw [← HCL.out, HLN.out, this]; omega), ← HCL.out, HLN.out]; simp; omega
  have f3 : ∀ j u, [y][j]? = some u → w2.cell? ((⟨vb, 0, none⟩ : Addr).add j) = some u := fun j u hj => by
    rw [Addr.add_lit]; exact (cell_of_heap hHeld.out.1 (0 + j)).trans (by rw [Nat.zero_add]; simpa using hj)
  have f4 : ∀ v ∈ [y], v.oneCell' = true := by simpa using hy
  have f5 : (Tryz.prog.info? 45).map (·.size) = some 1 := by rw [hi1]; simp [hy1]
  go_wp2_with (refine wpList_copy_at rfl (.tmp 80) (.tmp 81) 63 rfl 45 Tryz.underlying63 f5 g i (n + 1 - i) (c - i) ⟨vb, 0, none⟩ 1 1 [y] (layAt (xs ++ rs) (i + 1) (xs.drop i)) (by simp [Act.eval, Act.put]) (by simp [Act.eval, Act.put]) HH2.out f1 f2 f3 f4 ?_)
  intro w3 hh3 hg3
  have HH3 := Lib.hid hh3
  have HG3 := Lib.hid (grown_trans hHeld.out.2 hg3)
  clear hh3 hg3 hHeld
  go_wp2
  go_ret
  refine ⟨_, rfl, ⟨by simp [HN.out]; omega, .inr ⟨g, c, _, rfl, hBg, HH3.out, hroom, by unfold maxLen; omega, ?_, ?_⟩⟩, HG3.out, rfl⟩
  · rw [HL.out]; simp [HN.out]; have := HLN.out; rw [HCL.out] at this; simp [HN.out] at this; omega
  · rw [HL.out]; simp only [Nat.mul_one]; rw [List.take_left' (by simp [HN.out]; omega)]

theorem cells_new (xs : List Value) (i : Nat) (hi : i < xs.length) (y : Value) (Z : List Value) (hz : xs.length + 1 - i ≤ Z.length) :
    (layAt (layAt (xs.take i ++ Z) i [y]) (i + 1) (xs.drop i)).take (xs.length + 1) = xs.take i ++ y :: xs.drop i := by
  have h1 : layAt (xs.take i ++ Z) i [y] = (xs.take i ++ [y]) ++ Z.drop 1 := by
    unfold layAt
    rw [List.take_left' (by rw [List.length_take]; omega), show i + [y].length = (xs.take i).length + 1 by rw [List.length_take, List.length_singleton]; omega, List.drop_append]
    congr 1
    rw [List.drop_of_length_le (by omega)]; simp
  rw [h1]
  unfold layAt
  rw [List.take_left' (by simp; omega), List.take_append_of_le_length (by simp; omega), List.take_of_length_le (by simp; omega)]
  simp

set_option maxRecDepth 100000 in
set_option maxHeartbeats 3200000 in
/-- There is no room. -/
theorem insP_grow (v : Value) (xs : List Value) (i g c : Nat) (y : Value) (vb B : Nat) (w : World) (hi : i < xs.length) (hn : xs.length ≤ 4000000) (hx : ∀ u ∈ xs, u.oneCell' = true) (hy : y.oneCell' = true) (hB : B ≤ w.heap.size) (hv : w.ownsRow B 45 1 v xs.length xs)
    (hve : v = .slice (some ⟨g, 0, none⟩) xs.length c) (hroom : c < xs.length + 1)
    (hvb : w.heap[vb]? = some (.cells #[y] 45 (0, 0))) :
    Calls Tryz.prog 45 #[v, .int .i64 i, .slice (some ⟨vb, 0, none⟩) 1 1] w fun e w' =>
      ∃ v', e = .returned v' ∧ w'.ownsRow B 45 1 v' (xs.length + 1) (xs.take i ++ y :: xs.drop i) ∧ Below w.heap.size w w' ∧ v'.ownBlock = some w.heap.size := by
  subst hve
  obtain ⟨i1, hi1, hz1, hy1, hq1⟩ := insP_info
  have hnc := own_cap hv
  have hcs := hv.cells rfl
  have hgw := (hv.lt g rfl).2
  clear hv
  have hvw := (Array.getElem?_eq_some_iff.1 hvb).1
  have hold : (Builtin.firstCells i1.size i (.slice (some ⟨g, 0, none⟩) i c)).run Tryz.prog w.drew = .ok (xs.take i).toArray w.drew := by
    rw [hy1]
    exact run_firstCells_some w.drew 1 i ⟨g, 0, none⟩ i c (xs.take i) (by rw [List.length_take]; omega) (fun j u hj => by
      rw [List.getElem?_take] at hj
      split at hj
      · exact hcs j u hj
      · cases hj)
  obtain ⟨n, hnn⟩ : ∃ n, xs.length = n := ⟨_, rfl⟩
  have hf := growslice_fits (need := n + 1) (old := c) (bytes := 8) (by omega) (by omega)
  have hrz : ∀ ty, (Builtin.append_ #[63, 3] ty #[.slice (some ⟨g, 0, none⟩) i c, .int .i64 ((n : Int) + 1 - (i : Int))]).run Tryz.prog w =
      .ok (.slice (some ⟨w.heap.size, 0, none⟩) (n + 1) (grownCap w (n + 1) c 45)) (w.drew.alloc (.cells ((xs.take i).toArray ++ Builtin.zeroCells (.pointer none : Value).cells (n + 1 - i) ++ Builtin.zeroCells (.pointer none : Value).cells (grownCap w (n + 1) c 45 - (n + 1))) 45)) := fun ty => by
    have hik : i + (n + 1 - i) = n + 1 := by omega
    have h := Lib.run_append_grow_zeros w 63 3 ty 45 i1 _ .i64 .i64 Tryz.underlying63 Tryz.underlying3 hi1 hz1 (some ⟨g, 0, none⟩) i c (xs.take i) hold (n + 1 - i) (by omega) (by omega) (by omega) (by omega) (by rw [hq1]; omega) (by rw [hq1, hik]; exact hf)
    rw [hik] at h
    rw [show (n : Int) + 1 - (i : Int) = ((n + 1 - i : Nat) : Int) by omega]
    exact h
  have hGn := grownCap_ge w (n + 1) c 45
  have hGm := grownCap_le_maxLen w (n + 1) c 45 (by unfold maxLen; omega)
  unfold maxLen at hGm
  obtain ⟨G, hG⟩ : ∃ G, grownCap w (n + 1) c 45 = G := ⟨_, rfl⟩
  rw [hG] at hrz hGn hGm
  obtain ⟨Z, hZ⟩ : ∃ Z : List Value, Z = (Builtin.zeroCells (.pointer none : Value).cells (n + 1 - i) ++ Builtin.zeroCells (.pointer none : Value).cells (G - (n + 1))).toList := ⟨_, rfl⟩
  have hZl : Z.length = G - i := by rw [hZ]; simp [Builtin.zeroCells, Value.cells]; omega
  have hROW : (xs.take i).toArray ++ Builtin.zeroCells (.pointer none : Value).cells (n + 1 - i) ++ Builtin.zeroCells (.pointer none : Value).cells (G - (n + 1)) = (xs.take i ++ Z).toArray := by
    rw [hZ, Array.append_assoc]; apply Array.toList_inj.1; simp
  rw [hROW] at hrz
  clear hZ hROW hold hf hG
  have HL := Lib.hid (cells_new xs i (by omega) y Z (by omega))
  have HRL := Lib.hid (show (xs.take i ++ Z).length = G by rw [List.length_append, List.length_take, hZl]; omega)
  have HXD := Lib.hid (show (xs.drop i).length = n - i by rw [List.length_drop, hnn])
  have HVB := Lib.hid hvb
  have HC := Lib.hid (fun j u (h : xs[j]? = some u) => show w.cell? ⟨g, j, none⟩ = some u by have := hcs j u h; rwa [Addr.add_lit, Nat.zero_add] at this)
  have HX := Lib.hid (fun u (hu : u ∈ xs.drop i) => hx u (List.mem_of_mem_drop hu))
  have HY : Hid (∀ v ∈ [y], v.oneCell' = true) := Lib.hid (by simpa using hy)
  have HN := Lib.hid hnn
  have f5 : (Tryz.prog.info? 45).map (·.size) = some 1 := by rw [hi1]; simp [hy1]
  rw [hnn] at hi hn hroom hnc ⊢
  obtain ⟨W1, hW1⟩ : ∃ W1, w.drew.alloc (.cells (xs.take i ++ Z).toArray 45) = W1 := ⟨_, rfl⟩
  rw [hW1] at hrz
  have HB1 : Hid (Below w.heap.size w W1) := Lib.hid (by rw [← hW1]; exact (Below.refl _ _).drew.alloc (Nat.le_refl _) _)
  have HR1 : Hid (W1.heap[w.heap.size]? = some (.cells (xs.take i ++ Z).toArray 45 (0, 0))) := Lib.hid (by rw [← hW1]; exact heap_alloc_new w.drew _)
  clear hW1
  have hz1 : ¬ ((1 : Int) = 0) := by omega
  have hz2 : ¬ ((i : Int) = (n : Int)) := by omega
  have hz3 : (c : Int) < (n : Int) + 1 := by omega
  have hw1 : IntKind.i64.wrap ((i : Int) + 1) = (i : Int) + 1 := by rw [IntKind.wrap_i64]; omega
  have hw2 : IntKind.i64.wrap ((n : Int) + 1) = (n : Int) + 1 := by rw [IntKind.wrap_i64]; omega
  have hw3 : IntKind.i64.wrap ((n : Int) + 1 - (i : Int)) = (n : Int) + 1 - (i : Int) := by rw [IntKind.wrap_i64]; omega
  have hb1 : (0 : Int) ≤ (i : Int) + 1 := by omega
  have hin : i ≤ n := by omega
  have htn : ((i : Int) + 1).toNat = i + 1 := by omega
  have hb2 : ¬ (G = i + 1) := by omega
  have hb3 : ¬ (G = i) := by omega
  have hb4 : ¬ (c = i) := by omega
  have hb5 : (i : Int) ≤ (n : Int) := by omega
  have hb6 : (i : Int) ≤ (n : Int) + 1 := by omega
  have f3 : ∀ j u, [y][j]? = some u → W1.cell? ((⟨vb, 0, none⟩ : Addr).add j) = some u := fun j u hj => by
    rw [Addr.add_lit]; exact (HB1.out.cell hvw).trans ((cell_of_heap HVB.out (0 + j)).trans (by rw [Nat.zero_add]; simpa using hj))
  have HF3 := Lib.hid f3
  have f1 : [y].length = Nat.min 1 (n + 1 - i) := by simp only [List.length_singleton, Nat.min_def]; split <;> omega
  have f2 : i + [y].length ≤ (xs.take i ++ Z).length := by rw [HRL.out]; simp; omega
  clear hvb hx hcs hnn hZl f3
  go_enter Tryz.func45, Tryz.ntmps45
  go_wp2_with (first
    | (at_builtin; refine Lib.wpList_append_run _ rfl (.tmp 34) (.tmp 39) 63 3 rfl _ _ rfl rfl _ _ (hrz _) ?_)
    | (refine wpList_copy_at rfl (.tmp 43) (.tmp 44) 63 rfl 45 Tryz.underlying63 f5 w.heap.size i (n + 1 - i) (G - i) ⟨vb, 0, none⟩ 1 1 [y] (xs.take i ++ Z) (by simp [Act.eval, Act.put]) (by simp [Act.eval, Act.put]) HR1.out f1 f2 HF3.out HY.out ?_))
  intro w2 hh2 hg2
  have HH2 := Lib.hid hh2
  have HB2 := Lib.hid (HB1.out.grown hg2 HB1.out.size (fun j h => by cases h; exact Nat.le_refl _))
  clear hh2 hg2
  go_wp2_with fail
  have HS : Hid (Below w.heap.size w w2.drew) := Lib.hid HB2.out.drew
  refine wp_region_held_drew (S := fun wx => Hid (Below w.heap.size w wx)) (by kernel_rfl) ?_ (fun hHeld => ?_)
  · exact HS
  change wpAnyH _ _ _ _ _ 9 #[false, false, false, false, false, false, false, false, false] _ _
  clear HS
  refine wpAnyH_take (i := 0) (v := ?_) rfl (by kernel_rfl) (by kernel_rfl) (by kernel_rfl) (fun _ _ _ h => h) (Or.inl ⟨by rfl, ?_⟩) (by assumption) ?_
  rotate_left
  · intro w hSw; (try dsimp only at hSw); go_simp; try with_reducible rfl
  try simp only [Act.put, List.getElem_toArray, List.getElem_cons_succ, List.getElem_cons_zero, List.setIfInBounds_toArray, List.set_cons_zero, List.set_cons_succ]
  refine wpAnyH_take (i := 1) (v := ?_) rfl (by kernel_rfl) (by kernel_rfl) (by kernel_rfl) (fun _ _ _ h => h) (Or.inl ⟨by rfl, ?_⟩) (by assumption) ?_
  rotate_left
  · intro w hSw; (try dsimp only at hSw); go_simp; try with_reducible rfl
  try simp only [Act.put, List.getElem_toArray, List.getElem_cons_succ, List.getElem_cons_zero, List.setIfInBounds_toArray, List.set_cons_zero, List.set_cons_succ]
  refine wpAnyH_take (i := 2) (v := ?_) rfl (by kernel_rfl) (by kernel_rfl) (by kernel_rfl) (fun _ _ _ h => h) (Or.inl ⟨by rfl, ?_⟩) (by assumption) ?_
  rotate_left
  · intro w hSw; (try dsimp only at hSw); go_simp; try with_reducible rfl
  try simp only [Act.put, List.getElem_toArray, List.getElem_cons_succ, List.getElem_cons_zero, List.setIfInBounds_toArray, List.set_cons_zero, List.set_cons_succ]
  refine wpAnyH_take (i := 3) (v := ?_) rfl (by kernel_rfl) (by kernel_rfl) (by kernel_rfl) (fun _ _ _ h => h) (Or.inl ⟨by rfl, ?_⟩) (by assumption) ?_
  rotate_left
  · intro w hSw; (try dsimp only at hSw); go_simp; try with_reducible rfl
  try simp only [Act.put, List.getElem_toArray, List.getElem_cons_succ, List.getElem_cons_zero, List.setIfInBounds_toArray, List.set_cons_zero, List.set_cons_succ]
  refine wpAnyH_take (i := 4) (v := ?_) rfl (by kernel_rfl) (by kernel_rfl) (by kernel_rfl) (fun _ _ _ h => h) (Or.inl ⟨by rfl, ?_⟩) (by assumption) ?_
  rotate_left
  · intro w hSw; (try dsimp only at hSw); go_simp; try with_reducible rfl
  try simp only [Act.put, List.getElem_toArray, List.getElem_cons_succ, List.getElem_cons_zero, List.setIfInBounds_toArray, List.set_cons_zero, List.set_cons_succ]
  refine wpAnyH_take (i := 5) (v := ?_) rfl (by kernel_rfl) (by kernel_rfl) (by kernel_rfl) (fun _ _ _ h => h) (Or.inl ⟨by rfl, ?_⟩) (by assumption) ?_
  rotate_left
  · intro w hSw; (try dsimp only at hSw); go_simp; try with_reducible rfl
  try simp only [Act.put, List.getElem_toArray, List.getElem_cons_succ, List.getElem_cons_zero, List.setIfInBounds_toArray, List.set_cons_zero, List.set_cons_succ]
  refine wpAnyH_take (i := 6) (v := ?_) rfl (by kernel_rfl) (by kernel_rfl) (by kernel_rfl) (fun _ _ _ h => h) (Or.inl ⟨by rfl, ?_⟩) (by assumption) ?_
  rotate_left
  · intro w hSw; (try dsimp only at hSw); go_simp; try with_reducible rfl
  try simp only [Act.put, List.getElem_toArray, List.getElem_cons_succ, List.getElem_cons_zero, List.setIfInBounds_toArray, List.set_cons_zero, List.set_cons_succ]
  refine wpAnyH_take (i := 7) (v := ?_) rfl (by kernel_rfl) (by kernel_rfl) (by kernel_rfl) (fun _ _ _ h => h) (Or.inl ⟨by rfl, ?_⟩) (by assumption) ?_
  rotate_left
  · intro w hSw; (try dsimp only at hSw); go_simp; try with_reducible rfl
  try simp only [Act.put, List.getElem_toArray, List.getElem_cons_succ, List.getElem_cons_zero, List.setIfInBounds_toArray, List.set_cons_zero, List.set_cons_succ]
  refine wpAnyH_ready (rs := [8]) (by kernel_rfl) (by simp) (AllReadyH.cons rfl (fun K hK => ?_) AllReadyH.nil)
  rw [if_pos (by rfl)]
  refine wp_copy_at (.tmp 50) (.tmp 53) 63 rfl 45 Tryz.underlying63 f5 w.heap.size (i + 1) (n + 1 - (i + 1)) (G - (i + 1)) ⟨g, i, none⟩ (n - i) (c - i) (xs.drop i) (layAt (xs.take i ++ Z) i [y]) (by simp [Act.eval]) (by simp [Act.eval]) HH2.out (by rw [HXD.out]; simp only [Nat.min_def]; split <;> omega) (by rw [layAt_length f2, HRL.out, HXD.out]; omega) (fun j u hj => by rw [Addr.add_lit]; rw [List.getElem?_drop] at hj; exact (hHeld.out.cell hgw).trans (HC.out (i + j) u hj)) HX.out ?_; intro w3 hh3 hg3
  refine hK.out _ _ ?_ (fun hHeld => ?_)
  · exact Lib.hid (hHeld.out.grown hg3 hHeld.out.size (fun j h => by cases h; exact Nat.le_refl _))
  clear hK K
  try simp only [Act.put, List.getElem_toArray, List.getElem_cons_succ, List.getElem_cons_zero, List.setIfInBounds_toArray, List.set_cons_zero, List.set_cons_succ]
  refine wpAnyH_done (by kernel_rfl) ?_ _
  have HH3 := Lib.hid hh3
  clear hh3 hg3
  go_wp2
  go_ret
  refine ⟨_, rfl, ⟨by simp [HN.out]; omega, .inr ⟨w.heap.size, G, _, rfl, hB, HH3.out, hGn, by unfold maxLen; omega, ?_, ?_⟩⟩, hHeld.out, rfl⟩
  · simp only [List.size_toArray, Nat.mul_one]
    rw [layAt_length (by rw [layAt_length f2, HRL.out, HXD.out]; omega), layAt_length f2, HRL.out]
  · simp only [Nat.mul_one]
    have := HL.out
    rw [HN.out] at this
    exact this

/-- One element put in at i. -/
theorem insP_any (v : Value) (xs : List Value) (i : Nat) (y : Value) (vb B : Nat) (w : World) (hi : i ≤ xs.length) (hn : xs.length ≤ 4000000) (hx : ∀ u ∈ xs, u.oneCell' = true) (hy : y.oneCell' = true) (hB : B ≤ w.heap.size) (hv : w.ownsRow B 45 1 v xs.length xs)
    (hvb : w.heap[vb]? = some (.cells #[y] 45 (0, 0))) (hne : ∀ g, v.ownBlock = some g → vb ≠ g) :
    Calls Tryz.prog 45 #[v, .int .i64 i, .slice (some ⟨vb, 0, none⟩) 1 1] w fun e w' =>
      ∃ v', e = .returned v' ∧ w'.ownsRow B 45 1 v' (xs.length + 1) (xs.take i ++ y :: xs.drop i) ∧ w.grownBy w' v.ownBlock ∧ (v'.ownBlock = v.ownBlock ∨ v'.ownBlock = some w.heap.size) := by
  by_cases h : i = xs.length
  · subst h
    rw [List.take_length, List.drop_length]
    exact insP_end v xs y vb B w hn hy hB hv hvb
  · rcases hv.2 with ⟨_, h0⟩ | ⟨g, c, cur, hve, _⟩
    · omega
    · by_cases hr : xs.length + 1 ≤ c
      · refine (insP_shift v xs i g c y vb B w (by omega) hn hx hy hB hv hve hr hvb (hne g (by rw [hve]; rfl))).mono ?_
        rintro e w' ⟨v', h1, h2, h3, h4⟩
        exact ⟨v', h1, h2, h3, .inl h4⟩
      · refine (insP_grow v xs i g c y vb B w (by omega) hn hx hy hB hv hve (by omega) hvb).mono ?_
        rintro e w' ⟨v', h1, h2, h3, h4⟩
        exact ⟨v', h1, h2, grown_below h3, .inr h4⟩

end Go.Proofs.YtcpoodhbakkmcaaGreatDoor
