/- The walk of slices.Delete of one element at []*node, at an own row. -/
import Derived.Test.YtcpoodhbakkmcaaGreatDoorZB1
import Derived.Test.YtcpoodhbakkmcaaGreatDoorZNode
import Derived.Deep.RegionHeld
import Derived.Lib.SliceRun
set_option linter.unusedSimpArgs false
set_option linter.unusedVariables false
namespace Go.Proofs.YtcpoodhbakkmcaaGreatDoor
open Go.RowKit Go.Lib

theorem cells_out (xs : List Value) (i : Nat) (hi : i < xs.length) (z : Value) (rs : List Value) :
    (layAt (layAt (xs ++ rs) i (xs.drop (i + 1))) (xs.length - 1) [z]).take (xs.length - 1) = xs.take i ++ xs.drop (i + 1) := by
  have h1 : layAt (xs ++ rs) i (xs.drop (i + 1)) = (xs.take i ++ xs.drop (i + 1)) ++ (xs ++ rs).drop (xs.length - 1) := by
    unfold layAt
    rw [List.take_append_of_le_length (by omega), List.length_drop, show i + (xs.length - (i + 1)) = xs.length - 1 by omega]
  rw [h1]
  unfold layAt
  have h2 : (xs.take i ++ xs.drop (i + 1)).length = xs.length - 1 := by simp; omega
  rw [List.append_assoc, List.take_append_of_le_length (by rw [List.length_take]; simp; omega), List.take_take, Nat.min_self, List.take_left' h2]

theorem delP_zero : ∀ w, (zeroValue 45).run Tryz.prog w = .ok (.pointer none) w := fun w => by
  obtain ⟨i1, hi1, hz1, hy1, hq1⟩ := insP_info
  simp [zeroValue, typeInfo, hi1, hz1]

set_option maxRecDepth 100000 in
set_option maxHeartbeats 3200000 in
theorem delP_any (v : Value) (xs : List Value) (i B : Nat) (w : World) (hi : i < xs.length) (hn : xs.length ≤ 4000000) (hx : ∀ u ∈ xs, u.oneCell' = true) (hv : w.ownsRow B 45 1 v xs.length xs) :
    Calls Tryz.prog 65 #[v, .int .i64 i, .int .i64 ((i : Int) + 1)] w fun e w' =>
      ∃ v', e = .returned v' ∧ w'.ownsRow B 45 1 v' (xs.length - 1) (xs.take i ++ xs.drop (i + 1)) ∧ w.grownBy w' v.ownBlock ∧ v'.ownBlock = v.ownBlock := by
  obtain ⟨i1, hi1, hz1, hy1, hq1⟩ := insP_info
  obtain ⟨g, c, cur, rfl, hBg, hg, hnc, hcm, hcs, hct⟩ : ∃ g c cur, v = .slice (some ⟨g, 0, none⟩) xs.length c ∧ B ≤ g ∧ w.heap[g]? = some (.cells cur 45 (0, 0)) ∧ xs.length ≤ c ∧ c ≤ maxLen ∧ cur.size = c * 1 ∧ cur.toList.take (xs.length * 1) = xs := by
    rcases hv.2 with ⟨_, h⟩ | h
    · omega
    · exact h
  clear hv
  rw [Nat.mul_one] at hcs hct
  obtain ⟨cl, rfl⟩ : ∃ cl : List Value, cur = cl.toArray := ⟨cur.toList, by simp⟩
  have hcl : cl = xs ++ cl.drop xs.length := by
    have := List.take_append_drop xs.length cl
    rw [show cl.take xs.length = xs from hct] at this; exact this.symm
  have hlen : cl.length = c := by simpa using hcs
  obtain ⟨rs, hrs⟩ : ∃ rs, cl.drop xs.length = rs := ⟨_, rfl⟩
  rw [hrs] at hcl
  unfold maxLen at hcm
  obtain ⟨n, hnn⟩ : ∃ n, xs.length = n := ⟨_, rfl⟩
  have hXD : (xs.drop (i + 1)).length = n - (i + 1) := by rw [List.length_drop, hnn]
  have HL := Lib.hid (cells_out xs i hi (.pointer none) rs)
  have HXD := Lib.hid hXD
  have HCL := Lib.hid hcl
  have HG := Lib.hid hg
  have HX := Lib.hid (fun u (hu : u ∈ xs.drop (i + 1)) => hx u (List.mem_of_mem_drop hu))
  have HLN := Lib.hid hlen
  have HN := Lib.hid hnn
  obtain ⟨A, hA, hsrc⟩ : ∃ A : Addr, (if c = i + 1 then some (⟨g, 0, none⟩ : Addr) else some ⟨g, i + 1, none⟩) = some A ∧ Hid (∀ j u, (xs.drop (i + 1))[j]? = some u → w.drew.cell? (A.add j) = some u) := by
    by_cases h : c = i + 1
    · refine ⟨_, by rw [if_pos h], Lib.hid fun j u hj => ?_⟩
      have := (List.getElem?_eq_some_iff.1 hj).1
      rw [hXD] at this; omega
    · refine ⟨_, by rw [if_neg h], Lib.hid fun j u hj => ?_⟩
      rw [Addr.add_lit]
      refine (cell_of_heap hg (i + 1 + j)).trans ?_
      rw [hcl, List.getElem?_toArray, List.getElem?_append_left (by have := (List.getElem?_eq_some_iff.1 hj).1; rw [hXD] at this; omega), ← List.getElem?_drop]
      exact hj
  have f5 : (Tryz.prog.info? 45).map (·.size) = some 1 := by rw [hi1]; simp [hy1]
  rw [hnn] at hi hn hnc ⊢
  have hz1 : ((i : Int) == (i : Int) + 1) = false := by rw [beq_eq_false_iff_ne]; omega
  have htn : ((i : Int) + 1).toNat = i + 1 := by omega
  have hb1 : (0 : Int) ≤ (i : Int) + 1 := by omega
  have hb2 : ¬ (n = i) := by omega
  have hb4 : ¬ (c = n - 1) := by omega
  have hic : i ≤ c := by omega
  have hjc : i + 1 ≤ c := by omega
  have hb6 : (i : Int) + 1 ≤ (n : Int) := by omega
  have hb7 : (i : Int) ≤ (i : Int) + 1 := by omega
  have hlx : i + (n - (i + 1)) = n - 1 := by omega
  clear hnn hcl hg hx hlen hct hcs hrs hXD
  go_enter Tryz.func65, Tryz.ntmps65
  go_wp2_with fail
  have HS : Hid (w.grownBy w.drew (some g)) := Lib.hid (grown_drewN w 1 _)
  refine wp_region_held_drew (S := fun wx => Hid (w.grownBy wx (some g))) (by kernel_rfl) ?_ (fun hHeld => ?_)
  · exact HS
  change wpAnyH _ _ _ _ _ 8 #[false, false, false, false, false, false, false, false] _ _
  clear HS
  refine wpAnyH_take (i := 0) (v := ?_) rfl (by kernel_rfl) (by kernel_rfl) (by kernel_rfl) (fun _ _ _ h => h) (Or.inl ⟨by rfl, ?_⟩) (by assumption) ?_
  rotate_left
  · intro w hSw; (try dsimp only at hSw); go_simp; try with_reducible rfl
  try simp only [Act.put, List.getElem_toArray, List.getElem_cons_succ, List.getElem_cons_zero, List.setIfInBounds_toArray, List.set_cons_zero, List.set_cons_succ]
  refine wpAnyH_take (i := 1) (v := ?_) rfl (by kernel_rfl) (by kernel_rfl) (by kernel_rfl) (fun _ _ _ h => h) (Or.inl ⟨by rfl, ?_⟩) (by assumption) ?_
  rotate_left
  · intro w hSw; (try dsimp only at hSw); go_simp; try with_reducible rfl
  try simp only [Act.put, List.getElem_toArray, List.getElem_cons_succ, List.getElem_cons_zero, List.setIfInBounds_toArray, List.set_cons_zero, List.set_cons_succ]
  refine wpAnyH_take (i := 2) (v := ?_) rfl (by kernel_rfl) (by kernel_rfl) (by kernel_rfl) (fun _ _ _ h => h) (Or.inl ⟨by rfl, ?_⟩) (by assumption) ?_
  rotate_left
  · intro w hSw; (try dsimp only at hSw); go_simp; try with_reducible rfl
  try simp only [Act.put, List.getElem_toArray, List.getElem_cons_succ, List.getElem_cons_zero, List.setIfInBounds_toArray, List.set_cons_zero, List.set_cons_succ]
  refine wpAnyH_take (i := 3) (v := ?_) rfl (by kernel_rfl) (by kernel_rfl) (by kernel_rfl) (fun _ _ _ h => h) (Or.inl ⟨by rfl, ?_⟩) (by assumption) ?_
  rotate_left
  · intro w hSw; (try dsimp only at hSw); go_simp; try with_reducible rfl
  try simp only [Act.put, List.getElem_toArray, List.getElem_cons_succ, List.getElem_cons_zero, List.setIfInBounds_toArray, List.set_cons_zero, List.set_cons_succ]
  refine wpAnyH_take (i := 4) (v := ?_) rfl (by kernel_rfl) (by kernel_rfl) (by kernel_rfl) (fun _ _ _ h => h) (Or.inl ⟨by rfl, ?_⟩) (by assumption) ?_
  rotate_left
  · intro w hSw; (try dsimp only at hSw); go_simp; try with_reducible rfl
  try simp only [Act.put, List.getElem_toArray, List.getElem_cons_succ, List.getElem_cons_zero, List.setIfInBounds_toArray, List.set_cons_zero, List.set_cons_succ]
  refine wpAnyH_take (i := 5) (v := ?_) rfl (by kernel_rfl) (by kernel_rfl) (by kernel_rfl) (fun _ _ _ h => h) (Or.inl ⟨by rfl, ?_⟩) (by assumption) ?_
  rotate_left
  · intro w hSw; (try dsimp only at hSw); go_simp; try with_reducible rfl
  try simp only [Act.put, List.getElem_toArray, List.getElem_cons_succ, List.getElem_cons_zero, List.setIfInBounds_toArray, List.set_cons_zero, List.set_cons_succ]
  refine wpAnyH_ready (rs := [6]) (by kernel_rfl) (by simp) (AllReadyH.cons rfl (fun K hK => ?_) AllReadyH.nil)
  rw [if_pos (by rfl)]
  refine wp_append_room_at (.tmp 22) (.tmp 25) 63 rfl 45 i1 Tryz.underlying63 hi1 hy1 g i c A (n - (i + 1)) (c - (i + 1)) (xs.drop (i + 1)) (xs ++ rs) (by simp [Act.eval]) (by simp [Act.eval, hA]) (by rw [← HCL.out]; exact HG.out) HXD.out (by omega) (by rw [← HCL.out, HLN.out, HXD.out]; omega) hsrc.out HX.out ?_; intro w2 hh2 hg2
  refine hK.out _ _ ?_ (fun hHeld => ?_)
  · exact Lib.hid (grown_trans hHeld.out hg2)
  clear hK K
  try simp only [Act.put, List.getElem_toArray, List.getElem_cons_succ, List.getElem_cons_zero, List.setIfInBounds_toArray, List.set_cons_zero, List.set_cons_succ]
  refine wpAnyH_take (i := 7) (v := ?_) rfl (by kernel_rfl) (by kernel_rfl) (by kernel_rfl) (fun _ _ _ h => h) (Or.inl ⟨by rfl, ?_⟩) (by assumption) ?_
  rotate_left
  · intro w hSw; (try dsimp only at hSw); go_simp; try with_reducible rfl
  try simp only [Act.put, List.getElem_toArray, List.getElem_cons_succ, List.getElem_cons_zero, List.setIfInBounds_toArray, List.set_cons_zero, List.set_cons_succ]
  refine wpAnyH_done (by kernel_rfl) ?_ _
  have HH2 := Lib.hid hh2
  clear hh2 hg2
  have f2 : i + (xs.drop (i + 1)).length ≤ (xs ++ rs).length := by rw [← HCL.out, HLN.out, HXD.out]; omega
  have f3 : n - 1 + 1 ≤ (layAt (xs ++ rs) i (xs.drop (i + 1))).length := by rw [layAt_length f2, ← HCL.out, HLN.out]; omega
  rw [hlx]
  have hb8 : ¬ (n - 1 = c) := by omega
  have hb9 : ((n - 1 : Nat) : Int) ≤ (n : Int) := by omega
  have hb10 : n - (n - 1) = 1 := by omega
  go_wp2_with (refine wpList_clear_at rfl (.tmp 31) 63 rfl 45 Tryz.underlying63 (.pointer none) delP_zero rfl rfl g (n - 1) 1 (c - (n - 1)) (layAt (xs ++ rs) i (xs.drop (i + 1))) (by omega) (by simp [Act.eval, Act.put, hb10]) HH2.out f3 ?_)
  intro w3 hh3 hg3
  have HH3 := Lib.hid hh3
  have HG3 := Lib.hid (grown_trans hHeld.out hg3)
  clear hh3 hg3 hHeld
  go_wp2
  go_ret
  refine ⟨_, rfl, ⟨by simp [HN.out]; omega, .inr ⟨g, c, _, rfl, hBg, HH3.out, by omega, by unfold maxLen; omega, ?_, ?_⟩⟩, HG3.out, rfl⟩
  · simp only [List.size_toArray, Nat.mul_one, List.replicate_one]
    rw [layAt_length (by simpa using f3), layAt_length f2, ← HCL.out, HLN.out]
  · have := HL.out
    rw [HN.out] at this
    simp only [Nat.mul_one, List.replicate_one]
    exact this

end Go.Proofs.YtcpoodhbakkmcaaGreatDoor
