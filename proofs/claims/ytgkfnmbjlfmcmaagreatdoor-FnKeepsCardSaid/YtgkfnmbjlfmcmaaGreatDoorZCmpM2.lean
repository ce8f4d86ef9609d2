/- The walks of cmp.Compare at int64, of cmp.Or, of impl.bySeqThenTopic. -/
import Derived.Test.YtgkfnmbjlfmcmaaGreatDoorZB5
import Derived.Test.YtgkfnmbjlfmcmaaGreatDoorZB2
import Derived.Deep.RegionHeld
import Derived.Deep.RegionHeld3
set_option linter.unusedSimpArgs false
set_option linter.unusedVariables false
namespace Go.Proofs.YtgkfnmbjlfmcmaaGreatDoor
open Go.RowKit Go.Sort

set_option maxRecDepth 100000 in
set_option maxHeartbeats 800000 in
theorem compareI_any (x y : Int) (w : World) :
    Calls Tryz.prog 54 #[.int .i64 x, .int .i64 y] w fun e w' => e = .returned (.int .i64 (cmpI x y)) ∧ w' = w := by
  have e1 : (x != x) = false := by simp
  have e2 : (y != y) = false := by simp
  have HE : Hid (cmpI x y = if x < y then -1 else if y < x then 1 else 0) := rfl
  generalize cmpI x y = c at HE ⊢
  go_enter Tryz.func54, Tryz.ntmps54
  by_cases h1 : x < y
  · have g1 : decide (x < y) = true := decide_eq_true h1
    have HF : Hid (c = -1) := Lib.hid (by rw [HE.out, if_pos h1])
    clear h1 HE
    go_wp2
    go_ret
    exact ⟨by rw [HF.out]; rfl, rfl⟩
  · have g1 : decide (x < y) = false := decide_eq_false h1
    by_cases h2 : y < x
    · have g2 : decide (y < x) = true := decide_eq_true h2
      have HF : Hid (c = 1) := Lib.hid (by rw [HE.out, if_neg h1, if_pos h2])
      clear h1 h2 HE
      go_wp2
      go_ret
      exact ⟨by rw [HF.out]; rfl, rfl⟩
    · have g2 : decide (y < x) = false := decide_eq_false h2
      have HF : Hid (c = 0) := Lib.hid (by rw [HE.out, if_neg h1, if_neg h2])
      clear h1 h2 HE
      go_wp2
      go_ret
      exact ⟨by rw [HF.out]; rfl, rfl⟩

set_option maxRecDepth 100000 in
set_option maxHeartbeats 800000 in
theorem or_any (x y : Int) (g c : Nat) (w : World) (h0 : w.cell? ⟨g, 0, none⟩ = some (.int .i64 x)) (h1 : w.cell? ⟨g, 1, none⟩ = some (.int .i64 y)) :
    Calls Tryz.prog 53 #[.slice (some ⟨g, 0, none⟩) 2 c] w fun e w' => e = .returned (.int .i64 (if x = 0 then y else x)) ∧ w' = w := by
  have H0 := Lib.hid h0
  have H1 := Lib.hid h1
  clear h0 h1
  go_enter Tryz.func53, Tryz.ntmps53
  go_wp2
  go_loopw [8] (fun i wr => ∃ k : Nat, k ≤ 2 ∧ i = .int .i64 k ∧ wr = w ∧ (1 ≤ k → x = 0) ∧ (2 ≤ k → y = 0)) (fun i _ => 2 - (intOf i).toNat)
  case atStart => exact ⟨0, by omega, rfl, rfl, by omega, by omega⟩
  case round =>
    obtain ⟨k, hk, rfl, rfl, hx, hy⟩ := hrel
    by_cases h2 : k = 2
    · subst h2
      have ex := hx (by omega)
      have ey := hy (by omega)
      subst ex
      subst ey
      go_wp2
      go_ret
      exact ⟨by simp, rfl⟩
    · by_cases h1 : k = 1
      · subst h1
        have ex := hx (by omega)
        subst ex
        have c1 := H1.out
        by_cases hy0 : y = 0
        · subst hy0
          have g1 : ((0 : Int) != 0) = false := by decide
          go_wp2
          go_roundw
          case rel => exact ⟨2, by omega, by go_num, by trivial, by simp, by simp⟩
          case measure => simp [intOf]
        · have g1 : (y != 0) = true := by simp [hy0]
          go_wp2
          go_ret
          exact ⟨by simp, rfl⟩
      · obtain rfl : k = 0 := by omega
        have c0 := H0.out
        by_cases hx0 : x = 0
        · subst hx0
          have g1 : ((0 : Int) != 0) = false := by decide
          go_wp2
          go_roundw
          case rel => exact ⟨1, by omega, by go_num, by trivial, by simp, by omega⟩
          case measure => simp [intOf]
        · have g1 : (x != 0) = true := by simp [hx0]
          go_wp2
          go_ret
          exact ⟨by simp [hx0], rfl⟩

theorem grow_drew_grow (w : World) (os os' : Array Obj) (q n : Nat) : grow ((grow (w.drewN q) os).drewN n) os' = grow (w.drewN (q + n)) (os ++ os') := by
  show grow (grow ((w.drewN q).drewN n) os) os' = _
  rw [grow_grow]
  congr 1
  simp [World.drewN, Nat.add_assoc]

/-- Some draws and blocks behind w. -/
def After (w wx : World) : Prop := ∃ n os, wx = grow (w.drewN n) os

theorem After.drew {w wx : World} (h : After w wx) : After w wx.drew := by
  obtain ⟨n, os, rfl⟩ := h
  exact ⟨n + 1, os, rfl⟩

theorem After.grow {w wx : World} (h : After w wx) (os : Array Obj) : After w (grow wx os) := by
  obtain ⟨n, os2, rfl⟩ := h
  exact ⟨n, _, by rw [grow_grow]⟩

theorem After.alloc {w wx : World} (h : After w wx) (o : Obj) : After w (wx.alloc o) := by rw [alloc_eq_grow]; exact h.grow _

theorem cell_after {wx : World} {os : Array Obj} {a : Addr} {v : Value} (h : wx.cell? a = some v) : (grow wx os).cell? a = some v := by
  rw [cell?_grow _ _ _ (World.block_lt_of_cell? _ _ h)]; exact h

set_option maxRecDepth 100000 in
set_option maxHeartbeats 1600000 in
theorem bySeq_any (a b : MsgM) (w : World) :
    Calls Tryz.prog 33 #[magg a, magg b] w fun e w' => e = .returned (.int .i64 (seqC a b)) ∧ ∃ n os, w' = grow (w.drewN n) os := by
  have CI := Lib.hid (fun w' => compareI_any a.1 b.1 w')
  have CT := Lib.hid (fun w' => byTopic_any a b w')
  have HE : Hid (seqC a b = if cmpI a.1 b.1 = 0 then topicC a b else cmpI a.1 b.1) := rfl
  generalize seqC a b = c at HE ⊢
  generalize topicC a b = ct at HE CT
  obtain ⟨ci, hci⟩ : ∃ ci, cmpI a.1 b.1 = ci := ⟨_, rfl⟩
  rw [hci] at HE CI
  have CO := Lib.hid (fun g cp w' h0 h1 => or_any ci ct g cp w' h0 h1)
  rw [← HE.out] at CO
  clear hci HE
  obtain ⟨q, f, p, d⟩ := a
  obtain ⟨q2, f2, p2, d2⟩ := b
  go_enter Tryz.func33, Tryz.ntmps33
  go_wp2_with fail
  have d0 : ((w.alloc (.cells #[.int .i64 q, .int .i64 f, .string p, .int .i64 d] 26)).alloc (.cells #[.int .i64 q2, .int .i64 f2, .string p2, .int .i64 d2] 26)).heap[w.heap.size]? = some (.cells #[.int .i64 q, .int .i64 f, .string p, .int .i64 d] 26 (0, 0)) := by
    rw [Below.heap_alloc _ _ _ (by simp)]; exact heap_alloc_new _ _
  have d1 : ((w.alloc (.cells #[.int .i64 q, .int .i64 f, .string p, .int .i64 d] 26)).alloc (.cells #[.int .i64 q2, .int .i64 f2, .string p2, .int .i64 d2] 26)).heap[w.heap.size + 1]? = some (.cells #[.int .i64 q2, .int .i64 f2, .string p2, .int .i64 d2] 26 (0, 0)) := by
    have e1 : (w.alloc (.cells #[.int .i64 q, .int .i64 f, .string p, .int .i64 d] 26)).heap.size = w.heap.size + 1 := by simp
    rw [← e1]; exact heap_alloc_new _ _
  have hg : After w ((w.alloc (.cells #[.int .i64 q, .int .i64 f, .string p, .int .i64 d] 26)).alloc (.cells #[.int .i64 q2, .int .i64 f2, .string p2, .int .i64 d2] 26)) := ⟨0, _, by rw [alloc_eq_grow, alloc_eq_grow, grow_grow]; rfl⟩
  generalize (w.alloc (.cells #[.int .i64 q, .int .i64 f, .string p, .int .i64 d] 26)).alloc (.cells #[.int .i64 q2, .int .i64 f2, .string p2, .int .i64 d2] 26) = w0 at d0 d1 hg ⊢
  have a0 : w0.cell? ⟨w.heap.size, 0, none⟩ = some (.int .i64 q) := cell_of_heap d0 0
  have a1 : w0.cell? ⟨w.heap.size, 1, none⟩ = some (.int .i64 f) := cell_of_heap d0 1
  have a2 : w0.cell? ⟨w.heap.size, 2, none⟩ = some (.string p) := cell_of_heap d0 2
  have a3 : w0.cell? ⟨w.heap.size, 3, none⟩ = some (.int .i64 d) := cell_of_heap d0 3
  have b0 : w0.cell? ⟨w.heap.size + 1, 0, none⟩ = some (.int .i64 q2) := cell_of_heap d1 0
  have b1 : w0.cell? ⟨w.heap.size + 1, 1, none⟩ = some (.int .i64 f2) := cell_of_heap d1 1
  have b2 : w0.cell? ⟨w.heap.size + 1, 2, none⟩ = some (.string p2) := cell_of_heap d1 2
  have b3 : w0.cell? ⟨w.heap.size + 1, 3, none⟩ = some (.int .i64 d2) := cell_of_heap d1 3
  have HA := Lib.hid hg.drew
  clear d0 d1 hg
  refine wp_region_held_drew (S := fun wx => wx.cell? ⟨w.heap.size, 0, none⟩ = some (.int .i64 q) ∧ wx.cell? ⟨w.heap.size, 1, none⟩ = some (.int .i64 f) ∧ wx.cell? ⟨w.heap.size, 2, none⟩ = some (.string p) ∧ wx.cell? ⟨w.heap.size, 3, none⟩ = some (.int .i64 d) ∧ wx.cell? ⟨w.heap.size + 1, 0, none⟩ = some (.int .i64 q2) ∧ wx.cell? ⟨w.heap.size + 1, 1, none⟩ = some (.int .i64 f2) ∧ wx.cell? ⟨w.heap.size + 1, 2, none⟩ = some (.string p2) ∧ wx.cell? ⟨w.heap.size + 1, 3, none⟩ = some (.int .i64 d2) ∧ Hid (After w wx)) (by kernel_rfl) ?_ (fun hHeld => ?_)
  · exact ⟨a0, a1, a2, a3, b0, b1, b2, b3, HA⟩
  change wpAnyH _ _ _ _ _ 11 #[false, false, false, false, false, false, false, false, false, false, false] _ _
  clear a0 a1 a2 a3 b0 b1 b2 b3 HA
  refine wpAnyH_take (i := 0) (v := ?_) rfl (by kernel_rfl) (by kernel_rfl) (by kernel_rfl) (fun _ _ _ h => h) (Or.inl ⟨by rfl, ?_⟩) (by assumption) ?_
  rotate_left
  · intro w hSw; (try dsimp only at hSw); go_simp; try with_reducible rfl
  try simp only [Act.put, List.getElem_toArray, List.getElem_cons_succ, List.getElem_cons_zero, List.setIfInBounds_toArray, List.set_cons_zero, List.set_cons_succ]
  refine wpAnyH_take (i := 1) (v := ?_) rfl (by kernel_rfl) (by kernel_rfl) (by kernel_rfl) (fun _ _ _ h => h) (Or.inl ⟨by rfl, ?_⟩) (by assumption) ?_
  rotate_left
  · intro w hSw; (try dsimp only at hSw); go_simp; try with_reducible rfl
  try simp only [Act.put, List.getElem_toArray, List.getElem_cons_succ, List.getElem_cons_zero, List.setIfInBounds_toArray, List.set_cons_zero, List.set_cons_succ]
  refine wpAnyH_take (i := 2) (v := ?_) rfl (by kernel_rfl) (by kernel_rfl) (by kernel_rfl) (fun _ _ _ h => h) (Or.inl ⟨by rfl, ?_⟩) (by assumption) ?_
  rotate_left
  · intro w hSw; (try dsimp only at hSw); go_simp; try with_reducible rfl
  try simp only [Act.put, List.getElem_toArray, List.getElem_cons_succ, List.getElem_cons_zero, List.setIfInBounds_toArray, List.set_cons_zero, List.set_cons_succ]
  refine wpAnyH_take (i := 3) (v := ?_) rfl (by kernel_rfl) (by kernel_rfl) (by kernel_rfl) (fun _ _ _ h => h) (Or.inl ⟨by rfl, ?_⟩) (by assumption) ?_
  rotate_left
  · intro w hSw; (try dsimp only at hSw); go_simp; try with_reducible rfl
  try simp only [Act.put, List.getElem_toArray, List.getElem_cons_succ, List.getElem_cons_zero, List.setIfInBounds_toArray, List.set_cons_zero, List.set_cons_succ]
  refine wpAnyH_take (i := 5) (v := ?_) rfl (by kernel_rfl) (by kernel_rfl) (by kernel_rfl) (fun _ _ _ h => h) (Or.inl ⟨by rfl, ?_⟩) (by assumption) ?_
  rotate_left
  · intro w hSw; (try dsimp only at hSw); go_simp; try with_reducible rfl
  try simp only [Act.put, List.getElem_toArray, List.getElem_cons_succ, List.getElem_cons_zero, List.setIfInBounds_toArray, List.set_cons_zero, List.set_cons_succ]
  refine wpAnyH_take (i := 6) (v := ?_) rfl (by kernel_rfl) (by kernel_rfl) (by kernel_rfl) (fun _ _ _ h => h) (Or.inl ⟨by rfl, ?_⟩) (by assumption) ?_
  rotate_left
  · intro w hSw; (try dsimp only at hSw); go_simp; try with_reducible rfl
  try simp only [Act.put, List.getElem_toArray, List.getElem_cons_succ, List.getElem_cons_zero, List.setIfInBounds_toArray, List.set_cons_zero, List.set_cons_succ]
  refine wpAnyH_ready (rs := [4]) (by kernel_rfl) (by simp) (AllReadyH.cons rfl (fun K hK => ?_) AllReadyH.nil)
  rw [if_pos (by rfl)]
  go_simp; go_at_call 54; refine (CI.out _).mono ?_; rintro e wa ⟨rfl, rfl⟩; go_wp2_with fail
  refine hK.out _ _ ?_ (fun hHeld => ?_)
  · exact hHeld
  clear hK K
  try simp only [Act.put, List.getElem_toArray, List.getElem_cons_succ, List.getElem_cons_zero, List.setIfInBounds_toArray, List.set_cons_zero, List.set_cons_succ]
  refine wpAnyH_ready (rs := [7]) (by kernel_rfl) (by simp) (AllReadyH.cons rfl (fun K hK => ?_) AllReadyH.nil)
  rw [if_pos (by rfl)]
  go_simp; go_at_call 25; refine (CT.out _).mono ?_; rintro e wa ⟨rfl, os, rfl⟩; go_wp2_with fail
  refine hK.out _ _ ?_ (fun hHeld => ?_)
  · obtain ⟨h0, h1, h2, h3, h4, h5, h6, h7, h8⟩ := hHeld; exact ⟨cell_after h0, cell_after h1, cell_after h2, cell_after h3, cell_after h4, cell_after h5, cell_after h6, cell_after h7, Lib.hid (h8.out.grow _)⟩
  clear hK K
  try simp only [Act.put, List.getElem_toArray, List.getElem_cons_succ, List.getElem_cons_zero, List.setIfInBounds_toArray, List.set_cons_zero, List.set_cons_succ]
  refine wpAnyH_ready (rs := [8]) (by kernel_rfl) (by simp) (AllReadyH.cons rfl (fun K hK => ?_) AllReadyH.nil)
  rw [if_pos (by rfl)]
  go_simp
  refine hK.out _ _ ?_ (fun hHeld => ?_)
  · obtain ⟨h0, h1, h2, h3, h4, h5, h6, h7, h8⟩ := hHeld; rw [alloc_eq_grow]; exact ⟨cell_after h0, cell_after h1, cell_after h2, cell_after h3, cell_after h4, cell_after h5, cell_after h6, cell_after h7, Lib.hid (h8.out.grow _)⟩
  clear hK K
  try simp only [Act.put, List.getElem_toArray, List.getElem_cons_succ, List.getElem_cons_zero, List.setIfInBounds_toArray, List.set_cons_zero, List.set_cons_succ]
  refine wpAnyH_ready (rs := [9]) (by kernel_rfl) (by simp) (AllReadyH.cons rfl (fun K hK => ?_) AllReadyH.nil)
  rw [if_pos (by rfl)]
  go_simp; go_at_call 53; refine (CO.out _ _ _ (by rw [World.cell?_alloc_at _ _ _ _ (by first | rfl | simp)]; rfl) (by rw [World.cell?_alloc_at _ _ _ _ (by first | rfl | simp)]; rfl)).mono ?_; rintro e wa ⟨rfl, rfl⟩; go_wp2_with fail
  refine hK.out _ _ ?_ (fun hHeld => ?_)
  · exact hHeld
  clear hK K
  try simp only [Act.put, List.getElem_toArray, List.getElem_cons_succ, List.getElem_cons_zero, List.setIfInBounds_toArray, List.set_cons_zero, List.set_cons_succ]
  refine wpAnyH_take (i := 10) (v := ?_) rfl (by kernel_rfl) (by kernel_rfl) (by kernel_rfl) (fun _ _ _ h => h) (Or.inl ⟨by rfl, ?_⟩) (by assumption) ?_
  rotate_left
  · intro w hSw; (try dsimp only at hSw); go_simp; try with_reducible rfl
  try simp only [Act.put, List.getElem_toArray, List.getElem_cons_succ, List.getElem_cons_zero, List.setIfInBounds_toArray, List.set_cons_zero, List.set_cons_succ]
  refine wpAnyH_done (by kernel_rfl) ?_ _
  have HF := hHeld.2.2.2.2.2.2.2.2
  clear hHeld
  go_wp2
  go_ret
  exact ⟨rfl, HF.out⟩

end Go.Proofs.YtgkfnmbjlfmcmaaGreatDoor
