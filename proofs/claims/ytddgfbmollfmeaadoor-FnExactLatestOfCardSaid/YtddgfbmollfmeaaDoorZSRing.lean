/- The walks of the reference's copies of messages and rings, RingOk, Recorded and LatestOf. -/
import Derived.Test.YtddgfbmollfmeaaDoorZB2
import Derived.Deep.AppendLies
import Derived.Test.YtddgfbmollfmeaaDoorZSMsg
set_option linter.unusedSimpArgs false
set_option linter.unusedVariables false
namespace Go.Proofs.YtddgfbmollfmeaaDoor
open Go.RowKit

/-! ### Rings -/

def ringB (cap : Int) (l : List MsgM) : Bool := inB cap 0 32 && msgsB l && decide ((l.length : Int) ≤ cap)

set_option maxRecDepth 100000 in
set_option maxHeartbeats 800000 in
theorem specRingOk_any (cap : Int) (v : Value) (l : List MsgM) (w : World) (hl : l.length ≤ 1048576) (hs : ∀ x ∈ l, x.2.2.1.size ≤ 1048576) (hv : MsgsAt w v l) :
    Calls Tryd.prog 7 #[.agg #[.int .i64 cap, v]] w fun e w' => e = .returned (.bool (ringB cap l)) ∧ Below w.heap.size w w' := by
  have C1 := Lib.hid (fun w' => specIn_any cap 0 32 w')
  have C2 := Lib.hid (fun w' (h : MsgsAt w' v l) => specMsgsOk_any v l w' hl hs h)
  have HB : Hid (ringB cap l = ((decide (0 ≤ cap) && decide (cap ≤ 32)) && msgsB l && decide ((l.length : Int) ≤ cap))) := rfl
  have HV := Lib.hid hv
  obtain ⟨ua, uc, rfl, _, _, _⟩ := hv
  generalize (decide (0 ≤ cap) && decide (cap ≤ 32)) = b1 at C1 HB
  generalize msgsB l = b2 at C2 HB
  obtain ⟨n, hn⟩ : ∃ n, l.length = n := ⟨_, rfl⟩
  simp only [hn] at C2 HB HV ⊢
  clear hs
  go_enter Tryd.func7, Tryd.ntmps7
  go_wp2_with fail
  refine (C1.out _).mono ?_
  rintro e w1 ⟨rfl, rfl⟩
  cases b1
  · go_wp2
    go_ret
    exact ⟨ret_bool (by rw [HB.out]; rfl), (Below.refl _ _).alloc (Nat.le_refl _) _⟩
  go_wp2_with fail
  have b0 : Below w.heap.size w (w.alloc (.cells #[.int .i64 cap, .slice ua n uc] 29)) := (Below.refl _ _).alloc (Nat.le_refl _) _
  have s0 : w.heap.size < (w.alloc (.cells #[.int .i64 cap, .slice ua n uc] 29)).heap.size := by simp
  have c0 : (w.alloc (.cells #[.int .i64 cap, .slice ua n uc] 29)).cell? ⟨w.heap.size, 0, none⟩ = some (.int .i64 cap) := by rw [World.cell?_alloc_at _ _ _ _ rfl]; rfl
  have c1 : (w.alloc (.cells #[.int .i64 cap, .slice ua n uc] 29)).cell? ⟨w.heap.size, 1, none⟩ = some (.slice ua n uc) := by rw [World.cell?_alloc_at _ _ _ _ rfl]; rfl
  have hv0 := HV.out.alloc (.cells #[.int .i64 cap, .slice ua n uc] 29)
  generalize w.alloc (.cells #[.int .i64 cap, .slice ua n uc] 29) = w0 at b0 s0 c0 c1 hv0 ⊢
  refine (C2.out _ hv0).mono ?_
  rintro e w1 ⟨rfl, hb⟩
  have d0 := (below_cell hb s0).trans c0
  have d1 := (below_cell hb s0).trans c1
  have B1 := Lib.hid (b0.trans (hb.mono b0.size))
  clear b0 s0 c0 c1 hb hv0
  cases b2
  · go_wp2
    go_ret
    exact ⟨ret_bool (by rw [HB.out]; rfl), B1.out⟩
  go_wp2
  go_ret
  exact ⟨ret_bool (by rw [HB.out]; simp), B1.out⟩

theorem specMax_any (x y : Int) (w : World) :
    Calls Tryd.prog 33 #[.int .i64 x, .int .i64 y] w fun e w' => e = .returned (.int .i64 (max x y)) ∧ w = w' := by
  by_cases h : y < x
  · go_enter Tryd.func33, Tryd.ntmps33
    go_wp2
    go_ret
    exact ⟨ret_int (by omega), rfl⟩
  · go_enter Tryd.func33, Tryd.ntmps33
    go_wp2
    go_ret
    exact ⟨ret_int (by omega), rfl⟩

set_option maxRecDepth 100000 in
set_option maxHeartbeats 400000 in
theorem specCopyR_any (cap : Int) (v : Value) (l : List MsgM) (w : World) (hl : l.length ≤ 2000000) (hv : MsgsAt w v l) :
    Calls Tryd.prog 27 #[.agg #[.int .i64 cap, v]] w fun e w' => ∃ u, e = .returned (.agg #[.int .i64 cap, u]) ∧ MOwn w' w.heap.size u l ∧ Below w.heap.size w w' := by
  have CC := Lib.hid (fun wx (h : MsgsAt wx v l) => specCopyM_any v l wx hl h)
  have HV := Lib.hid hv
  obtain ⟨ua, uc, rfl, _, _, _⟩ := hv
  obtain ⟨n, hn⟩ : ∃ n, l.length = n := ⟨_, rfl⟩
  simp only [hn] at CC HV ⊢
  clear hl hn
  go_enter Tryd.func27, Tryd.ntmps27
  go_wp2_with fail
  obtain ⟨w1, hw1⟩ : ∃ w1, w.alloc (.cells #[.int .i64 cap, .slice ua n uc] 29) = w1 := ⟨_, rfl⟩
  have hs1 : w1.heap.size = w.heap.size + 1 := by rw [← hw1]; simp
  have hb1 : Below w.heap.size w w1 := by rw [← hw1]; exact (Below.refl _ _).alloc (Nat.le_refl _) _
  have r1 : w1.heap[w.heap.size]? = some (.cells #[.int .i64 cap, .slice ua n uc] 29 (0, 0)) := by rw [← hw1]; exact heap_alloc_new _ _
  rw [hw1]
  obtain ⟨w2, hw2⟩ : ∃ w2, w1.alloc (.cells #[.int .i64 0, .slice none 0 0] 29) = w2 := ⟨_, rfl⟩
  have hs2 : w2.heap.size = w.heap.size + 1 + 1 := by rw [← hw2]; simp [hs1]
  have hb2 : Below w.heap.size w w2 := by rw [← hw2]; exact hb1.alloc (by omega) _
  have r2 : w2.heap[w.heap.size + 1]? = some (.cells #[.int .i64 0, .slice none 0 0] 29 (0, 0)) := by rw [← hw2, ← hs1]; exact heap_alloc_new _ _
  have q2 : w2.heap[w.heap.size]? = some (.cells #[.int .i64 cap, .slice ua n uc] 29 (0, 0)) := by rw [← hw2]; exact (((Below.refl _ w1).alloc (Nat.le_refl _) _).block _ (by omega)).trans r1
  rw [hw2]
  have hv2 := HV.out.below hb2
  have d0 : w2.cell? ⟨w.heap.size, 0, none⟩ = some (.int .i64 cap) := cell_of_heap q2 0
  have d1 : w2.cell? ⟨w.heap.size, 1, none⟩ = some (.slice ua n uc) := cell_of_heap q2 1
  have HB2 := Lib.hid hb2
  have R2 := Lib.hid r2
  clear hw1 hs1 hb1 r1 hw2 hb2 r2 q2
  refine wp_region_held_drew (S := fun wx => wx.cell? ⟨w.heap.size, 0, none⟩ = some (.int .i64 cap) ∧ wx.cell? ⟨w.heap.size, 1, none⟩ = some (.slice ua n uc)) (by kernel_rfl) ?_ (fun hHeld => ?_)
  · exact ⟨d0, d1⟩
  change wpAnyH _ _ _ _ _ 7 #[false, false, false, false, false, false, false] _ _
  clear d0 d1
  refine wpAnyH_take (i := 0) (v := ?_) rfl (by kernel_rfl) (by kernel_rfl) (by kernel_rfl) (fun _ _ _ h => h) (Or.inl ⟨by rfl, ?_⟩) (by assumption) ?_
  rotate_left
  · intro w hSw; (try dsimp only at hSw); go_simp; try with_reducible rfl
  try simp only [Act.put, List.getElem_toArray, List.getElem_cons_succ, List.getElem_cons_zero, List.setIfInBounds_toArray, List.set_cons_zero, List.set_cons_succ]
  refine wpAnyH_take (i := 1) (v := ?_) rfl (by kernel_rfl) (by kernel_rfl) (by kernel_rfl) (fun _ _ _ h => h) (Or.inl ⟨by rfl, ?_⟩) (by assumption) ?_
  rotate_left
  · intro w hSw; (try dsimp only at hSw); go_simp; try with_reducible rfl
  try simp only [Act.put, List.getElem_toArray, List.getElem_cons_succ, List.getElem_cons_zero, List.setIfInBounds_toArray, List.set_cons_zero, List.set_cons_succ]
  refine wpAnyH_take (i := 2) (v := ?_) rfl (by kernel_rfl) (by kernel_rfl) (by kernel_rfl) (fun _ _ _ h => h) (Or.inl ⟨by rfl, ?_⟩) (by assumption) ?_
  rotate_left
  · intro w hSw; (try dsimp only at hSw); go_simp; try with_reducible rfl
  try simp only [Act.put, List.getElem_toArray, List.getElem_cons_succ, List.getElem_cons_zero, List.setIfInBounds_toArray, List.set_cons_zero, List.set_cons_succ]
  refine wpAnyH_take (i := 3) (v := ?_) rfl (by kernel_rfl) (by kernel_rfl) (by kernel_rfl) (fun _ _ _ h => h) (Or.inl ⟨by rfl, ?_⟩) (by assumption) ?_
  rotate_left
  · intro w hSw; (try dsimp only at hSw); go_simp; try with_reducible rfl
  try simp only [Act.put, List.getElem_toArray, List.getElem_cons_succ, List.getElem_cons_zero, List.setIfInBounds_toArray, List.set_cons_zero, List.set_cons_succ]
  refine wpAnyH_ready (rs := [4]) (by kernel_rfl) (by simp) (AllReadyH.cons rfl (fun K hK => ?_) AllReadyH.nil)
  rw [if_pos (by rfl)]
  go_simp; go_at_call 43; refine (CC.out _ (hv2.below (Below.refl _ _).drew)).mono ?_; rintro e wa ⟨u, rfl, ho, hb⟩; obtain ⟨xa, xc, hxu⟩ := own_slice ho; subst hxu; go_wp2_with fail
  refine hK.out _ _ ?_ (fun hHeld => ?_)
  · exact ⟨(below_cell hb (World.block_lt_of_cell? _ _ hHeld.1)).trans hHeld.1, (below_cell hb (World.block_lt_of_cell? _ _ hHeld.2)).trans hHeld.2⟩
  clear hK K
  try simp only [Act.put, List.getElem_toArray, List.getElem_cons_succ, List.getElem_cons_zero, List.setIfInBounds_toArray, List.set_cons_zero, List.set_cons_succ]
  have hsz : w2.drew.heap.size = w.heap.size + 1 + 1 := hs2
  have ra : wa.heap[w.heap.size + 1]? = some (.cells #[.int .i64 0, .slice none 0 0] 29 (0, 0)) := (hb.block _ (by omega)).trans R2.out
  have hba : Below w.heap.size w wa := HB2.out.trans ((show Below w.heap.size w2 w2.drew from (Below.refl _ _).drew).trans (hb.mono (by omega)))
  have h4 : wa.cell? ⟨w.heap.size + 1, 0, none⟩ = some (.int .i64 0) := cell_of_heap ra 0
  have h5 : wa.cell? ⟨w.heap.size + 1, 1, none⟩ = some (.slice none 0 0) := cell_of_heap ra 1
  have h6 : wa.frozen? ⟨w.heap.size + 1, 0, none⟩ = false := frozen_of_row _ _ _ _ _ ra
  have h7 : wa.frozen? ⟨w.heap.size + 1, 1, none⟩ = false := frozen_of_row _ _ _ _ _ ra
  have HE : Hid (MOwn ((wa.setCell ⟨w.heap.size + 1, 0, none⟩ (.int .i64 cap)).setCell ⟨w.heap.size + 1, 1, none⟩ (.slice xa l.length xc)) w.heap.size (.slice xa l.length xc) l) :=
    Lib.hid (own_mono (own_farR (own_farR ho (by omega)) (by omega)) (by omega))
  have HR : Hid (((wa.setCell ⟨w.heap.size + 1, 0, none⟩ (.int .i64 cap)).setCell ⟨w.heap.size + 1, 1, none⟩ (.slice xa l.length xc)).heap[w.heap.size + 1]? = some (.cells #[.int .i64 cap, .slice xa l.length xc] 29 (0, 0))) :=
    Lib.hid (heap_setCell_same _ _ 1 _ _ (.slice xa l.length xc) (heap_setCell_same _ _ 0 _ _ (.int .i64 cap) ra))
  have HB : Hid (Below w.heap.size w ((wa.setCell ⟨w.heap.size + 1, 0, none⟩ (.int .i64 cap)).setCell ⟨w.heap.size + 1, 1, none⟩ (.slice xa l.length xc))) :=
    Lib.hid ((hba.grown (grown_setCell _ _ _ _) hba.size (fun k h => by cases h; omega)).grown (grown_setCell _ _ _ _) (by simp; exact hba.size) (fun k h => by cases h; omega))
  clear ho hb ra hba hv2 HB2 R2 hsz hs2
  refine wpAnyH_take (i := 5) (v := ?_) rfl (by kernel_rfl) (by kernel_rfl) (by kernel_rfl) (fun _ _ _ h => h) (Or.inl ⟨by rfl, ?_⟩) (by assumption) ?_
  rotate_left
  · intro w hSw; (try dsimp only at hSw); go_simp; try with_reducible rfl
  try simp only [Act.put, List.getElem_toArray, List.getElem_cons_succ, List.getElem_cons_zero, List.setIfInBounds_toArray, List.set_cons_zero, List.set_cons_succ]
  refine wpAnyH_ready (rs := [6]) (by kernel_rfl) (by simp) (AllReadyH.cons rfl (fun K hK => ?_) AllReadyH.nil)
  rw [if_pos (by rfl)]
  go_simp
  refine hK.out _ _ ?_ (fun hHeld => ?_)
  · exact ⟨by rw [World.cell?_setCell_far _ _ _ _ (by simp), World.cell?_setCell_far _ _ _ _ (by simp)]; exact hHeld.1, by rw [World.cell?_setCell_far _ _ _ _ (by simp), World.cell?_setCell_far _ _ _ _ (by simp)]; exact hHeld.2⟩
  clear hK K
  try simp only [Act.put, List.getElem_toArray, List.getElem_cons_succ, List.getElem_cons_zero, List.setIfInBounds_toArray, List.set_cons_zero, List.set_cons_succ]
  refine wpAnyH_done (by kernel_rfl) ?_ _
  clear hHeld
  go_wp2
  exact bodyPost_ret (results_cell_row rfl _ _ _ _ _ _ _ rfl HR.out Tryd.underlying29 rfl (by kernel_rfl)) rfl ⟨_, rfl, HE.out, HB.out⟩

end Go.Proofs.YtddgfbmollfmeaaDoor
