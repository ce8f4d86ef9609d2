/- The walk of the program's own ring of messages: last. -/
import Derived.Test.YtddgfbmollfmeaaDoorZB2
import Derived.Laws.Rows
set_option linter.unusedSimpArgs false
set_option linter.unusedVariables false
namespace Go.Proofs.YtddgfbmollfmeaaDoor
open Go.RowKit

def lastMsg (l : List MsgM) : MsgM := l.getD (l.length - 1) (0, 0, ⟨#[]⟩, 0)

/-- A message stored into a box. -/
def stM (w : World) (R : Nat) (x : MsgM) : World := (((w.setCell ⟨R, 0, none⟩ (.int .i64 x.1)).setCell ⟨R, 1, none⟩ (.int .i64 x.2.1)).setCell ⟨R, 2, none⟩ (.string x.2.2.1)).setCell ⟨R, 3, none⟩ (.int .i64 x.2.2.2)

theorem stM_box {W : World} {R : Nat} {T : TypeId} {a b c d : Value} (x : MsgM) (h : W.heap[R]? = some (.cells #[a, b, c, d] T (0, 0))) :
    (stM W R x).heap[R]? = some (.cells #[.int .i64 x.1, .int .i64 x.2.1, .string x.2.2.1, .int .i64 x.2.2.2] T (0, 0)) := by
  have q0 := heap_setCell_same W R 0 _ _ (.int .i64 x.1) h
  have q1 := heap_setCell_same _ R 1 _ _ (.int .i64 x.2.1) q0
  have q2 := heap_setCell_same _ R 2 _ _ (.string x.2.2.1) q1
  exact heap_setCell_same _ R 3 _ _ (.int .i64 x.2.2.2) q2

theorem cell_grown {w w' : World} {R b o : Nat} {v : Value} (hg : w.grownBy w' (some R)) (hne : b ≠ R) (h : w.cell? ⟨b, o, none⟩ = some v) : w'.cell? ⟨b, o, none⟩ = some v := by
  exact (World.cell?_of_block (hg.block b (World.block_lt_of_cell? _ _ h) (fun e => hne (by cases e; rfl)))).trans h

theorem stM_grown (W : World) (R : Nat) (x : MsgM) : W.grownBy (stM W R x) (some R) :=
  grown_trans (grown_trans (grown_trans (grown_setCell _ _ _ _) (grown_setCell _ _ _ _)) (grown_setCell _ _ _ _)) (grown_setCell _ _ _ _)

set_option maxRecDepth 100000 in
set_option maxHeartbeats 1600000 in
theorem last_any (G : Nat) (cap : Int) (u : Value) (l : List MsgM) (w : World) (hl : l.length ≤ 2000000) (hr : RBoxM w G cap u) (hv : MsgsAt w u l) :
    Calls Tryd.prog 31 #[.pointer (some ⟨G, 0, none⟩)] w fun e w' => e = .returned (magg (lastMsg l)) ∧ Below w.heap.size w w' := by
  obtain ⟨ua, uc, rfl, hc1, hc2, hc3⟩ := hv
  have hGl := hr.lt
  have ha : Below w.heap.size w (w.alloc (.cells #[.int .i64 0, .int .i64 0, .string ⟨#[]⟩, .int .i64 0] 38)) := (Below.refl _ _).alloc (Nat.le_refl _) _
  have r1 : (w.alloc (.cells #[.int .i64 0, .int .i64 0, .string ⟨#[]⟩, .int .i64 0] 38)).heap[w.heap.size]? = some (.cells #[.int .i64 0, .int .i64 0, .string ⟨#[]⟩, .int .i64 0] 38 (0, 0)) := heap_alloc_new _ _
  have s1 : (w.alloc (.cells #[.int .i64 0, .int .i64 0, .string ⟨#[]⟩, .int .i64 0] 38)).heap.size = w.heap.size + 1 := by simp
  have hb1 := (hr.below ha).c1
  have HC := Lib.hid hc3
  obtain ⟨HA, HR, HG⟩ : Hid (Below w.heap.size w (w.alloc (.cells #[.int .i64 0, .int .i64 0, .string ⟨#[]⟩, .int .i64 0] 38))) ∧ _ ∧ _ := ⟨Lib.hid ha, Lib.hid r1, Lib.hid (hr.below ha)⟩
  have hb1 := HG.out.c1
  by_cases h0 : l.length = 0
  · have hn : (l.length == 0) = true := by simp [h0]
    have g2 : (((l.length : Nat) : Int) == 0) = true := by simp [h0]
    have HL : Hid (lastMsg l = (0, 0, ⟨#[]⟩, 0)) := Lib.hid (by have : l = [] := List.length_eq_zero_iff.1 h0; subst this; rfl)
    clear hc3 ha r1 s1
    go_enter Tryd.func31, Tryd.ntmps31
    go_wp2
    have hb2 : Below w.heap.size w ((w.alloc (.cells #[.int .i64 0, .int .i64 0, .string ⟨#[]⟩, .int .i64 0] 38)).alloc (.cells #[.int .i64 0, .int .i64 0, .string ⟨#[]⟩, .int .i64 0] 38)) := HA.out.alloc HA.out.size _
    have r2 := (((Below.refl _ _).alloc (Nat.le_refl _) (.cells #[.int .i64 0, .int .i64 0, .string ⟨#[]⟩, .int .i64 0] 38)).block _ (Array.getElem?_eq_some_iff.1 HR.out).1).trans HR.out
    refine bodyPost_ret (results_cell_row rfl _ _ _ _ _ _ _ rfl r2 Tryd.underlying38 rfl (by kernel_rfl)) rfl ⟨?_, hb2⟩
    rw [HL.out]
  · have hn : (l.length == 0) = false := by simp [h0]
    have g2 : (((l.length : Nat) : Int) == 0) = false := by simp [h0]
    obtain ⟨b, o, rfl, hin⟩ : ∃ b o, ua = some ⟨b, o, none⟩ ∧ MsgsIn w b o l := by
      rcases HC.out with h | h
      · subst h; simp at h0
      · exact h
    have hbw : b < w.heap.size := World.block_lt_of_cell? _ _ (hin (l.length - 1) (by omega)).1
    obtain ⟨p0, p1, p2, p3⟩ := (hin.below HA.out) (l.length - 1) (by omega)
    have g3 : IntKind.i64.wrap ((l.length : Int) - 1) = (l.length : Int) - 1 := by rw [IntKind.wrap_i64]; omega
    have g4 : (0 : Int) ≤ (l.length : Int) - 1 := by omega
    have g7 : (1 : Int) ≤ (l.length : Int) := by omega
    have g5 : (l.length : Int) - 1 < (l.length : Int) := by omega
    have g6 : ((l.length : Int) - 1).toNat = l.length - 1 := by omega
    have HL : Hid (lastMsg l = l[l.length - 1]'(by omega)) := Lib.hid (by unfold lastMsg; simp [show l.length - 1 < l.length by omega])
    generalize l[l.length - 1]'(by omega) = x at p0 p1 p2 p3 HL
    obtain ⟨q, f, p, d⟩ := x
    have e0 := cell_of_heap r1 0
    have e1 := cell_of_heap r1 1
    have e2 := cell_of_heap r1 2
    have e3 := cell_of_heap r1 3
    have f0 := frozen_of_row _ _ 0 _ _ r1
    have f1 := frozen_of_row _ _ 1 _ _ r1
    have f2 := frozen_of_row _ _ 2 _ _ r1
    have f3 := frozen_of_row _ _ 3 _ _ r1
    clear hc3 ha r1 s1 hin h0
    go_enter Tryd.func31, Tryd.ntmps31
    go_wp2
    have s1 : w.heap.size < (w.alloc (.cells #[.int .i64 0, .int .i64 0, .string ⟨#[]⟩, .int .i64 0] 38)).heap.size := by simp
    have HW := Lib.hid (show b ≠ w.heap.size ∧ G ≠ w.heap.size by omega)
    generalize w.alloc (.cells #[.int .i64 0, .int .i64 0, .string ⟨#[]⟩, .int .i64 0] 38) = w1 at HA HR HG hb1 p0 p1 p2 p3 e0 e1 e2 e3 f0 f1 f2 f3 s1 ⊢
    refine wp_region_held_drew (S := fun wx => wx.cell? ⟨G, 1, none⟩ = some (.slice (some ⟨b, o, none⟩) l.length uc) ∧ wx.cell? ⟨b, o + (l.length - 1) * 4, none⟩ = some (.int .i64 q) ∧ wx.cell? ⟨b, o + (l.length - 1) * 4 + 1, none⟩ = some (.int .i64 f) ∧ wx.cell? ⟨b, o + (l.length - 1) * 4 + 2, none⟩ = some (.string p) ∧ wx.cell? ⟨b, o + (l.length - 1) * 4 + 3, none⟩ = some (.int .i64 d)) (by kernel_rfl) ?_ (fun hHeld => ?_)
    · exact ⟨hb1, p0, p1, p2, p3⟩
    change wpAnyH _ _ _ _ _ 13 #[false, false, false, false, false, false, false, false, false, false, false, false, false] _ _
    refine wpAnyH_take (i := 0) (v := ?_) rfl (by kernel_rfl) (by kernel_rfl) (by kernel_rfl) (fun _ _ _ h => h) (Or.inl ⟨by rfl, ?_⟩) (by assumption) ?_
    rotate_left
    · intro w hSw; (try dsimp only at hSw); go_simp; try with_reducible rfl
    try simp only [Act.put, List.getElem_toArray, List.getElem_cons_succ, List.getElem_cons_zero, List.setIfInBounds_toArray, List.set_cons_zero, List.set_cons_succ]
    refine wpAnyH_take (i := 1) (v := ?_) rfl (by kernel_rfl) (by kernel_rfl) (by kernel_rfl) (fun _ _ _ h => h) (Or.inl ⟨by rfl, ?_⟩) (by assumption) ?_
    rotate_left
    · intro w hSw; (try dsimp only at hSw); go_simp; try with_reducible rfl
    try simp only [Act.put, List.getElem_toArray, List.getElem_cons_succ, List.getElem_cons_zero, List.setIfInBounds_toArray, List.set_cons_zero, List.set_cons_succ]
    refine wpAnyH_take (i := 2) (v := ?_) rfl (by kernel_rfl) (by kernel_rfl) (by kernel_rfl) (fun _ _ _ h => h) (Or.inl ⟨by rfl, ?_⟩) (by assumption) ?_
    rotate_left
    · intro w hSw; (try dsimp only at hSw); go_simp; try with_reducible rfl
    try simp only [Act.put, List.getElem_toArray, List.getElem_cons_succ, List.getElem_cons_zero, List.setIfInBounds_toArray, List.set_cons_zero, List.set_cons_succ]
    refine wpAnyH_take (i := 3) (v := ?_) rfl (by kernel_rfl) (by kernel_rfl) (by kernel_rfl) (fun _ _ _ h => h) (Or.inl ⟨by rfl, ?_⟩) (by assumption) ?_
    rotate_left
    · intro w hSw; (try dsimp only at hSw); go_simp; try with_reducible rfl
    try simp only [Act.put, List.getElem_toArray, List.getElem_cons_succ, List.getElem_cons_zero, List.setIfInBounds_toArray, List.set_cons_zero, List.set_cons_succ]
    refine wpAnyH_take (i := 4) (v := ?_) rfl (by kernel_rfl) (by kernel_rfl) (by kernel_rfl) (fun _ _ _ h => h) (Or.inl ⟨by rfl, ?_⟩) (by assumption) ?_
    rotate_left
    · intro w hSw; (try dsimp only at hSw); go_simp; try with_reducible rfl
    try simp only [Act.put, List.getElem_toArray, List.getElem_cons_succ, List.getElem_cons_zero, List.setIfInBounds_toArray, List.set_cons_zero, List.set_cons_succ]
    refine wpAnyH_take (i := 5) (v := ?_) rfl (by kernel_rfl) (by kernel_rfl) (by kernel_rfl) (fun _ _ _ h => h) (Or.inl ⟨by rfl, ?_⟩) (by assumption) ?_
    rotate_left
    · intro w hSw; (try dsimp only at hSw); go_simp; try with_reducible rfl
    try simp only [Act.put, List.getElem_toArray, List.getElem_cons_succ, List.getElem_cons_zero, List.setIfInBounds_toArray, List.set_cons_zero, List.set_cons_succ]
    refine wpAnyH_take (i := 6) (v := ?_) rfl (by kernel_rfl) (by kernel_rfl) (by kernel_rfl) (fun _ _ _ h => h) (Or.inl ⟨by rfl, ?_⟩) (by assumption) ?_
    rotate_left
    · intro w hSw; (try dsimp only at hSw); go_simp; try with_reducible rfl
    try simp only [Act.put, List.getElem_toArray, List.getElem_cons_succ, List.getElem_cons_zero, List.setIfInBounds_toArray, List.set_cons_zero, List.set_cons_succ]
    refine wpAnyH_take (i := 7) (v := ?_) rfl (by kernel_rfl) (by kernel_rfl) (by kernel_rfl) (fun _ _ _ h => h) (Or.inl ⟨by rfl, ?_⟩) (by assumption) ?_
    rotate_left
    · intro w hSw; (try dsimp only at hSw); go_simp; try with_reducible rfl
    try simp only [Act.put, List.getElem_toArray, List.getElem_cons_succ, List.getElem_cons_zero, List.setIfInBounds_toArray, List.set_cons_zero, List.set_cons_succ]
    refine wpAnyH_take (i := 8) (v := ?_) rfl (by kernel_rfl) (by kernel_rfl) (by kernel_rfl) (fun _ _ _ h => h) (Or.inl ⟨by rfl, ?_⟩) (by assumption) ?_
    rotate_left
    · intro w hSw; (try dsimp only at hSw); go_simp; try with_reducible rfl
    try simp only [Act.put, List.getElem_toArray, List.getElem_cons_succ, List.getElem_cons_zero, List.setIfInBounds_toArray, List.set_cons_zero, List.set_cons_succ]
    refine wpAnyH_take (i := 9) (v := ?_) rfl (by kernel_rfl) (by kernel_rfl) (by kernel_rfl) (fun _ _ _ h => h) (Or.inl ⟨by rfl, ?_⟩) (by assumption) ?_
    rotate_left
    · intro w hSw; (try dsimp only at hSw); go_simp; try with_reducible rfl
    try simp only [Act.put, List.getElem_toArray, List.getElem_cons_succ, List.getElem_cons_zero, List.setIfInBounds_toArray, List.set_cons_zero, List.set_cons_succ]
    refine wpAnyH_take (i := 10) (v := ?_) rfl (by kernel_rfl) (by kernel_rfl) (by kernel_rfl) (fun _ _ _ h => h) (Or.inl ⟨by rfl, ?_⟩) (by assumption) ?_
    rotate_left
    · intro w hSw; (try dsimp only at hSw); go_simp; try with_reducible rfl
    try simp only [Act.put, List.getElem_toArray, List.getElem_cons_succ, List.getElem_cons_zero, List.setIfInBounds_toArray, List.set_cons_zero, List.set_cons_succ]
    refine wpAnyH_take (i := 11) (v := ?_) rfl (by kernel_rfl) (by kernel_rfl) (by kernel_rfl) (fun _ _ _ h => h) (Or.inl ⟨by rfl, ?_⟩) (by assumption) ?_
    rotate_left
    · intro w hSw; (try dsimp only at hSw); go_simp; try with_reducible rfl
    try simp only [Act.put, List.getElem_toArray, List.getElem_cons_succ, List.getElem_cons_zero, List.setIfInBounds_toArray, List.set_cons_zero, List.set_cons_succ]
    clear hb1 p0 p1 p2 p3
    obtain ⟨p4, p5, p6, p7, p8⟩ := hHeld
    have HX := Lib.hid (stM_grown w1 w.heap.size (q, f, p, d))
    refine wpAnyH_ready (rs := [12]) (by kernel_rfl) (by simp) (AllReadyH.cons rfl (fun K hK => ?_) AllReadyH.nil)
    rw [if_pos (by rfl)]
    go_simp
    refine hK.out _ _ ?_ (fun hHeld => ?_)
    · exact ⟨cell_grown (w := w1) (w' := stM w1 w.heap.size (q, f, p, d)) HX.out HW.out.2 p4, cell_grown (w := w1) (w' := stM w1 w.heap.size (q, f, p, d)) HX.out HW.out.1 p5, cell_grown (w := w1) (w' := stM w1 w.heap.size (q, f, p, d)) HX.out HW.out.1 p6, cell_grown (w := w1) (w' := stM w1 w.heap.size (q, f, p, d)) HX.out HW.out.1 p7, cell_grown (w := w1) (w' := stM w1 w.heap.size (q, f, p, d)) HX.out HW.out.1 p8⟩
    clear hK K
    try simp only [Act.put, List.getElem_toArray, List.getElem_cons_succ, List.getElem_cons_zero, List.setIfInBounds_toArray, List.set_cons_zero, List.set_cons_succ]
    refine wpAnyH_done (by kernel_rfl) ?_ _
    have hbE : Below w.heap.size w (stM w1 w.heap.size (q, f, p, d)).drew := (HA.out.grown HX.out (HA.out.size) (fun k h => by cases h; exact Nat.le_refl _)).drew
    go_wp2
    refine bodyPost_ret (results_cell_row rfl _ _ _ _ _ _ _ rfl (stM_box (q, f, p, d) HR.out) Tryd.underlying38 rfl (by kernel_rfl)) rfl ⟨?_, hbE⟩
    rw [HL.out]

end Go.Proofs.YtddgfbmollfmeaaDoor
