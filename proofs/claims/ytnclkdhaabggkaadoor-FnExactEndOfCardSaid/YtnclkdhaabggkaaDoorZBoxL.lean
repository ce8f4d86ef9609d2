/- The exact laws' measure, copy, look and marks of boxes. -/
import Derived.Test.YtnclkdhaabggkaaDoorZB2
import Derived.Test.YtnclkdhaabggkaaDoorZB4
import Derived.Test.YtnclkdhaabggkaaDoorZB1
import Derived.Deep.Cut
set_option linter.unusedSimpArgs false
set_option linter.unusedVariables false
namespace Go.Proofs.YtnclkdhaabggkaaDoor
open Go.RowKit

set_option maxRecDepth 100000 in
set_option maxHeartbeats 400000 in
theorem szBox_any (b : BoxM) (v : Value) (left : Int) (w : World) (h0 : 0 ≤ left) (h1 : left ≤ 1048576) (hs : ∀ x ∈ b.q, x.2.2.1.size ≤ maxLen) (hv : MsgsAt w v b.q) :
    Calls Tryd.prog 6 #[bagg b v, .int .i64 left] w fun e w' => e = .returned (.int .i64 (szMs b.q left)) ∧ Below w.heap.size w w' := by
  have CS := Lib.hid (fun wx (h : MsgsAt wx v b.q) => szMsgs_any v b.q left wx h0 h1 hs h)
  have HV := Lib.hid hv
  obtain ⟨ua, uc, rfl, _, _, _⟩ := hv
  have H2 := Lib.hid (szMs_two b.q left h0)
  obtain ⟨r, hr⟩ : ∃ r, szMs b.q left = r := ⟨_, rfl⟩
  rw [hr] at CS H2 ⊢
  clear hr hs
  go_enter Tryd.func6, Tryd.ntmps6
  go_wp2_with fail
  refine (CS.out _ (HV.out.alloc _)).mono ?_
  rintro e w2 ⟨rfl, hb⟩
  have HB := Lib.hid (((Below.refl _ w).alloc (Nat.le_refl _) _).trans (hb.mono (by simp)))
  clear hb
  rcases H2.out with ⟨h3, h4⟩ | h3
  · have g3 : decide (r < 0) = true := decide_eq_true h3
    subst h4
    clear H2 h3
    go_wp2
    go_ret
    exact ⟨rfl, HB.out⟩
  · have g3 : decide (r < 0) = false := decide_eq_false (by omega)
    clear H2 h3
    go_wp2
    go_ret
    exact ⟨rfl, HB.out⟩

set_option maxRecDepth 100000 in
set_option maxHeartbeats 3200000 in
theorem toBox_any (b : BoxM) (v : Value) (w : World) (hl : b.q.length ≤ 2000000) (hv : MsgsAt w v b.q) :
    Calls Tryd.prog 8 #[bagg b v] w fun e w' => ∃ u, e = .returned (bagg b u) ∧ MOwn w' w.heap.size u b.q ∧ Below w.heap.size w w' := by
  have CT := Lib.hid (fun wx (h : MsgsAt wx v b.q) => toMsgs_any v b.q wx hl h)
  have HV := Lib.hid hv
  obtain ⟨ua, uc, rfl, _, _, _⟩ := hv
  clear hl
  go_enter Tryd.func8, Tryd.ntmps8
  go_wp2_with fail
  have e1 : (w.alloc (.cells (bcells b (.slice ua b.q.length uc)) 24)).heap.size = w.heap.size + 1 := by simp
  have hb1 : Below w.heap.size w (w.alloc (.cells (bcells b (.slice ua b.q.length uc)) 24)) := (Below.refl _ _).alloc (Nat.le_refl _) _
  have r1 : BBox (w.alloc (.cells (bcells b (.slice ua b.q.length uc)) 24)) w.heap.size 24 b (.slice ua b.q.length uc) := BBox.new _ _ _ _
  generalize w.alloc (.cells (bcells b (.slice ua b.q.length uc)) 24) = w1 at e1 hb1 r1 ⊢
  have e2 : (w1.alloc (.cells #[.int .i64 0, .int .i64 0, .slice none 0 0, .int .i64 0, .int .i64 0, .int .i64 0, .int .i64 0, .bool false] 28)).heap.size = w.heap.size + 1 + 1 := by simp [e1]
  have hb2 : Below w.heap.size w (w1.alloc (.cells #[.int .i64 0, .int .i64 0, .slice none 0 0, .int .i64 0, .int .i64 0, .int .i64 0, .int .i64 0, .bool false] 28)) := hb1.alloc (by omega) _
  have r2 : (w1.alloc (.cells #[.int .i64 0, .int .i64 0, .slice none 0 0, .int .i64 0, .int .i64 0, .int .i64 0, .int .i64 0, .bool false] 28)).heap[w.heap.size + 1]? = some (.cells #[.int .i64 0, .int .i64 0, .slice none 0 0, .int .i64 0, .int .i64 0, .int .i64 0, .int .i64 0, .bool false] 28 (0, 0)) := by rw [← e1]; exact heap_alloc_new _ _
  have q2 := r1.below ((Below.refl _ w1).alloc (Nat.le_refl _) (.cells #[.int .i64 0, .int .i64 0, .slice none 0 0, .int .i64 0, .int .i64 0, .int .i64 0, .int .i64 0, .bool false] 28))
  generalize w1.alloc (.cells #[.int .i64 0, .int .i64 0, .slice none 0 0, .int .i64 0, .int .i64 0, .int .i64 0, .int .i64 0, .bool false] 28) = w2 at e2 hb2 r2 q2 ⊢
  have e3 : (w2.alloc (.cells #[.int .i64 b.cap, .int .i64 b.pol, .slice none 0 0, .int .i64 0, .int .i64 0, .int .i64 0, .int .i64 0, .bool false] 28)).heap.size = w.heap.size + 1 + 1 + 1 := by simp [e2]
  have hb3 : Below w.heap.size w (w2.alloc (.cells #[.int .i64 b.cap, .int .i64 b.pol, .slice none 0 0, .int .i64 0, .int .i64 0, .int .i64 0, .int .i64 0, .bool false] 28)) := hb2.alloc (by omega) _
  have k3 : (w2.alloc (.cells #[.int .i64 b.cap, .int .i64 b.pol, .slice none 0 0, .int .i64 0, .int .i64 0, .int .i64 0, .int .i64 0, .bool false] 28)).heap[w.heap.size + 1 + 1]? = some (.cells #[.int .i64 b.cap, .int .i64 b.pol, .slice none 0 0, .int .i64 0, .int .i64 0, .int .i64 0, .int .i64 0, .bool false] 28 (0, 0)) := by rw [← e2]; exact heap_alloc_new _ _
  have hq3 := (Below.refl _ w2).alloc (Nat.le_refl _) (.cells #[.int .i64 b.cap, .int .i64 b.pol, .slice none 0 0, .int .i64 0, .int .i64 0, .int .i64 0, .int .i64 0, .bool false] 28)
  have r3 := (hq3.block (w.heap.size + 1) (by omega)).trans r2
  have q3 := q2.below hq3
  generalize w2.alloc (.cells #[.int .i64 b.cap, .int .i64 b.pol, .slice none 0 0, .int .i64 0, .int .i64 0, .int .i64 0, .int .i64 0, .bool false] 28) = w3 at e3 hb3 k3 r3 q3 ⊢
  clear hq3 r2 q2 hb2 e2 hb1 r1 e1
  refine (CT.out _ (HV.out.below hb3)).mono ?_
  rintro e w4 ⟨u, rfl, ho, hb4⟩
  obtain ⟨xa, xc, hu⟩ := own_slice ho
  subst hu
  have r4 := (hb4.block _ (by omega)).trans r3
  have k4 := (hb4.block _ (by omega)).trans k3
  have q4 := q3.below hb4
  have hb : Below w.heap.size w w4 := hb3.trans (hb4.mono (by omega))
  have hw4 : w.heap.size + 1 + 1 < w4.heap.size := (Array.getElem?_eq_some_iff.1 k4).1
  have ho2 := own_mono ho (A := w.heap.size + 1 + 1 + 1) (by omega)
  have g4 : w4.grownBy w4 (some (w.heap.size + 1 + 1)) := grown_refl _ _
  -- the store of cell 2
  have a2 := q4.cells
  have fr2 : w4.frozen? ⟨w.heap.size + 1 + 1, 2, none⟩ = false := frozen_of_row _ _ _ _ _ k4
  have y2 : w4.cell? ⟨w.heap.size + 1 + 1, 2, none⟩ = some (.slice none 0 0) := cell_of_heap k4 2
  go_upto_region 5 with (fail)
  have k5 := heap_setCell_same _ _ 2 _ _ (.slice xa b.q.length xc) k4
  have g5 := grown_trans g4 (grown_setCell w4 (w.heap.size + 1 + 1) 2 (.slice xa b.q.length xc))
  have q5 := q4.grown (grown_setCell w4 (w.heap.size + 1 + 1) 2 (.slice xa b.q.length xc)) (by omega)
  generalize w4.setCell ⟨w.heap.size + 1 + 1, 2, none⟩ (.slice xa b.q.length xc) = w5 at k5 g5 q5 ⊢
  clear k4 g4 q4 fr2 y2 a2
  -- the store of cell 3
  have a3 := q5.cells
  have x3 : w5.cell? ⟨w.heap.size, 3, none⟩ = some (.int .i64 b.ofr) := cell_of_heap q5 3
  have fr3 : w5.frozen? ⟨w.heap.size + 1 + 1, 3, none⟩ = false := frozen_of_row _ _ _ _ _ k5
  have y3 : w5.cell? ⟨w.heap.size + 1 + 1, 3, none⟩ = some (.int .i64 0) := cell_of_heap k5 3
  go_upto_region 6 with (fail)
  have k6 := heap_setCell_same _ _ 3 _ _ (.int .i64 b.ofr) k5
  have g6 := grown_trans g5 (grown_setCell w5 (w.heap.size + 1 + 1) 3 (.int .i64 b.ofr))
  have q6 := q5.grown (grown_setCell w5 (w.heap.size + 1 + 1) 3 (.int .i64 b.ofr)) (by omega)
  generalize w5.setCell ⟨w.heap.size + 1 + 1, 3, none⟩ (.int .i64 b.ofr) = w6 at k6 g6 q6 ⊢
  clear k5 g5 q5 fr3 y3 a3 x3
  -- the store of cell 4
  have a4 := q6.cells
  have x4 : w6.cell? ⟨w.heap.size, 4, none⟩ = some (.int .i64 b.rcv) := cell_of_heap q6 4
  have fr4 : w6.frozen? ⟨w.heap.size + 1 + 1, 4, none⟩ = false := frozen_of_row _ _ _ _ _ k6
  have y4 : w6.cell? ⟨w.heap.size + 1 + 1, 4, none⟩ = some (.int .i64 0) := cell_of_heap k6 4
  go_upto_region 7 with (fail)
  have k7 := heap_setCell_same _ _ 4 _ _ (.int .i64 b.rcv) k6
  have g7 := grown_trans g6 (grown_setCell w6 (w.heap.size + 1 + 1) 4 (.int .i64 b.rcv))
  have q7 := q6.grown (grown_setCell w6 (w.heap.size + 1 + 1) 4 (.int .i64 b.rcv)) (by omega)
  generalize w6.setCell ⟨w.heap.size + 1 + 1, 4, none⟩ (.int .i64 b.rcv) = w7 at k7 g7 q7 ⊢
  clear k6 g6 q6 fr4 y4 a4 x4
  -- the store of cell 5
  have a5 := q7.cells
  have x5 : w7.cell? ⟨w.heap.size, 5, none⟩ = some (.int .i64 b.drp) := cell_of_heap q7 5
  have fr5 : w7.frozen? ⟨w.heap.size + 1 + 1, 5, none⟩ = false := frozen_of_row _ _ _ _ _ k7
  have y5 : w7.cell? ⟨w.heap.size + 1 + 1, 5, none⟩ = some (.int .i64 0) := cell_of_heap k7 5
  go_upto_region 8 with (fail)
  have k8 := heap_setCell_same _ _ 5 _ _ (.int .i64 b.drp) k7
  have g8 := grown_trans g7 (grown_setCell w7 (w.heap.size + 1 + 1) 5 (.int .i64 b.drp))
  have q8 := q7.grown (grown_setCell w7 (w.heap.size + 1 + 1) 5 (.int .i64 b.drp)) (by omega)
  generalize w7.setCell ⟨w.heap.size + 1 + 1, 5, none⟩ (.int .i64 b.drp) = w8 at k8 g8 q8 ⊢
  clear k7 g7 q7 fr5 y5 a5 x5
  -- the store of cell 6
  have a6 := q8.cells
  have x6 : w8.cell? ⟨w.heap.size, 6, none⟩ = some (.int .i64 b.mrg) := cell_of_heap q8 6
  have fr6 : w8.frozen? ⟨w.heap.size + 1 + 1, 6, none⟩ = false := frozen_of_row _ _ _ _ _ k8
  have y6 : w8.cell? ⟨w.heap.size + 1 + 1, 6, none⟩ = some (.int .i64 0) := cell_of_heap k8 6
  go_upto_region 9 with (fail)
  have k9 := heap_setCell_same _ _ 6 _ _ (.int .i64 b.mrg) k8
  have g9 := grown_trans g8 (grown_setCell w8 (w.heap.size + 1 + 1) 6 (.int .i64 b.mrg))
  have q9 := q8.grown (grown_setCell w8 (w.heap.size + 1 + 1) 6 (.int .i64 b.mrg)) (by omega)
  generalize w8.setCell ⟨w.heap.size + 1 + 1, 6, none⟩ (.int .i64 b.mrg) = w9 at k9 g9 q9 ⊢
  clear k8 g8 q8 fr6 y6 a6 x6
  -- the store of cell 7
  have a7 := q9.cells
  have x7 : w9.cell? ⟨w.heap.size, 7, none⟩ = some (.bool b.shut) := cell_of_heap q9 7
  have fr7 : w9.frozen? ⟨w.heap.size + 1 + 1, 7, none⟩ = false := frozen_of_row _ _ _ _ _ k9
  have y7 : w9.cell? ⟨w.heap.size + 1 + 1, 7, none⟩ = some (.bool false) := cell_of_heap k9 7
  go_upto_region 10 with (fail)
  have k10 := heap_setCell_same _ _ 7 _ _ (.bool b.shut) k9
  have g10 := grown_trans g9 (grown_setCell w9 (w.heap.size + 1 + 1) 7 (.bool b.shut))
  have q10 := q9.grown (grown_setCell w9 (w.heap.size + 1 + 1) 7 (.bool b.shut)) (by omega)
  generalize w9.setCell ⟨w.heap.size + 1 + 1, 7, none⟩ (.bool b.shut) = w10 at k10 g10 q10 ⊢
  clear k9 g9 q9 fr7 y7 a7 x7
  have r10 := (g10.block _ (by omega) (fun e => by injection e with e; omega)).trans r4
  have ho10 := own_grownN ho (by omega) g10
  have hb10 := hb.trans (below_of_grown g10 (by omega) (by omega))
  go_wp2_with (first
    | refine wpList_load_row rfl 28 (.tmp 3) rfl (w.heap.size + 1 + 1) rfl 28 (bcells b (.slice xa b.q.length xc)) (0, 0) _ k10 Tryd.underlying28 rfl (by kernel_rfl) ?_
    | refine wpList_store_rowTo rfl 28 (.tmp 2) (.tmp 29) rfl rfl (w.heap.size + 1) (bcells b (.slice xa b.q.length xc)) rfl rfl 28 _ r10 (by kernel_rfl) rfl (bcells_one _ _ _ _) ?_)
  have G := grown_setRow w10 (w.heap.size + 1) (bcells b (.slice xa b.q.length xc))
  have HR := setRow_heap (bcells b (.slice xa b.q.length xc)) r10
  have HO := own_mono (own_grownN ho10 (by omega) G) (A := w.heap.size) (by omega)
  have HB := hb10.trans (below_of_grown (n := w.heap.size) G (by omega) (by have := hb10.size; omega))
  refine bodyPost_ret (results_cell_row rfl _ _ _ _ _ _ _ rfl HR Tryd.underlying28 rfl (by kernel_rfl)) rfl ⟨_, rfl, HO, HB⟩

end Go.Proofs.YtnclkdhaabggkaaDoor
