/- The walks of the reference's draws for the laws of taking. -/
import Derived.Test.YtfkikdoecoobgaaDoorZDrawBA
import Derived.Test.YtfkikdoecoobgaaDoorZB1
set_option linter.unusedSimpArgs false
set_option linter.unusedVariables false
namespace Go.Proofs.YtfkikdoecoobgaaDoor
open Go.RowKit

set_option maxRecDepth 100000 in
set_option maxHeartbeats 3200000 in
theorem drawTaken_any {a : Option Addr} {len cap : Nat} {w : World} (hlen : len ≤ 4096) (hc : CodeAt w.heap.size a len w) :
    Calls Tryd.prog 5 #[.slice a len cap] w fun e w' => ∃ b u, e = .returned (bagg b u) ∧ MOwn w' w.heap.size u b.q ∧ ShortQ 10 b.q ∧ Below w.heap.size w w' := by
  have HC := Lib.hid hc
  clear hc
  go_enter Tryd.func5, Tryd.ntmps5
  go_upto_region 1 with (fail)
  have X0 := BBox.new w 26 zeroBox (.slice none 0 0)
  have B0 := (Below.refl w.heap.size w).alloc (Nat.le_refl _) (.cells (bcells zeroBox (.slice none 0 0)) 26)
  have s0 : (w.alloc (.cells (bcells zeroBox (.slice none 0 0)) 26)).heap.size = w.heap.size + 1 := by simp
  change Code.wp _ _ _ _ (w.alloc (.cells (bcells zeroBox (.slice none 0 0)) 26))
  generalize w.alloc (.cells (bcells zeroBox (.slice none 0 0)) 26) = w0 at X0 B0 s0 ⊢
  go_wp2_with fail
  refine (curNew_any a len cap w0 hlen ((HC.out.below B0.block).mono B0.size)).mono ?_
  rintro e w1 ⟨rfl, h1, b1⟩
  have X1 := X0.below b1
  have B1 := below_end B0 b1
  obtain ⟨g, hgg⟩ : ∃ g, w0.heap.size = g := ⟨_, rfl⟩
  rw [hgg] at h1 s0 ⊢
  have hg1 := h1.lt
  have hwg : w.heap.size + 1 ≤ g := by omega
  clear X0 B0 b1 hgg HC s0
  go_wp2_with fail
  refine (draw7A_any h1).mono ?_
  rintro e w2 ⟨b, u, rfl, ho, hs, h2, g2⟩
  obtain ⟨ua, uc, hu⟩ := own_slice ho
  subst hu
  have X2 := X1.grown g2 (by omega)
  have B2 := B1.grown g2 B1.size (fun k e => by cases e; omega)
  have O2 := own_mono ho (A := w.heap.size + 1) (by omega)
  clear X1 B1 h1 g2 ho h2
  go_wp2_with (first
    | refine wpList_store_rowTo rfl 26 (.tmp 2) _ rfl rfl w.heap.size (bcells b (.slice ua b.q.length uc)) rfl rfl 26 _ X2 (by kernel_rfl) rfl (bcells_one _ _ _ _) ?_)
  have G := grown_setRow w2 w.heap.size (bcells b (.slice ua b.q.length uc))
  have HX := setRow_heap (bcells b (.slice ua b.q.length uc)) X2
  exact bodyPost_ret (results_cell_row rfl _ _ _ _ _ _ _ rfl HX Tryd.underlying26 rfl (by kernel_rfl)) rfl ⟨b, _, rfl, own_mono (own_grownN O2 (by omega) G) (A := w.heap.size) (by omega), hs, B2.trans (below_of_grown G (Nat.le_refl _) B2.size)⟩

set_option maxRecDepth 100000 in
set_option maxHeartbeats 3200000 in
theorem drawShut_any {a : Option Addr} {len cap : Nat} {w : World} (hlen : len ≤ 4096) (hc : CodeAt w.heap.size a len w) :
    Calls Tryd.prog 8 #[.slice a len cap] w fun e w' => ∃ b u, e = .returned (bagg b u) ∧ MOwn w' w.heap.size u b.q ∧ ShortQ 10 b.q ∧ Below w.heap.size w w' := by
  have HC := Lib.hid hc
  clear hc
  go_enter Tryd.func8, Tryd.ntmps8
  go_upto_region 1 with (fail)
  have X0 := BBox.new w 26 zeroBox (.slice none 0 0)
  have B0 := (Below.refl w.heap.size w).alloc (Nat.le_refl _) (.cells (bcells zeroBox (.slice none 0 0)) 26)
  have s0 : (w.alloc (.cells (bcells zeroBox (.slice none 0 0)) 26)).heap.size = w.heap.size + 1 := by simp
  change Code.wp _ _ _ _ (w.alloc (.cells (bcells zeroBox (.slice none 0 0)) 26))
  generalize w.alloc (.cells (bcells zeroBox (.slice none 0 0)) 26) = w0 at X0 B0 s0 ⊢
  go_wp2_with fail
  refine (curNew_any a len cap w0 hlen ((HC.out.below B0.block).mono B0.size)).mono ?_
  rintro e w1 ⟨rfl, h1, b1⟩
  have X1 := X0.below b1
  have B1 := below_end B0 b1
  obtain ⟨g, hgg⟩ : ∃ g, w0.heap.size = g := ⟨_, rfl⟩
  rw [hgg] at h1 s0 ⊢
  have hg1 := h1.lt
  have hwg : w.heap.size + 1 ≤ g := by omega
  clear X0 B0 b1 hgg HC s0
  go_wp2_with fail
  refine (draw7A_any h1).mono ?_
  rintro e w2 ⟨b, u, rfl, ho, hs, h2, g2⟩
  obtain ⟨ua, uc, hu⟩ := own_slice ho
  subst hu
  have X2 := X1.grown g2 (by omega)
  have B2 := B1.grown g2 B1.size (fun k e => by cases e; omega)
  have O2 := own_mono ho (A := w.heap.size + 1) (by omega)
  clear X1 B1 h1 g2 ho h2
  go_wp2_with (first
    | refine wpList_store_rowTo rfl 26 (.tmp 2) _ rfl rfl w.heap.size (bcells b (.slice ua b.q.length uc)) rfl rfl 26 _ X2 (by kernel_rfl) rfl (bcells_one _ _ _ _) ?_)
  have G := grown_setRow w2 w.heap.size (bcells b (.slice ua b.q.length uc))
  have HX := setRow_heap (bcells b (.slice ua b.q.length uc)) X2
  exact bodyPost_ret (results_cell_row rfl _ _ _ _ _ _ _ rfl HX Tryd.underlying26 rfl (by kernel_rfl)) rfl ⟨b, _, rfl, own_mono (own_grownN O2 (by omega) G) (A := w.heap.size) (by omega), hs, B2.trans (below_of_grown G (Nat.le_refl _) B2.size)⟩

set_option maxRecDepth 100000 in
set_option maxHeartbeats 3200000 in
theorem drawEnd_any {a : Option Addr} {len cap : Nat} {w : World} (hlen : len ≤ 4096) (hc : CodeAt w.heap.size a len w) :
    Calls Tryd.prog 9 #[.slice a len cap] w fun e w' => ∃ b u, e = .returned (bagg b u) ∧ MOwn w' w.heap.size u b.q ∧ ShortQ 10 b.q ∧ Below w.heap.size w w' := by
  have HC := Lib.hid hc
  clear hc
  go_enter Tryd.func9, Tryd.ntmps9
  go_upto_region 1 with (fail)
  have X0 := BBox.new w 26 zeroBox (.slice none 0 0)
  have B0 := (Below.refl w.heap.size w).alloc (Nat.le_refl _) (.cells (bcells zeroBox (.slice none 0 0)) 26)
  have s0 : (w.alloc (.cells (bcells zeroBox (.slice none 0 0)) 26)).heap.size = w.heap.size + 1 := by simp
  change Code.wp _ _ _ _ (w.alloc (.cells (bcells zeroBox (.slice none 0 0)) 26))
  generalize w.alloc (.cells (bcells zeroBox (.slice none 0 0)) 26) = w0 at X0 B0 s0 ⊢
  go_wp2_with fail
  refine (curNew_any a len cap w0 hlen ((HC.out.below B0.block).mono B0.size)).mono ?_
  rintro e w1 ⟨rfl, h1, b1⟩
  have X1 := X0.below b1
  have B1 := below_end B0 b1
  obtain ⟨g, hgg⟩ : ∃ g, w0.heap.size = g := ⟨_, rfl⟩
  rw [hgg] at h1 s0 ⊢
  have hg1 := h1.lt
  have hwg : w.heap.size + 1 ≤ g := by omega
  clear X0 B0 b1 hgg HC s0
  go_wp2_with fail
  refine (draw7A_any h1).mono ?_
  rintro e w2 ⟨b, u, rfl, ho, hs, h2, g2⟩
  obtain ⟨ua, uc, hu⟩ := own_slice ho
  subst hu
  have X2 := X1.grown g2 (by omega)
  have B2 := B1.grown g2 B1.size (fun k e => by cases e; omega)
  have hs2 : w1.heap.size ≤ w2.heap.size := g2.size
  have O2 := own_mono ho (A := g + 1) (by omega)
  clear X1 B1 h1 g2 ho
  go_upto_region 3 with (fail)
  have hb3 : Below w2.heap.size w2 (w2.alloc (.cells (bcells b (.slice ua b.q.length uc)) 26)) := (Below.refl _ _).alloc (Nat.le_refl _) _
  have Y3 := BBox.new w2 26 b (.slice ua b.q.length uc)
  have X3 := X2.below hb3
  have B3 := below_end B2 hb3
  have O3 := row_below O2 hb3
  have H3 := h2.after hb3
  obtain ⟨M, hM⟩ : ∃ M, w2.heap.size = M := ⟨_, rfl⟩
  rw [hM] at Y3 hs2 ⊢
  generalize w2.alloc (.cells (bcells b (.slice ua b.q.length uc)) 26) = w3 at Y3 X3 B3 O3 H3 ⊢
  clear hM hb3 X2 B2 O2 h2
  go_wp2_with fail
  refine (curOnce_any 2 (by omega) H3).mono ?_
  rintro e w4 ⟨c, rfl, h4, g4⟩
  have X4 := X3.grown g4 (by omega)
  have Y4 := Y3.grown g4 (by omega)
  have B4 := B3.grown g4 B3.size (fun k e => by cases e; omega)
  have O4 := own_thrown O3 (show g < g + 1 by omega) g4
  clear X3 Y3 B3 O3 H3 h4 g4
  cases c
  · go_wp2_with (first
      | refine wpList_load_row rfl 26 (.tmp 4) rfl M rfl 26 (bcells b (.slice ua b.q.length uc)) (0, 0) _ Y4 Tryd.underlying26 rfl (by kernel_rfl) ?_
      | refine wpList_store_rowTo rfl 26 (.tmp 2) _ rfl rfl w.heap.size (bcells b (.slice ua b.q.length uc)) rfl rfl 26 _ X4 (by kernel_rfl) rfl (bcells_one _ _ _ _) ?_)
    have G := grown_setRow w4 w.heap.size (bcells b (.slice ua b.q.length uc))
    have HX := setRow_heap (bcells b (.slice ua b.q.length uc)) X4
    exact bodyPost_ret (results_cell_row rfl _ _ _ _ _ _ _ rfl HX Tryd.underlying26 rfl (by kernel_rfl)) rfl ⟨b, _, rfl, own_mono (own_grownN O4 (by omega) G) (A := w.heap.size) (by omega), hs, B4.trans (below_of_grown G (Nat.le_refl _) B4.size)⟩
  · have y7 : w4.cell? ⟨M, 7, none⟩ = some (.bool b.shut) := cell_of_heap Y4 7
    have f7 : w4.frozen? ⟨M, 7, none⟩ = false := Y4.fr 7
    go_upto_region 5 with (fail)
    have G5 := grown_setCell w4 M 7 (.bool true)
    have Y5 : BBox (w4.setCell ⟨M, 7, none⟩ (.bool true)) M 26 { b with shut := true } (.slice ua b.q.length uc) := heap_setCell_same _ _ 7 _ _ (.bool true) Y4
    have X5 := X4.grown G5 (by omega)
    have B5 := B4.trans (below_of_grown G5 (by omega) B4.size)
    have O5 := own_kept1 O4 G5 (own_off O4 Y4)
    generalize w4.setCell ⟨M, 7, none⟩ (.bool true) = w5 at Y5 X5 B5 O5 ⊢
    clear Y4 X4 B4 O4 G5 y7 f7
    go_wp2_with (first
      | refine wpList_load_row rfl 26 (.tmp 4) rfl M rfl 26 (bcells { b with shut := true } (.slice ua b.q.length uc)) (0, 0) _ Y5 Tryd.underlying26 rfl (by kernel_rfl) ?_
      | refine wpList_store_rowTo rfl 26 (.tmp 2) _ rfl rfl w.heap.size (bcells { b with shut := true } (.slice ua b.q.length uc)) rfl rfl 26 _ X5 (by kernel_rfl) rfl (bcells_one _ _ _ _) ?_)
    have G := grown_setRow w5 w.heap.size (bcells { b with shut := true } (.slice ua b.q.length uc))
    have HX := setRow_heap (bcells { b with shut := true } (.slice ua b.q.length uc)) X5
    exact bodyPost_ret (results_cell_row rfl _ _ _ _ _ _ _ rfl HX Tryd.underlying26 rfl (by kernel_rfl)) rfl ⟨{ b with shut := true }, _, rfl, own_mono (own_grownN O5 (by omega) G) (A := w.heap.size) (by omega), hs, B5.trans (below_of_grown G (Nat.le_refl _) B5.size)⟩

end Go.Proofs.YtfkikdoecoobgaaDoor
