/- The walks of the program's copy of a box, and of its counts. -/
import Derived.Test.YtgmbjnobpkdjkaaDoorZB3
import Derived.Test.YtgmbjnobpkdjkaaDoorZB1
import Derived.Test.YtgmbjnobpkdjkaaDoorZB2
import Derived.Deep.Cut
import Derived.Deep.CutBlock
import Derived.Lib.Hide
set_option linter.unusedSimpArgs false
set_option linter.unusedVariables false
namespace Go.Proofs.YtgmbjnobpkdjkaaDoor
open Go.RowKit

/-- A call's box, and its answer's. -/
structure Two (w wx : World) (b : BoxM) (v : Value) : Prop where
  box : wx.heap[w.heap.size]? = some (.cells (bcells b v) 30 (0, 0))
  res : wx.heap[w.heap.size + 1]? = some (.cells (bcells zeroBox (.slice none 0 0)) 30 (0, 0))
  since : Below w.heap.size w wx
theorem Two.new (w : World) (b : BoxM) (v : Value) : Two w ((w.alloc (.cells (bcells b v) 30)).alloc (.cells (bcells zeroBox (.slice none 0 0)) 30)) b v := by
  have s1 : (w.alloc (.cells (bcells b v) 30)).heap.size = w.heap.size + 1 := by simp
  refine ⟨?_, ?_, ((Below.refl _ _).alloc (Nat.le_refl _) _).alloc (by simp) _⟩
  · rw [Below.heap_alloc _ _ _ (by omega)]; exact heap_alloc_new _ _
  · rw [← s1]; exact heap_alloc_new _ _
theorem Two.lt {w wx : World} {b : BoxM} {v : Value} (h : Two w wx b v) : w.heap.size + 1 < wx.heap.size := (Array.getElem?_eq_some_iff.1 h.res).1
theorem Two.below {w wx wy : World} {b : BoxM} {v : Value} (h : Two w wx b v) (hb : Below wx.heap.size wx wy) : Two w wy b v := by
  have := h.lt
  exact ⟨(hb.block _ (by omega)).trans h.box, (hb.block _ (by omega)).trans h.res, h.since.trans (hb.mono h.since.size)⟩
theorem Two.set {w wx : World} {b : BoxM} {v : Value} (h : Two w wx b v) (j : Nat) (x : Value) (b' : BoxM) (v' : Value) (hc : (bcells b v).setIfInBounds j x = bcells b' v') :
    Two w (wx.setCell ⟨w.heap.size, j, none⟩ x) b' v' := by
  have hg := grown_setCell wx w.heap.size j x
  have hl := h.lt
  refine ⟨by rw [← hc]; exact heap_setCell_same _ _ j _ _ x h.box, (hg.block _ hl (fun e => by injection e with e; omega)).trans h.res, h.since.trans (below_of_grown hg (Nat.le_refl _) h.since.size)⟩
theorem two_end {w wx : World} {b : BoxM} {v : Value} (h : Two w wx b v) (cs : Array Value) :
    (wx.setRow (w.heap.size + 1) cs).heap[w.heap.size + 1]? = some (.cells cs 30 (0, 0)) ∧ Below w.heap.size w (wx.setRow (w.heap.size + 1) cs) :=
  ⟨setRow_heap cs h.res, h.since.trans (below_of_grown (grown_setRow wx (w.heap.size + 1) cs) (by omega) h.since.size)⟩

set_option maxRecDepth 100000 in
set_option maxHeartbeats 1600000 in
theorem ownBox_any (b : BoxM) (v : Value) (w : World) (hl : b.q.length ≤ 2000000) (hv : MsgsAt w v b.q) :
    Calls Tryd.prog 17 #[bagg b v] w fun e w' => ∃ u, e = .returned (bagg b u) ∧ MOwn w' w.heap.size u b.q ∧ Below w.heap.size w w' := by
  have HS := Lib.hid (fun wx (hb : Below w.heap.size w wx) => msgs_srcAt (hv.below hb))
  obtain ⟨ua, uc, rfl, _, _, _⟩ := hv
  obtain ⟨i, hi, hz0, hz1, hz2⟩ := msg_info
  have HL := Lib.hid (mcells_length b.q)
  go_enter Tryd.func17, Tryd.ntmps17
  go_upto_region 1 with (fail)
  have T1 := Two.new w b (.slice ua b.q.length uc)
  change Code.wp _ _ _ _ ((w.alloc (.cells (bcells b (.slice ua b.q.length uc)) 30)).alloc (.cells (bcells zeroBox (.slice none 0 0)) 30))
  generalize ((w.alloc (.cells (bcells b (.slice ua b.q.length uc)) 30)).alloc (.cells (bcells zeroBox (.slice none 0 0)) 30)) = w1 at T1 ⊢
  have x2 : w1.cell? ⟨w.heap.size, 2, none⟩ = some (.slice ua b.q.length uc) := cell_of_heap T1.box 2
  go_upto_region 2 with (at_builtin; refine wpList_append_src rfl _ _ 28 rfl w1.heap.size 35 i (.agg #[.int .i64 0, .int .i64 0, .string ⟨#[]⟩, .int .i64 0]) 4 40 Tryd.underlying28 hi hz0 hz1 hz2 rfl (by decide) (.slice none 0 0) (.slice ua b.q.length uc) 0 b.q.length [] (mcells b.q) rfl (World.ownsRow_nil _ _ _ _) rfl (HS.out _ T1.since) HL.out (mcells_one b.q) (by unfold maxLen; omega) (by omega) (Nat.le_refl _) ?_; intro v' w2 hown hgr _; rw [Nat.zero_add, List.nil_append] at hown; obtain ⟨ra, rc, hv'⟩ := own_slice hown; subst hv'; have T2 := T1.below ((Below.refl w1.heap.size w1).grown hgr (Nat.le_refl _) (fun k h => by cases h)); have HLT := T1.lt; have x3 : w2.cell? ⟨w.heap.size, 2, none⟩ = some (.slice ua b.q.length uc) := cell_of_heap T2.box 2; have f3 : w2.frozen? ⟨w.heap.size, 2, none⟩ = false := frozen_of_row _ _ _ _ _ T2.box; clear T1 x2 hgr)
  have T3 := T2.set 2 (.slice ra b.q.length rc) b (.slice ra b.q.length rc) rfl
  have O3 := own_mono (own_grownN hown (show w.heap.size < w1.heap.size by omega) (grown_setCell w2 w.heap.size 2 (.slice ra b.q.length rc))) (A := w.heap.size + 1 + 1) (by omega)
  generalize w2.setCell ⟨w.heap.size, 2, none⟩ (.slice ra b.q.length rc) = w3 at T3 O3 ⊢
  clear T2 hown HLT x3 f3
  go_wp2_with (first
    | refine wpList_load_row rfl 30 (.tmp 1) rfl w.heap.size rfl 30 (bcells b (.slice ra b.q.length rc)) (0, 0) _ T3.box Tryd.underlying30 rfl (by kernel_rfl) ?_
    | refine wpList_store_rowTo rfl 30 (.tmp 2) (.tmp 7) rfl rfl (w.heap.size + 1) (bcells b (.slice ra b.q.length rc)) rfl rfl 30 _ T3.res (by kernel_rfl) rfl (bcells_one _ _ _ _) ?_)
  have HX := two_end T3 (bcells b (.slice ra b.q.length rc))
  have HO := own_mono (own_grownN O3 (by omega) (grown_setRow w3 (w.heap.size + 1) (bcells b (.slice ra b.q.length rc)))) (A := w.heap.size) (by omega)
  exact bodyPost_ret (results_cell_row rfl _ _ _ _ _ _ _ rfl HX.1 Tryd.underlying30 rfl (by kernel_rfl)) rfl ⟨_, rfl, HO, HX.2⟩

/-- A box counted. -/
def cntM (b : BoxM) (c : Int) : BoxM :=
  if c = 3 then b else if c = 2 then { b with ofr := b.ofr + 1, mrg := b.mrg + 1 } else if c = 4 ∨ c = 5 then { b with ofr := b.ofr + 1, drp := b.drp + 1 } else { b with ofr := b.ofr + 1 }

set_option maxRecDepth 100000 in
set_option maxHeartbeats 3200000 in
theorem counted_any (b : BoxM) (ua : Option Addr) (n uc : Nat) (c : Int) (w : World) (hn : 0 ≤ b.ofr ∧ b.ofr ≤ 100000 ∧ 0 ≤ b.drp ∧ b.drp ≤ 100000 ∧ 0 ≤ b.mrg ∧ b.mrg ≤ 100000) :
    Calls Tryd.prog 20 #[bagg b (.slice ua n uc), .int .i64 c] w fun e w' => e = .returned (bagg (cntM b c) (.slice ua n uc)) ∧ Below w.heap.size w w' := by
  have HR : Hid (cntM b c = if c = 3 then b else if c = 2 then { b with ofr := b.ofr + 1, mrg := b.mrg + 1 } else if c = 4 ∨ c = 5 then { b with ofr := b.ofr + 1, drp := b.drp + 1 } else { b with ofr := b.ofr + 1 }) := Lib.hid rfl
  obtain ⟨n1, n2, n3, n4, n5, n6⟩ := hn
  have e1 : IntKind.i64.wrap (b.ofr + 1) = b.ofr + 1 := by rw [IntKind.wrap_i64]; omega
  have e2 : IntKind.i64.wrap (b.drp + 1) = b.drp + 1 := by rw [IntKind.wrap_i64]; omega
  have e3 : IntKind.i64.wrap (b.mrg + 1) = b.mrg + 1 := by rw [IntKind.wrap_i64]; omega
  clear n1 n2 n3 n4 n5 n6
  generalize cntM b c = R at HR ⊢
  go_enter Tryd.func20, Tryd.ntmps20
  go_upto_region 1 with (fail)
  have T1 := Two.new w b (.slice ua n uc)
  change Code.wp _ _ _ _ ((w.alloc (.cells (bcells b (.slice ua n uc)) 30)).alloc (.cells (bcells zeroBox (.slice none 0 0)) 30))
  generalize ((w.alloc (.cells (bcells b (.slice ua n uc)) 30)).alloc (.cells (bcells zeroBox (.slice none 0 0)) 30)) = w1 at T1 ⊢
  by_cases h3 : c = 3
  · have g3 : (c == 3) = true := by simp [h3]
    have HE := HR.out.trans (if_pos h3)
    clear HR h3
    have TT : Two w w1 R (.slice ua n uc) := by rw [HE]; exact T1
    clear HE T1
    go_wp2_with (first
      | refine wpList_load_row rfl 30 (.tmp 2) rfl w.heap.size rfl 30 (bcells R (.slice ua n uc)) (0, 0) _ TT.box Tryd.underlying30 rfl (by kernel_rfl) ?_
      | refine wpList_store_rowTo rfl 30 (.tmp 4) _ rfl rfl (w.heap.size + 1) (bcells R (.slice ua n uc)) rfl rfl 30 _ TT.res (by kernel_rfl) rfl (bcells_one _ _ _ _) ?_)
    have HX := two_end TT (bcells R (.slice ua n uc))
    exact bodyPost_ret (results_cell_row rfl _ _ _ _ _ _ _ rfl HX.1 Tryd.underlying30 rfl (by kernel_rfl)) rfl ⟨rfl, HX.2⟩
  have g3 : (c == 3) = false := by simp [h3]
  have HR1 := Lib.hid (HR.out.trans (if_neg h3))
  clear HR h3
  by_cases h2 : c = 2
  · have g2 : (c == 2) = true := by simp [h2]
    have HE := Lib.hid (HR1.out.trans (if_pos h2))
    clear HR1 h2
    have y0 : w1.cell? ⟨w.heap.size, 6, none⟩ = some (.int .i64 b.mrg) := cell_of_heap T1.box 6
    have f0 : w1.frozen? ⟨w.heap.size, 6, none⟩ = false := frozen_of_row _ _ _ _ _ T1.box
    go_upto_region 9 with (fail)
    have T2 := T1.set 6 (.int .i64 (b.mrg + 1)) { b with mrg := b.mrg + 1 } (.slice ua n uc) rfl
    generalize w1.setCell ⟨w.heap.size, 6, none⟩ (.int .i64 (b.mrg + 1)) = w2 at T2 ⊢
    clear T1 y0 f0
    have y1 : w2.cell? ⟨w.heap.size, 3, none⟩ = some (.int .i64 b.ofr) := cell_of_heap T2.box 3
    have f1 : w2.frozen? ⟨w.heap.size, 3, none⟩ = false := frozen_of_row _ _ _ _ _ T2.box
    go_upto_region 10 with (fail)
    have TT := T2.set 3 (.int .i64 (b.ofr + 1)) R (.slice ua n uc) (by rw [HE.out]; rfl)
    generalize w2.setCell ⟨w.heap.size, 3, none⟩ (.int .i64 (b.ofr + 1)) = w3 at TT ⊢
    clear T2 y1 f1
    go_wp2_with (first
      | refine wpList_load_row rfl 30 (.tmp 2) rfl w.heap.size rfl 30 (bcells R (.slice ua n uc)) (0, 0) _ TT.box Tryd.underlying30 rfl (by kernel_rfl) ?_
      | refine wpList_store_rowTo rfl 30 (.tmp 4) _ rfl rfl (w.heap.size + 1) (bcells R (.slice ua n uc)) rfl rfl 30 _ TT.res (by kernel_rfl) rfl (bcells_one _ _ _ _) ?_)
    have HX := two_end TT (bcells R (.slice ua n uc))
    exact bodyPost_ret (results_cell_row rfl _ _ _ _ _ _ _ rfl HX.1 Tryd.underlying30 rfl (by kernel_rfl)) rfl ⟨rfl, HX.2⟩
  have g2 : (c == 2) = false := by simp [h2]
  have HR2 := Lib.hid (HR1.out.trans (if_neg h2))
  clear HR1 h2
  by_cases h4 : c = 4
  · have g4 : (c == 4) = true := by simp [h4]
    have HE := Lib.hid (HR2.out.trans (if_pos (.inl h4)))
    clear HR2 h4
    have y0 : w1.cell? ⟨w.heap.size, 5, none⟩ = some (.int .i64 b.drp) := cell_of_heap T1.box 5
    have f0 : w1.frozen? ⟨w.heap.size, 5, none⟩ = false := frozen_of_row _ _ _ _ _ T1.box
    go_upto_region 9 with (fail)
    have T2 := T1.set 5 (.int .i64 (b.drp + 1)) { b with drp := b.drp + 1 } (.slice ua n uc) rfl
    generalize w1.setCell ⟨w.heap.size, 5, none⟩ (.int .i64 (b.drp + 1)) = w2 at T2 ⊢
    clear T1 y0 f0
    have y1 : w2.cell? ⟨w.heap.size, 3, none⟩ = some (.int .i64 b.ofr) := cell_of_heap T2.box 3
    have f1 : w2.frozen? ⟨w.heap.size, 3, none⟩ = false := frozen_of_row _ _ _ _ _ T2.box
    go_upto_region 10 with (fail)
    have TT := T2.set 3 (.int .i64 (b.ofr + 1)) R (.slice ua n uc) (by rw [HE.out]; rfl)
    generalize w2.setCell ⟨w.heap.size, 3, none⟩ (.int .i64 (b.ofr + 1)) = w3 at TT ⊢
    clear T2 y1 f1
    go_wp2_with (first
      | refine wpList_load_row rfl 30 (.tmp 2) rfl w.heap.size rfl 30 (bcells R (.slice ua n uc)) (0, 0) _ TT.box Tryd.underlying30 rfl (by kernel_rfl) ?_
      | refine wpList_store_rowTo rfl 30 (.tmp 4) _ rfl rfl (w.heap.size + 1) (bcells R (.slice ua n uc)) rfl rfl 30 _ TT.res (by kernel_rfl) rfl (bcells_one _ _ _ _) ?_)
    have HX := two_end TT (bcells R (.slice ua n uc))
    exact bodyPost_ret (results_cell_row rfl _ _ _ _ _ _ _ rfl HX.1 Tryd.underlying30 rfl (by kernel_rfl)) rfl ⟨rfl, HX.2⟩
  have g4 : (c == 4) = false := by simp [h4]
  by_cases h5 : c = 5
  · have g5 : (c == 5) = true := by simp [h5]
    have HE := Lib.hid (HR2.out.trans (if_pos (.inr h5)))
    clear HR2 h4 h5
    have y0 : w1.cell? ⟨w.heap.size, 5, none⟩ = some (.int .i64 b.drp) := cell_of_heap T1.box 5
    have f0 : w1.frozen? ⟨w.heap.size, 5, none⟩ = false := frozen_of_row _ _ _ _ _ T1.box
    go_upto_region 9 with (fail)
    have T2 := T1.set 5 (.int .i64 (b.drp + 1)) { b with drp := b.drp + 1 } (.slice ua n uc) rfl
    generalize w1.setCell ⟨w.heap.size, 5, none⟩ (.int .i64 (b.drp + 1)) = w2 at T2 ⊢
    clear T1 y0 f0
    have y1 : w2.cell? ⟨w.heap.size, 3, none⟩ = some (.int .i64 b.ofr) := cell_of_heap T2.box 3
    have f1 : w2.frozen? ⟨w.heap.size, 3, none⟩ = false := frozen_of_row _ _ _ _ _ T2.box
    go_upto_region 10 with (fail)
    have TT := T2.set 3 (.int .i64 (b.ofr + 1)) R (.slice ua n uc) (by rw [HE.out]; rfl)
    generalize w2.setCell ⟨w.heap.size, 3, none⟩ (.int .i64 (b.ofr + 1)) = w3 at TT ⊢
    clear T2 y1 f1
    go_wp2_with (first
      | refine wpList_load_row rfl 30 (.tmp 2) rfl w.heap.size rfl 30 (bcells R (.slice ua n uc)) (0, 0) _ TT.box Tryd.underlying30 rfl (by kernel_rfl) ?_
      | refine wpList_store_rowTo rfl 30 (.tmp 4) _ rfl rfl (w.heap.size + 1) (bcells R (.slice ua n uc)) rfl rfl 30 _ TT.res (by kernel_rfl) rfl (bcells_one _ _ _ _) ?_)
    have HX := two_end TT (bcells R (.slice ua n uc))
    exact bodyPost_ret (results_cell_row rfl _ _ _ _ _ _ _ rfl HX.1 Tryd.underlying30 rfl (by kernel_rfl)) rfl ⟨rfl, HX.2⟩
  · have g5 : (c == 5) = false := by simp [h5]
    have HE := Lib.hid (HR2.out.trans (if_neg (by omega)))
    clear HR2 h4 h5
    obtain ⟨w2, hw2⟩ : ∃ w2, w1 = w2 := ⟨_, rfl⟩
    rw [hw2] at T1 ⊢
    have T2 := T1
    clear hw2 T1
    have y1 : w2.cell? ⟨w.heap.size, 3, none⟩ = some (.int .i64 b.ofr) := cell_of_heap T2.box 3
    have f1 : w2.frozen? ⟨w.heap.size, 3, none⟩ = false := frozen_of_row _ _ _ _ _ T2.box
    go_upto_region 10 with (fail)
    have TT := T2.set 3 (.int .i64 (b.ofr + 1)) R (.slice ua n uc) (by rw [HE.out]; rfl)
    generalize w2.setCell ⟨w.heap.size, 3, none⟩ (.int .i64 (b.ofr + 1)) = w3 at TT ⊢
    clear T2 y1 f1
    go_wp2_with (first
      | refine wpList_load_row rfl 30 (.tmp 2) rfl w.heap.size rfl 30 (bcells R (.slice ua n uc)) (0, 0) _ TT.box Tryd.underlying30 rfl (by kernel_rfl) ?_
      | refine wpList_store_rowTo rfl 30 (.tmp 4) _ rfl rfl (w.heap.size + 1) (bcells R (.slice ua n uc)) rfl rfl 30 _ TT.res (by kernel_rfl) rfl (bcells_one _ _ _ _) ?_)
    have HX := two_end TT (bcells R (.slice ua n uc))
    exact bodyPost_ret (results_cell_row rfl _ _ _ _ _ _ _ rfl HX.1 Tryd.underlying30 rfl (by kernel_rfl)) rfl ⟨rfl, HX.2⟩

end Go.Proofs.YtgmbjnobpkdjkaaDoor
