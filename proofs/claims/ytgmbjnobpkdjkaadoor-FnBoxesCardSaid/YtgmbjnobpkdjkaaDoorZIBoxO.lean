/- The walks of impl.BoxOk and impl.NewBox. -/
import Derived.Test.YtgmbjnobpkdjkaaDoorZB3
import Derived.Test.YtgmbjnobpkdjkaaDoorZIBoxC
set_option linter.unusedSimpArgs false
set_option linter.unusedVariables false
namespace Go.Proofs.YtgmbjnobpkdjkaaDoor
open Go.RowKit

set_option maxRecDepth 100000 in
set_option maxHeartbeats 3200000 in
theorem implBoxOk_any (b : BoxM) (v : Value) (m : Int) (w : World) (hl : b.q.length ≤ 1048576) (hs : ∀ x ∈ b.q, x.2.2.1.size ≤ 1048576) (hv : MsgsAt w v b.q) (hm : w.cell? ⟨0, 0, none⟩ = some (.int .i64 m)) :
    Calls Tryd.prog 12 #[bagg b v] w fun e w' => e = .returned (.bool (boxB b)) ∧ Below w.heap.size w w' := by
  have C1 := Lib.hid (fun w' => capOk_any b.cap w')
  have C2 := Lib.hid (fun w' => policyOk_any b.pol w')
  have C3 := Lib.hid (fun w' (h : MsgsAt w' v b.q) hm => queueOk_any v b.q b.cap m w' hl hs h hm)
  have HB := Lib.hid (boxB_parts b)
  have HQ : Hid (queueB b.q b.cap = (decide ((b.q.length : Int) ≤ b.cap) && msgsAll b.q)) := Lib.hid rfl
  have HV := Lib.hid hv
  have HM := Lib.hid hm
  obtain ⟨ua, uc, rfl, _, _, _⟩ := hv
  have C4 := Lib.hid (fun w' => countsOk_any b ua uc w' hl)
  clear hs hm
  rw [← HQ.out] at HB
  generalize inB b.cap 1 16 = p1 at C1 HB
  generalize inB b.pol 1 4 = p2 at C2 HB
  generalize queueB b.q b.cap = p3 at C3 HB
  generalize countsB b = p4 at C4 HB
  generalize boxB b = R at HB ⊢
  go_enter Tryd.func12, Tryd.ntmps12
  go_upto_region 1 with (fail)
  have b0 : Below w.heap.size w (w.alloc (.cells (bcells b (.slice ua b.q.length uc)) 30)) := (Below.refl _ _).alloc (Nat.le_refl _) _
  have r0 : BBox (w.alloc (.cells (bcells b (.slice ua b.q.length uc)) 30)) w.heap.size 30 b (.slice ua b.q.length uc) := BBox.new _ _ _ _
  generalize w.alloc (.cells (bcells b (.slice ua b.q.length uc)) 30) = w0 at b0 r0 ⊢
  have x0 := r0.cells.1
  have x1 := r0.cells.2.1
  have x2 := r0.cells.2.2.1
  go_wp2_with fail
  refine (C1.out _).mono ?_
  rintro e w1 ⟨rfl, hw⟩
  subst hw
  cases p1
  · have HE := Lib.hid (show R = false by rw [HB.out]; rfl)
    clear HB
    go_wp2
    go_ret
    exact ⟨ret_bool HE.out.symm, b0⟩
  go_wp2_with fail
  refine (C2.out _).mono ?_
  rintro e w1 ⟨rfl, hw⟩
  subst hw
  cases p2
  · have HE := Lib.hid (show R = false by rw [HB.out]; rfl)
    clear HB
    go_wp2
    go_ret
    exact ⟨ret_bool HE.out.symm, b0⟩
  go_wp2_with fail
  refine (C3.out _ (HV.out.below b0) ((b0.cell (World.block_lt_of_cell? _ _ HM.out)).trans HM.out)).mono ?_
  rintro e w1 ⟨rfl, hb⟩
  have r1 := r0.below hb
  have b1 := below_end b0 hb
  clear r0 b0 hb x0 x1 x2 C1 C2 C3
  cases p3
  · have HE := Lib.hid (show R = false by rw [HB.out]; rfl)
    clear HB
    go_wp2
    go_ret
    exact ⟨ret_bool HE.out.symm, b1⟩
  have HE := Lib.hid (show R = p4 by rw [HB.out]; simp)
  clear HB
  obtain ⟨x0, x1, x2, x3, x4, x5, x6, x7⟩ := BBox.cells r1
  clear r1
  go_wp2_with fail
  clear x0 x1 x2 x3 x4 x5 x6 x7
  refine (C4.out _).mono ?_
  rintro e w2 ⟨rfl, hb⟩
  have b2 := below_end b1 hb
  clear b1 hb C4
  go_wp2
  go_ret
  exact ⟨ret_bool HE.out.symm, b2⟩

set_option maxRecDepth 100000 in
set_option maxHeartbeats 800000 in
theorem implNewBox_any (cap pol m : Int) (w : World) (hm : w.cell? ⟨0, 0, none⟩ = some (.int .i64 m)) :
    Calls Tryd.prog 7 #[.int .i64 cap, .int .i64 pol] w fun e w' => ∃ u, e = .returned (.tuple #[bagg (newB cap pol).1 u, .bool (newB cap pol).2]) ∧ MOwn w' w.heap.size u (newB cap pol).1.q ∧ Below w.heap.size w w' := by
  have CB := Lib.hid (fun wx hm => implBoxOk_any (bareBox cap pol) (.slice none 0 0) m wx (by simp [bareBox]) (by simp [bareBox]) ⟨none, 0, rfl, by simp [bareBox], by unfold maxLen; omega, Or.inl rfl⟩ hm)
  have HM := Lib.hid hm
  have HN : Hid (newB cap pol = if boxB (bareBox cap pol) then (bareBox cap pol, true) else (zeroBox, false)) := Lib.hid rfl
  generalize newB cap pol = nb at HN ⊢
  generalize boxB (bareBox cap pol) = ok at CB HN
  go_enter Tryd.func7, Tryd.ntmps7
  go_upto_region 1 with (fail)
  have s1 : (w.alloc (.cells (bcells zeroBox (.slice none 0 0)) 30)).heap.size = w.heap.size + 1 := by simp
  have b1 : Below w.heap.size w (w.alloc (.cells (bcells zeroBox (.slice none 0 0)) 30)) := (Below.refl _ _).alloc (Nat.le_refl _) _
  have r1 : BBox (w.alloc (.cells (bcells zeroBox (.slice none 0 0)) 30)) w.heap.size 30 zeroBox (.slice none 0 0) := BBox.new _ _ _ _
  change Code.wp _ _ _ _ (w.alloc (.cells (bcells zeroBox (.slice none 0 0)) 30))
  generalize w.alloc (.cells (bcells zeroBox (.slice none 0 0)) 30) = w1 at s1 b1 r1 ⊢
  go_upto_region 2 with (fail)
  have s2 : (w1.alloc (.cells (bcells (bareBox cap pol) (.slice none 0 0)) 30)).heap.size = w.heap.size + 1 + 1 := by simp [s1]
  have b2 : Below w.heap.size w (w1.alloc (.cells (bcells (bareBox cap pol) (.slice none 0 0)) 30)) := b1.alloc (by omega) _
  have q2 : (w1.alloc (.cells (bcells (bareBox cap pol) (.slice none 0 0)) 30)).heap[w.heap.size + 1]? = some (.cells (bcells (bareBox cap pol) (.slice none 0 0)) 30 (0, 0)) := by rw [← s1]; exact heap_alloc_new _ _
  have r2 := r1.below ((Below.refl _ w1).alloc (Nat.le_refl _) (.cells (bcells (bareBox cap pol) (.slice none 0 0)) 30))
  change Code.wp _ _ _ _ (w1.alloc (.cells (bcells (bareBox cap pol) (.slice none 0 0)) 30))
  generalize w1.alloc (.cells (bcells (bareBox cap pol) (.slice none 0 0)) 30) = w2 at s2 b2 r2 q2 ⊢
  clear s1 b1 r1
  go_wp2_with (first
    | refine wpList_load_row rfl 30 (.tmp 6) rfl (w.heap.size + 1) rfl 30 (bcells (bareBox cap pol) (.slice none 0 0)) (0, 0) _ q2 Tryd.underlying30 rfl (by kernel_rfl) ?_)
  refine (CB.out _ ((b2.cell (World.block_lt_of_cell? _ _ HM.out)).trans HM.out)).mono ?_
  rintro e w3 ⟨rfl, hb⟩
  have q3 := (hb.block _ (by omega)).trans q2
  have r3 := r2.below hb
  have b3 : Below w.heap.size w w3 := b2.trans (hb.mono (by omega))
  clear s2 b2 r2 q2 hb
  cases ok
  · have HE := Lib.hid (show nb = (zeroBox, false) by rw [HN.out]; rfl)
    go_wp2_with (first
      | refine wpList_store_rowTo rfl 30 (.tmp 4) (.tmp 13) rfl rfl w.heap.size (bcells zeroBox (.slice none 0 0)) rfl rfl 30 _ r3 (by kernel_rfl) rfl (bcells_one _ _ _ _) ?_)
    have G := grown_setRow w3 w.heap.size (bcells zeroBox (.slice none 0 0))
    have HR := setRow_heap (bcells zeroBox (.slice none 0 0)) r3
    have HB := b3.trans (below_of_grown (n := w.heap.size) G (Nat.le_refl _) b3.size)
    refine bodyPost_ret (results_row_tmp rfl _ _ _ _ _ _ _ rfl HR Tryd.underlying30 rfl (by kernel_rfl)) rfl ⟨.slice none 0 0, by rw [HE.out]; rfl, by rw [HE.out]; exact World.ownsRow_nil _ _ _ _, HB⟩
  · have HE := Lib.hid (show nb = (bareBox cap pol, true) by rw [HN.out]; rfl)
    go_wp2_with (first
      | refine wpList_load_row rfl 30 (.tmp 6) rfl (w.heap.size + 1) rfl 30 (bcells (bareBox cap pol) (.slice none 0 0)) (0, 0) _ q3 Tryd.underlying30 rfl (by kernel_rfl) ?_
      | refine wpList_store_rowTo rfl 30 (.tmp 4) (.tmp 14) rfl rfl w.heap.size (bcells (bareBox cap pol) (.slice none 0 0)) rfl rfl 30 _ r3 (by kernel_rfl) rfl (bcells_one _ _ _ _) ?_)
    have G := grown_setRow w3 w.heap.size (bcells (bareBox cap pol) (.slice none 0 0))
    have HR := setRow_heap (bcells (bareBox cap pol) (.slice none 0 0)) r3
    have HB := b3.trans (below_of_grown (n := w.heap.size) G (Nat.le_refl _) b3.size)
    refine bodyPost_ret (results_row_tmp rfl _ _ _ _ _ _ _ rfl HR Tryd.underlying30 rfl (by kernel_rfl)) rfl ⟨.slice none 0 0, by rw [HE.out]; rfl, by rw [HE.out]; exact World.ownsRow_nil _ _ _ _, HB⟩

end Go.Proofs.YtgmbjnobpkdjkaaDoor
