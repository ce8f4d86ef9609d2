/- The walk of the reference's OfferedTo (written by gen_off.py). -/
import Derived.Test.YtfkikdoecoobgaaDoorZOffM
import Derived.Test.YtfkikdoecoobgaaDoorZB3
set_option linter.unusedSimpArgs false
set_option linter.unusedVariables false
namespace Go.Proofs.YtfkikdoecoobgaaDoor
open Go.RowKit

set_option maxRecDepth 100000 in
set_option maxHeartbeats 6400000 in
theorem specOffered_any (b : BoxM) (v : Value) (m : MsgM) (w : World) (hl : b.q.length ≤ 1048576) (hs : ∀ x ∈ b.q, x.2.2.1.size ≤ 1048576) (hm : m.2.2.1.size ≤ 1048576) (hv : MsgsAt w v b.q) :
    Calls Tryd.prog 16 #[bagg b v, magg m] w fun e w' =>
      ∃ u, e = .returned (.tuple #[bagg (offerM b m).1 u, .int .i64 (offerM b m).2]) ∧ MOwn w' w.heap.size u (offerM b m).1.q ∧ Below w.heap.size w w' := by
  have CB := Lib.hid (fun wx (h : MsgsAt wx v b.q) => specBoxOk_any b v wx hs h)
  have CC := Lib.hid (fun wx (h : MsgsAt wx v b.q) => specCopyB_any b v wx (by omega) h)
  have CM := Lib.hid (fun wx => specMsgOk_any m wx hm)
  have CS := Lib.hid (fun wx (h : MsgsAt wx v b.q) => specSame_any b v m.2.2.1 wx (by omega) h)
  have HR : Hid (offerM b m = if boxB b then
    if !(msgB m) || decide (100000 ≤ b.ofr) then (b, (6 : Int))
    else if b.shut then (b, (1 : Int))
    else offQ b m (sameQ b m.2.2.1)
  else (zeroBox, (6 : Int))) := Lib.hid (by unfold offerM; cases sameQ b m.2.2.1 <;> rfl)
  have HNB : Hid (boxB b = true → 0 ≤ b.ofr ∧ b.ofr ≤ 100000 ∧ 0 ≤ b.drp ∧ b.drp ≤ 100000 ∧ 0 ≤ b.mrg ∧ b.mrg ≤ 100000 ∧ b.q.length ≤ 16 ∧ (1 : Int) ≤ b.cap) := Lib.hid (fun h => by
    unfold boxB boxN inB at h
    simp only [Bool.and_eq_true, decide_eq_true_eq] at h
    omega)
  have HSI : Hid (∀ i, sameQ b m.2.2.1 = some i → i < b.q.length) := Lib.hid (fun i h => sameQ_lt h)
  have HSN : Hid (sameN b m.2.2.1 = idxN (sameQ b m.2.2.1)) := Lib.hid (by unfold sameN; cases sameQ b m.2.2.1 <;> rfl)
  have HV := Lib.hid hv
  obtain ⟨ua, uc, rfl, _, _, _⟩ := hv
  clear hs hm
  obtain ⟨b1, hb1⟩ : ∃ x, boxB b = x := ⟨_, rfl⟩
  obtain ⟨b2, hb2⟩ : ∃ x, msgB m = x := ⟨_, rfl⟩
  obtain ⟨sq, hsq⟩ : ∃ x, sameQ b m.2.2.1 = x := ⟨_, rfl⟩
  obtain ⟨sn, hsn⟩ : ∃ x, sameN b m.2.2.1 = x := ⟨_, rfl⟩
  obtain ⟨RR, hRR⟩ : ∃ x, offerM b m = x := ⟨_, rfl⟩
  rw [hb1] at CB HR HNB
  rw [hb2] at CM HR
  rw [hsq] at HR HSI HSN
  rw [hsn] at CS HSN
  rw [hRR] at HR ⊢
  clear hb1 hb2 hsq hsn hRR
  obtain ⟨ii, hi, hz0, hz1, hz2⟩ := msg_info
  go_enter Tryd.func16, Tryd.ntmps16
  go_upto_region 1 with (fail)
  have s1 : (w.alloc (.cells (bcells b (.slice ua b.q.length uc)) 26)).heap.size = w.heap.size + 1 := by simp
  have s2 : ((w.alloc (.cells (bcells b (.slice ua b.q.length uc)) 26)).alloc (.cells #[.int .i64 m.1, .int .i64 m.2.1, .string m.2.2.1, .int .i64 m.2.2.2] 29)).heap.size = w.heap.size + 1 + 1 := by simp
  have hb0 : Below w.heap.size w (((w.alloc (.cells (bcells b (.slice ua b.q.length uc)) 26)).alloc (.cells #[.int .i64 m.1, .int .i64 m.2.1, .string m.2.2.1, .int .i64 m.2.2.2] 29)).alloc (.cells (bcells zeroBox (.slice none 0 0)) 26)) := (((Below.refl _ _).alloc (Nat.le_refl _) _).alloc (by simp) _).alloc (by simp; omega) _
  have h0 : Off3 (((w.alloc (.cells (bcells b (.slice ua b.q.length uc)) 26)).alloc (.cells #[.int .i64 m.1, .int .i64 m.2.1, .string m.2.2.1, .int .i64 m.2.2.2] 29)).alloc (.cells (bcells zeroBox (.slice none 0 0)) 26)) w.heap.size b (.slice ua b.q.length uc) m := by
    refine ⟨?_, ?_, ?_⟩
    · rw [Below.heap_alloc _ _ _ (by omega), Below.heap_alloc _ _ _ (by omega)]; exact heap_alloc_new _ _
    · rw [Below.heap_alloc _ _ _ (by omega), ← s1]; exact heap_alloc_new _ _
    · rw [← s2]; exact heap_alloc_new _ _
  have s3 : (((w.alloc (.cells (bcells b (.slice ua b.q.length uc)) 26)).alloc (.cells #[.int .i64 m.1, .int .i64 m.2.1, .string m.2.2.1, .int .i64 m.2.2.2] 29)).alloc (.cells (bcells zeroBox (.slice none 0 0)) 26)).heap.size = w.heap.size + 1 + 1 + 1 := by simp
  clear s1 s2
  change Code.wp _ _ _ _ (((w.alloc (.cells (bcells b (.slice ua b.q.length uc)) 26)).alloc (.cells #[.int .i64 m.1, .int .i64 m.2.1, .string m.2.2.1, .int .i64 m.2.2.2] 29)).alloc (.cells (bcells zeroBox (.slice none 0 0)) 26))
  generalize (((w.alloc (.cells (bcells b (.slice ua b.q.length uc)) 26)).alloc (.cells #[.int .i64 m.1, .int .i64 m.2.1, .string m.2.2.1, .int .i64 m.2.2.2] 29)).alloc (.cells (bcells zeroBox (.slice none 0 0)) 26)) = w0 at hb0 h0 s3 ⊢
  go_wp2_with (first
    | refine wpList_load_row rfl 26 (.tmp 2) rfl w.heap.size rfl 26 (bcells b (.slice ua b.q.length uc)) (0, 0) _ h0.box Tryd.underlying26 rfl (by kernel_rfl) ?_)
  refine (CB.out _ (HV.out.below hb0)).mono ?_
  rintro e w1 ⟨rfl, hb⟩
  have h1 := h0.below hb
  have hb1 : Below w.heap.size w w1 := hb0.trans (hb.mono hb0.size)
  have s1 : w.heap.size + 1 + 1 + 1 ≤ w1.heap.size := by have := hb.size; omega
  clear hb0 h0 s3 hb CB
  cases b1
  · have HE := Lib.hid (show RR = (zeroBox, (6 : Int)) by rw [HR.out]; rfl)
    go_wp2_with (first
      | refine wpList_store_rowTo rfl 26 (.tmp 4) (.tmp 12) rfl rfl (w.heap.size + 1 + 1) (bcells zeroBox (.slice none 0 0)) rfl rfl 26 _ h1.res (by kernel_rfl) rfl (bcells_one _ _ _ _) ?_)
    have G := grown_setRow w1 (w.heap.size + 1 + 1) (bcells zeroBox (.slice none 0 0))
    exact bodyPost_ret (results_row_tmp rfl _ _ _ _ _ _ _ rfl (setRow_heap (bcells zeroBox (.slice none 0 0)) h1.res) Tryd.underlying26 rfl (by kernel_rfl)) rfl ⟨_, by rw [HE.out]; rfl, by rw [HE.out]; exact World.ownsRow_nil _ _ _ _, hb1.trans (below_of_grown G (by omega) hb1.size)⟩
  obtain ⟨n1, n2, n3, n4, n5, n6, n7, n8⟩ := HNB.out rfl
  go_wp2_with (first
    | refine wpList_load_row rfl 26 (.tmp 2) rfl w.heap.size rfl 26 (bcells b (.slice ua b.q.length uc)) (0, 0) _ h1.box Tryd.underlying26 rfl (by kernel_rfl) ?_)
  refine (CC.out _ (HV.out.below hb1)).mono ?_
  rintro e w2 ⟨u, rfl, ho, hb⟩
  obtain ⟨xa, xc, hxu⟩ := own_slice ho
  subst hxu
  have h2 := h1.below hb
  have hb2 : Below w.heap.size w w2 := hb1.trans (hb.mono hb1.size)
  have o2 := own_mono ho s1
  have s2 : w.heap.size + 1 + 1 + 1 ≤ w2.heap.size := Nat.le_trans s1 hb.size
  clear h1 hb1 s1 ho hb CC
  go_upto_region 4 with (fail)
  have S3 : OffS w (w2.alloc (.cells (bcells b (.slice xa b.q.length xc)) 26)) w2.heap.size b (.slice ua b.q.length uc) m b (.slice xa b.q.length xc) := ⟨h2.below ((Below.refl _ _).alloc (Nat.le_refl _) _), heap_alloc_new _ _, row_below o2 ((Below.refl _ _).alloc (Nat.le_refl _) _), s2, hb2.alloc hb2.size _⟩
  generalize (w2.alloc (.cells (bcells b (.slice xa b.q.length xc)) 26)) = w3 at S3 ⊢
  obtain ⟨G, hG⟩ : ∃ G, w2.heap.size = G := ⟨_, rfl⟩
  rw [hG] at S3 ⊢
  clear hG h2 hb2 o2 s2
  go_wp2_with (first
    | refine wpList_load_row rfl 29 (.tmp 3) rfl (w.heap.size + 1) rfl 29 #[.int .i64 m.1, .int .i64 m.2.1, .string m.2.2.1, .int .i64 m.2.2.2] (0, 0) _ S3.three.msg Tryd.underlying29 rfl (by kernel_rfl) ?_)
  refine (CM.out _).mono ?_
  rintro e w4 ⟨rfl, hb⟩
  have S4 := S3.below hb
  clear S3 hb CM
  cases b2
  · have HE := Lib.hid (show RR = (b, (6 : Int)) by rw [HR.out]; rfl)
    go_wp2_with (first
      | refine wpList_load_row rfl 26 (.tmp 6) rfl G rfl 26 (bcells (b) (.slice xa b.q.length xc)) (0, 0) _ S4.new Tryd.underlying26 rfl (by kernel_rfl) ?_
      | refine wpList_store_rowTo rfl 26 (.tmp 4) _ rfl rfl (w.heap.size + 1 + 1) (bcells (b) (.slice xa b.q.length xc)) rfl rfl 26 _ S4.three.res (by kernel_rfl) rfl (bcells_one _ _ _ _) ?_)
    have HX := off_end S4 (bcells (b) (.slice xa b.q.length xc))
    exact bodyPost_ret (results_row_tmp rfl _ _ _ _ _ _ _ rfl HX.1 Tryd.underlying26 rfl (by kernel_rfl)) rfl ⟨_, by rw [HE.out]; rfl, by rw [HE.out]; exact HX.2.1, HX.2.2⟩
  have x3 : w4.cell? ⟨w.heap.size, 3, none⟩ = some (.int .i64 b.ofr) := cell_of_heap S4.three.box 3
  by_cases hof : 100000 ≤ b.ofr
  · have g1 : decide (100000 ≤ b.ofr) = true := decide_eq_true hof
    have HE := Lib.hid (show RR = (b, (6 : Int)) by rw [HR.out, g1]; rfl)
    go_wp2_with (first
      | refine wpList_load_row rfl 26 (.tmp 6) rfl G rfl 26 (bcells (b) (.slice xa b.q.length xc)) (0, 0) _ S4.new Tryd.underlying26 rfl (by kernel_rfl) ?_
      | refine wpList_store_rowTo rfl 26 (.tmp 4) _ rfl rfl (w.heap.size + 1 + 1) (bcells (b) (.slice xa b.q.length xc)) rfl rfl 26 _ S4.three.res (by kernel_rfl) rfl (bcells_one _ _ _ _) ?_)
    have HX := off_end S4 (bcells (b) (.slice xa b.q.length xc))
    exact bodyPost_ret (results_row_tmp rfl _ _ _ _ _ _ _ rfl HX.1 Tryd.underlying26 rfl (by kernel_rfl)) rfl ⟨_, by rw [HE.out]; rfl, by rw [HE.out]; exact HX.2.1, HX.2.2⟩
  have g1 : decide (100000 ≤ b.ofr) = false := decide_eq_false hof
  have HR2 := Lib.hid (show RR = if b.shut then (b, (1 : Int)) else offQ b m sq by rw [HR.out, g1]; rfl)
  clear HR
  have x7 : w4.cell? ⟨w.heap.size, 7, none⟩ = some (.bool b.shut) := cell_of_heap S4.three.box 7
  by_cases hsh : b.shut = true
  · rw [hsh] at x7
    have HE := Lib.hid (show RR = (b, (1 : Int)) by rw [HR2.out, if_pos hsh])
    go_wp2_with (first
      | refine wpList_load_row rfl 26 (.tmp 6) rfl G rfl 26 (bcells (b) (.slice xa b.q.length xc)) (0, 0) _ S4.new Tryd.underlying26 rfl (by kernel_rfl) ?_
      | refine wpList_store_rowTo rfl 26 (.tmp 4) _ rfl rfl (w.heap.size + 1 + 1) (bcells (b) (.slice xa b.q.length xc)) rfl rfl 26 _ S4.three.res (by kernel_rfl) rfl (bcells_one _ _ _ _) ?_)
    have HX := off_end S4 (bcells (b) (.slice xa b.q.length xc))
    exact bodyPost_ret (results_row_tmp rfl _ _ _ _ _ _ _ rfl HX.1 Tryd.underlying26 rfl (by kernel_rfl)) rfl ⟨_, by rw [HE.out]; rfl, by rw [HE.out]; exact HX.2.1, HX.2.2⟩
  have hsf : b.shut = false := by simpa using hsh
  rw [hsf] at x7
  clear hsf
  have HR3 := Lib.hid (show RR = offQ b m sq by rw [HR2.out, if_neg hsh])
  clear HR2
  have z2 : w4.cell? ⟨w.heap.size + 1, 2, none⟩ = some (.string m.2.2.1) := cell_of_heap S4.three.msg 2
  go_wp2_with (first
    | refine wpList_load_row rfl 26 (.tmp 2) rfl w.heap.size rfl 26 (bcells b (.slice ua b.q.length uc)) (0, 0) _ S4.three.box Tryd.underlying26 rfl (by kernel_rfl) ?_)
  refine (CS.out _ (HV.out.below S4.since)).mono ?_
  rintro e w5 ⟨rfl, hb⟩
  have S5 := S4.below hb
  clear S4 hb CS x3 x7 z2 g1
  have x0 : w5.cell? ⟨w.heap.size, 0, none⟩ = some (.int .i64 b.cap) := cell_of_heap S5.three.box 0
  have x1 : w5.cell? ⟨w.heap.size, 1, none⟩ = some (.int .i64 b.pol) := cell_of_heap S5.three.box 1
  have x2 : w5.cell? ⟨w.heap.size, 2, none⟩ = some (.slice ua b.q.length uc) := cell_of_heap S5.three.box 2
  have x3 : w5.cell? ⟨w.heap.size, 3, none⟩ = some (.int .i64 b.ofr) := cell_of_heap S5.three.box 3
  have y3 : w5.cell? ⟨G, 3, none⟩ = some (.int .i64 b.ofr) := cell_of_heap S5.new 3
  have f3 : w5.frozen? ⟨G, 3, none⟩ = false := frozen_of_row _ _ _ _ _ S5.new
  have e1 : IntKind.i64.wrap (b.ofr + 1) = b.ofr + 1 := by rw [IntKind.wrap_i64]; omega
  have e2 : IntKind.i64.wrap (b.drp + 1) = b.drp + 1 := by rw [IntKind.wrap_i64]; omega
  have e3 : IntKind.i64.wrap (b.mrg + 1) = b.mrg + 1 := by rw [IntKind.wrap_i64]; omega
  cases sq with
  | none =>
    obtain rfl : sn = -1 := HSN.out
    have HR4 := Lib.hid (show RR = if (b.q.length : Int) = b.cap then
          if b.pol = 1 then (b, (3 : Int))
          else if b.pol = 3 then ({ b with ofr := b.ofr + 1, drp := b.drp + 1 }, (4 : Int))
          else ({ b with q := b.q.drop 1 ++ [m], ofr := b.ofr + 1, drp := b.drp + 1 }, (5 : Int))
        else ({ b with q := b.q ++ [m], ofr := b.ofr + 1 }, (0 : Int)) by rw [HR3.out]; rfl)
    clear HR3
    by_cases hfu : (b.q.length : Int) = b.cap
    · have g2 : ((b.q.length : Int) == b.cap) = true := by simpa using hfu
      by_cases hp1 : b.pol = 1
      · have g3 : (b.pol == 1) = true := by simpa using hp1
        have HE := Lib.hid (show RR = (b, (3 : Int)) by rw [HR4.out, if_pos hfu, if_pos hp1])
        clear hp1 hfu
        go_wp2_with (first
          | refine wpList_load_row rfl 26 (.tmp 6) rfl G rfl 26 (bcells (b) (.slice xa b.q.length xc)) (0, 0) _ S5.new Tryd.underlying26 rfl (by kernel_rfl) ?_
          | refine wpList_store_rowTo rfl 26 (.tmp 4) _ rfl rfl (w.heap.size + 1 + 1) (bcells (b) (.slice xa b.q.length xc)) rfl rfl 26 _ S5.three.res (by kernel_rfl) rfl (bcells_one _ _ _ _) ?_)
        have HX := off_end S5 (bcells (b) (.slice xa b.q.length xc))
        exact bodyPost_ret (results_row_tmp rfl _ _ _ _ _ _ _ rfl HX.1 Tryd.underlying26 rfl (by kernel_rfl)) rfl ⟨_, by rw [HE.out]; rfl, by rw [HE.out]; exact HX.2.1, HX.2.2⟩
      have g3 : (b.pol == 1) = false := by simpa using hp1
      go_upto_region 13 with (fail)
      have S6 := S5.set 3 (.int .i64 (b.ofr + 1)) { b with ofr := b.ofr + 1 } rfl rfl
      generalize w5.setCell ⟨G, 3, none⟩ (.int .i64 (b.ofr + 1)) = w6 at S6 ⊢
      clear S5 x0 x1 x2 x3 y3 f3
      have x1 : w6.cell? ⟨w.heap.size, 1, none⟩ = some (.int .i64 b.pol) := cell_of_heap S6.three.box 1
      have x5 : w6.cell? ⟨w.heap.size, 5, none⟩ = some (.int .i64 b.drp) := cell_of_heap S6.three.box 5
      have y5 : w6.cell? ⟨G, 5, none⟩ = some (.int .i64 b.drp) := cell_of_heap S6.new 5
      have f5 : w6.frozen? ⟨G, 5, none⟩ = false := frozen_of_row _ _ _ _ _ S6.new
      by_cases hp3 : b.pol = 3
      · have g4 : (b.pol == 3) = true := by simpa using hp3
        have HE := Lib.hid (show RR = ({ b with ofr := b.ofr + 1, drp := b.drp + 1 }, (4 : Int)) by rw [HR4.out, if_pos hfu, if_neg hp1, if_pos hp3])
        clear hp3 hfu hp1
        go_upto_region 22 with (fail)
        have S7 := S6.set 5 (.int .i64 (b.drp + 1)) { b with ofr := b.ofr + 1, drp := b.drp + 1 } rfl rfl
        generalize w6.setCell ⟨G, 5, none⟩ (.int .i64 (b.drp + 1)) = w7 at S7 ⊢
        clear S6 x1 x5 y5 f5 g2 g3 g4 hsh
        go_wp2_with (first
          | refine wpList_load_row rfl 26 (.tmp 6) rfl G rfl 26 (bcells ({ b with ofr := b.ofr + 1, drp := b.drp + 1 }) (.slice xa b.q.length xc)) (0, 0) _ S7.new Tryd.underlying26 rfl (by kernel_rfl) ?_
          | refine wpList_store_rowTo rfl 26 (.tmp 4) _ rfl rfl (w.heap.size + 1 + 1) (bcells ({ b with ofr := b.ofr + 1, drp := b.drp + 1 }) (.slice xa b.q.length xc)) rfl rfl 26 _ S7.three.res (by kernel_rfl) rfl (bcells_one _ _ _ _) ?_)
        have HX := off_end S7 (bcells ({ b with ofr := b.ofr + 1, drp := b.drp + 1 }) (.slice xa b.q.length xc))
        exact bodyPost_ret (results_row_tmp rfl _ _ _ _ _ _ _ rfl HX.1 Tryd.underlying26 rfl (by kernel_rfl)) rfl ⟨_, by rw [HE.out]; rfl, by rw [HE.out]; exact HX.2.1, HX.2.2⟩
      have g4 : (b.pol == 3) = false := by simpa using hp3
      obtain ⟨q5, hq5⟩ : ∃ q5, b.q.drop 1 ++ [m] = q5 := ⟨_, rfl⟩
      have HE := Lib.hid (show RR = ({ b with q := q5, ofr := b.ofr + 1, drp := b.drp + 1 }, (5 : Int)) by rw [HR4.out, if_pos hfu, if_neg hp1, if_neg hp3, hq5])
      have HQ5 := Lib.hid hq5
      clear hq5 HR4
      have HQ1 : Hid (0 < b.q.length) := Lib.hid (by omega)
      clear hp1 hp3 hfu
      go_upto_region 24 with (fail)
      have S7 := S6.set 5 (.int .i64 (b.drp + 1)) { b with ofr := b.ofr + 1, drp := b.drp + 1 } rfl rfl
      generalize w6.setCell ⟨G, 5, none⟩ (.int .i64 (b.drp + 1)) = w7 at S7 ⊢
      clear S6 x1 x5 y5 f5 g2 g3 g4 hsh
      have hq1 : 0 < b.q.length := HQ1.out
      obtain ⟨gy, yc, hyv⟩ := Joins.ownsRow_form S7.row (show 0 < b.q.length by omega)
      injection hyv with hya hyn hyc
      subst hya hyc
      have hcap : b.q.length ≤ xc := by obtain ⟨_, _, he, h1, _⟩ := own_msgs_at S7.row; cases he; exact h1
      by_cases hxc : xc = 1
      · subst hxc
        have HL1 := Lib.hid hcap
        clear hcap
        have S7d := Lib.hid (S7.below (Below.refl _ _).drew)
        have CELLS : Hid (∀ wx, Off3 wx w.heap.size b (.slice ua b.q.length uc) m → wx.cell? ⟨w.heap.size + 1, 0, none⟩ = some (.int .i64 m.1) ∧ wx.cell? ⟨w.heap.size + 1, 1, none⟩ = some (.int .i64 m.2.1) ∧ wx.cell? ⟨w.heap.size + 1, 2, none⟩ = some (.string m.2.2.1) ∧ wx.cell? ⟨w.heap.size + 1, 3, none⟩ = some (.int .i64 m.2.2.2)) := Lib.hid (fun wx h => ⟨cell_of_heap h.msg 0, cell_of_heap h.msg 1, cell_of_heap h.msg 2, cell_of_heap h.msg 3⟩)
        have C0 := CELLS.out _ S7d.out.three
        clear S7
        refine wp_region_held_drew (S := fun wx => wx.cell? ⟨w.heap.size + 1, 0, none⟩ = some (.int .i64 m.1) ∧ wx.cell? ⟨w.heap.size + 1, 1, none⟩ = some (.int .i64 m.2.1) ∧ wx.cell? ⟨w.heap.size + 1, 2, none⟩ = some (.string m.2.2.1) ∧ wx.cell? ⟨w.heap.size + 1, 3, none⟩ = some (.int .i64 m.2.2.2)) (by kernel_rfl) ?_ (fun hHeld => ?_)
        · exact C0
        change wpAnyH _ _ _ _ _ 10 #[false, false, false, false, false, false, false, false, false, false] _ _
        clear C0
        generalize w7.drew = wd at S7d hHeld ⊢
        obtain ⟨D, hD⟩ : ∃ D, wd.heap.size = D := ⟨_, rfl⟩
        have HD := Lib.hid hD
        have OFF : Hid (∀ wx, Below D wd wx → OffS w wx G b (.slice ua b.q.length uc) m { b with ofr := b.ofr + 1, drp := b.drp + 1 } (.slice (some ⟨gy, 0, none⟩) b.q.length 1)) := Lib.hid (fun wx h => S7d.out.below (by rw [hD]; exact h))
        have HDB : Hid (w.heap.size + 1 + 1 + 1 ≤ D) := Lib.hid (by have h1 := S7d.out.far; have h2 := S7d.out.ltG; omega)
        have SRC : Hid (∀ wx, Below D wd wx → SrcAt wx (.slice (some ⟨gy, 0, none⟩) (b.q.length - 1) (1 - 1)) (b.q.length - 1) (mcells (b.q.drop 1))) := Lib.hid (fun wx hx => tail_none HL1.out _)
        have HLD : Hid ((mcells (b.q.drop 1)).length = (b.q.length - 1) * 4) := Lib.hid (by rw [mcells_length, List.length_drop])
        have B0 := Lib.hid (Below.refl D wd)
        clear hD S7d
        have hq2 : (1 : Int) ≤ (b.q.length : Int) := by omega
        refine wpAnyH_take (i := 1) (v := ?_) rfl (by kernel_rfl) (by kernel_rfl) (by kernel_rfl) (fun _ _ _ h => h) (Or.inl ⟨by rfl, ?_⟩) (by assumption) ?_
        rotate_left
        · intro w hSw; (try dsimp only at hSw); go_simp; try with_reducible rfl
        try simp only [Act.put, List.getElem_toArray, List.getElem_cons_succ, List.getElem_cons_zero, List.setIfInBounds_toArray, List.set_cons_zero, List.set_cons_succ]
        refine wpAnyH_take (i := 5) (v := ?_) rfl (by kernel_rfl) (by kernel_rfl) (by kernel_rfl) (fun _ _ _ h => h) (Or.inl ⟨by rfl, ?_⟩) (by assumption) ?_
        rotate_left
        · intro w hSw; (try dsimp only at hSw); go_simp; try with_reducible rfl
        try simp only [Act.put, List.getElem_toArray, List.getElem_cons_succ, List.getElem_cons_zero, List.setIfInBounds_toArray, List.set_cons_zero, List.set_cons_succ]
        refine wpAnyH_ready (rs := [0, 2, 6]) (by kernel_rfl) (by simp) (AllReadyH.cons rfl (fun K hK => ?_) (AllReadyH.cons rfl (fun K hK => ?_) (AllReadyH.cons rfl (fun K hK => ?_) AllReadyH.nil)))
        · skip
          have BA1 := Lib.hid (B0.out.alloc (Nat.le_trans (Nat.le_of_eq HD.out.symm) B0.out.size) (.cells #[] 29))
          have EA1 := Lib.hid (lit_own (wx := wd) (Nat.le_trans (Nat.le_of_eq HD.out.symm) B0.out.size))
          rw [if_pos (by rfl)]
          go_simp
          refine hK.out _ _ ?_ (fun hHeld => ?_)
          · exact CELLS.out _ (OFF.out _ BA1.out).three
          clear hK K
          try simp only [Act.put, List.getElem_toArray, List.getElem_cons_succ, List.getElem_cons_zero, List.setIfInBounds_toArray, List.set_cons_zero, List.set_cons_succ]
          obtain ⟨e, he⟩ : ∃ e, wd.heap.size = e := ⟨_, rfl⟩
          rw [he] at EA1 ⊢
          generalize wd.alloc (.cells #[] 29) = wa1 at BA1 EA1 hHeld ⊢
          clear he
          refine wpAnyH_ready (rs := [2, 6]) (by kernel_rfl) (by simp) (AllReadyH.cons rfl (fun K hK => ?_) (AllReadyH.cons rfl (fun K hK => ?_) AllReadyH.nil))
          · skip
            have y2 : wa1.cell? ⟨G, 2, none⟩ = some (.slice (some ⟨gy, 0, none⟩) b.q.length 1) := cell_of_heap (OFF.out _ BA1.out).new 2
            rw [if_pos (by rfl)]
            go_simp
            refine hK.out _ _ ?_ (fun hHeld => ?_)
            · exact CELLS.out _ (OFF.out _ BA1.out).three
            clear hK K
            try simp only [Act.put, List.getElem_toArray, List.getElem_cons_succ, List.getElem_cons_zero, List.setIfInBounds_toArray, List.set_cons_zero, List.set_cons_succ]
            clear y2
            refine wpAnyH_take (i := 3) (v := ?_) rfl (by kernel_rfl) (by kernel_rfl) (by kernel_rfl) (fun _ _ _ h => h) (Or.inl ⟨by rfl, ?_⟩) (by assumption) ?_
            rotate_left
            · intro w hSw; (try dsimp only at hSw); go_simp; try with_reducible rfl
            try simp only [Act.put, List.getElem_toArray, List.getElem_cons_succ, List.getElem_cons_zero, List.setIfInBounds_toArray, List.set_cons_zero, List.set_cons_succ]
            refine wpAnyH_ready (rs := [4, 6]) (by kernel_rfl) (by simp) (AllReadyH.cons rfl (fun K hK => ?_) (AllReadyH.cons rfl (fun K hK => ?_) AllReadyH.nil))
            · skip
              rw [if_pos (by rfl)]
              refine wp_append_src (.tmp 90) (.tmp 93) 24 rfl D 29 ii (.agg #[.int .i64 0, .int .i64 0, .string ⟨#[]⟩, .int .i64 0]) 4 40 Tryd.underlying24 hi hz0 hz1 hz2 rfl (by decide) (.slice (some ⟨e, 0, none⟩) 0 0) (.slice (some ⟨gy, 0, none⟩) (b.q.length - 1) (1 - 1)) 0 (b.q.length - 1) [] (mcells (b.q.drop 1)) (by simp [Act.eval]) EA1.out (by simp [Act.eval]) (SRC.out _ BA1.out) HLD.out (mcells_one _) (by unfold maxLen; omega) (by omega) (Nat.le_trans (Nat.le_of_eq HD.out.symm) BA1.out.size) ?_; intro v9 wa3 hr9 hg9 _; rw [Nat.zero_add, List.nil_append] at hr9; obtain ⟨na, nc, hn9⟩ := own_slice hr9; subst hn9; have NA3 := Lib.hid hr9; have BA3 := Lib.hid (BA1.out.grown hg9 (Nat.le_trans (Nat.le_of_eq HD.out.symm) BA1.out.size) (fun i h => (EA1.out.lt i h).1)); clear hr9 hg9
              refine hK.out _ _ ?_ (fun hHeld => ?_)
              · exact CELLS.out _ (OFF.out _ BA3.out).three
              clear hK K
              try simp only [Act.put, List.getElem_toArray, List.getElem_cons_succ, List.getElem_cons_zero, List.setIfInBounds_toArray, List.set_cons_zero, List.set_cons_succ]
              refine wpAnyH_ready (rs := [6]) (by kernel_rfl) (by simp) (AllReadyH.cons rfl (fun K hK => ?_) AllReadyH.nil)
              have BA4 := Lib.hid (BA3.out.alloc (Nat.le_trans (Nat.le_of_eq HD.out.symm) BA3.out.size) (.cells #[.int .i64 m.1, .int .i64 m.2.1, .string m.2.2.1, .int .i64 m.2.2.2] 29))
              have FA4 := Lib.hid (Lone.new wa3 m)
              have NA4 := Lib.hid (row_below NA3.out ((Below.refl _ _).alloc (Nat.le_refl _) (.cells #[.int .i64 m.1, .int .i64 m.2.1, .string m.2.2.1, .int .i64 m.2.2.2] 29)))
              rw [if_pos (by rfl)]
              go_simp
              refine hK.out _ _ ?_ (fun hHeld => ?_)
              · exact CELLS.out _ (OFF.out _ BA4.out).three
              clear hK K
              try simp only [Act.put, List.getElem_toArray, List.getElem_cons_succ, List.getElem_cons_zero, List.setIfInBounds_toArray, List.set_cons_zero, List.set_cons_succ]
              obtain ⟨f, hf⟩ : ∃ f, wa3.heap.size = f := ⟨_, rfl⟩
              rw [hf] at FA4 ⊢
              generalize wa3.alloc (.cells #[.int .i64 m.1, .int .i64 m.2.1, .string m.2.2.1, .int .i64 m.2.2.2] 29) = wa4 at BA4 FA4 NA4 hHeld ⊢
              clear hf
              refine wpAnyH_ready (rs := [7]) (by kernel_rfl) (by simp) (AllReadyH.cons rfl (fun K hK => ?_) AllReadyH.nil)
              rw [if_pos (by rfl)]
              refine wp_append_src (.tmp 94) (.tmp 96) 24 rfl D 29 ii (.agg #[.int .i64 0, .int .i64 0, .string ⟨#[]⟩, .int .i64 0]) 4 40 Tryd.underlying24 hi hz0 hz1 hz2 rfl (by decide) (.slice na (b.q.length - 1) nc) (.slice (some ⟨f, 0, none⟩) 1 1) (b.q.length - 1) 1 (mcells (b.q.drop 1)) (mcells [m]) (by simp [Act.eval]) NA4.out (by simp [Act.eval]) FA4.out.src rfl (mcells_one _) (by unfold maxLen; omega) (by omega) (Nat.le_trans (Nat.le_of_eq HD.out.symm) BA4.out.size) ?_; intro v10 w10 hr10 hg10 _; obtain ⟨gz, zc, hzv⟩ := Joins.ownsRow_form hr10 (by omega); subst hzv; have B10 := Lib.hid (BA4.out.grown hg10 (Nat.le_trans (Nat.le_of_eq HD.out.symm) BA4.out.size) (fun i h => (NA4.out.lt i h).1)); have N10 := Lib.hid hr10; clear hr10 hg10
              refine hK.out _ _ ?_ (fun hHeld => ?_)
              · exact CELLS.out _ (OFF.out _ B10.out).three
              clear hK K
              try simp only [Act.put, List.getElem_toArray, List.getElem_cons_succ, List.getElem_cons_zero, List.setIfInBounds_toArray, List.set_cons_zero, List.set_cons_succ]
              have S10 := Lib.hid (OFF.out _ B10.out)
              have y2 : w10.cell? ⟨G, 2, none⟩ = some (.slice (some ⟨gy, 0, none⟩) b.q.length 1) := cell_of_heap S10.out.new 2
              have f2 : w10.frozen? ⟨G, 2, none⟩ = false := frozen_of_row _ _ _ _ _ S10.out.new
              have S11 := Lib.hid (OffS.queue S10.out.three S10.out.new S10.out.since S10.out.far (u2 := (.slice (some ⟨gz, 0, none⟩) (b.q.length - 1 + 1) zc)) (q2 := q5) (by rw [← HQ5.out]; unfold MOwn; rw [List.length_append, List.length_drop, mcells_app]; exact own_mono N10.out HDB.out))
              refine wpAnyH_take (i := 8) (v := ?_) rfl (by kernel_rfl) (by kernel_rfl) (by kernel_rfl) (fun _ _ _ h => h) (Or.inl ⟨by rfl, ?_⟩) (by assumption) ?_
              rotate_left
              · intro w hSw; (try dsimp only at hSw); go_simp; try with_reducible rfl
              try simp only [Act.put, List.getElem_toArray, List.getElem_cons_succ, List.getElem_cons_zero, List.setIfInBounds_toArray, List.set_cons_zero, List.set_cons_succ]
              refine wpAnyH_ready (rs := [9]) (by kernel_rfl) (by simp) (AllReadyH.cons rfl (fun K hK => ?_) AllReadyH.nil)
              rw [if_pos (by rfl)]
              go_simp
              refine hK.out _ _ ?_ (fun hHeld => ?_)
              · exact CELLS.out _ S11.out.three
              clear hK K
              try simp only [Act.put, List.getElem_toArray, List.getElem_cons_succ, List.getElem_cons_zero, List.setIfInBounds_toArray, List.set_cons_zero, List.set_cons_succ]
              refine wpAnyH_done (by kernel_rfl) ?_ _
              clear hHeld y2 f2 S10 N10 B10
              generalize w10.setCell ⟨G, 2, none⟩ (.slice (some ⟨gz, 0, none⟩) (b.q.length - 1 + 1) zc) = w11 at S11 ⊢
              go_wp2_with (first
                | refine wpList_load_row rfl 26 (.tmp 6) rfl G rfl 26 (bcells ({ b with q := q5, ofr := b.ofr + 1, drp := b.drp + 1 }) (.slice (some ⟨gz, 0, none⟩) (b.q.length - 1 + 1) zc)) (0, 0) _ S11.out.new Tryd.underlying26 rfl (by kernel_rfl) ?_
                | refine wpList_store_rowTo rfl 26 (.tmp 4) _ rfl rfl (w.heap.size + 1 + 1) (bcells ({ b with q := q5, ofr := b.ofr + 1, drp := b.drp + 1 }) (.slice (some ⟨gz, 0, none⟩) (b.q.length - 1 + 1) zc)) rfl rfl 26 _ S11.out.three.res (by kernel_rfl) rfl (bcells_one _ _ _ _) ?_)
              have HX := off_end S11.out (bcells ({ b with q := q5, ofr := b.ofr + 1, drp := b.drp + 1 }) (.slice (some ⟨gz, 0, none⟩) (b.q.length - 1 + 1) zc))
              exact bodyPost_ret (results_row_tmp rfl _ _ _ _ _ _ _ rfl HX.1 Tryd.underlying26 rfl (by kernel_rfl)) rfl ⟨_, by rw [HE.out]; rfl, by rw [HE.out]; exact HX.2.1, HX.2.2⟩
            · skip
              have BA6 := Lib.hid (BA1.out.alloc (Nat.le_trans (Nat.le_of_eq HD.out.symm) BA1.out.size) (.cells #[.int .i64 m.1, .int .i64 m.2.1, .string m.2.2.1, .int .i64 m.2.2.2] 29))
              have FA6 := Lib.hid (Lone.new wa1 m)
              have EA6 := Lib.hid (row_below EA1.out ((Below.refl _ _).alloc (Nat.le_refl _) (.cells #[.int .i64 m.1, .int .i64 m.2.1, .string m.2.2.1, .int .i64 m.2.2.2] 29)))
              have NE : Hid (wa1.heap.size ≠ e) := Lib.hid (Nat.ne_of_gt (EA1.out.lt e rfl).2)
              rw [if_pos (by rfl)]
              go_simp
              refine hK.out _ _ ?_ (fun hHeld => ?_)
              · exact CELLS.out _ (OFF.out _ BA6.out).three
              clear hK K
              try simp only [Act.put, List.getElem_toArray, List.getElem_cons_succ, List.getElem_cons_zero, List.setIfInBounds_toArray, List.set_cons_zero, List.set_cons_succ]
              obtain ⟨f, hf⟩ : ∃ f, wa1.heap.size = f := ⟨_, rfl⟩
              rw [hf] at FA6 NE ⊢
              generalize wa1.alloc (.cells #[.int .i64 m.1, .int .i64 m.2.1, .string m.2.2.1, .int .i64 m.2.2.2] 29) = wa6 at BA6 FA6 EA6 hHeld ⊢
              clear hf
              refine wpAnyH_ready (rs := [4]) (by kernel_rfl) (by simp) (AllReadyH.cons rfl (fun K hK => ?_) AllReadyH.nil)
              rw [if_pos (by rfl)]
              refine wp_append_src (.tmp 90) (.tmp 93) 24 rfl D 29 ii (.agg #[.int .i64 0, .int .i64 0, .string ⟨#[]⟩, .int .i64 0]) 4 40 Tryd.underlying24 hi hz0 hz1 hz2 rfl (by decide) (.slice (some ⟨e, 0, none⟩) 0 0) (.slice (some ⟨gy, 0, none⟩) (b.q.length - 1) (1 - 1)) 0 (b.q.length - 1) [] (mcells (b.q.drop 1)) (by simp [Act.eval]) EA6.out (by simp [Act.eval]) (SRC.out _ BA6.out) HLD.out (mcells_one _) (by unfold maxLen; omega) (by omega) (Nat.le_trans (Nat.le_of_eq HD.out.symm) BA6.out.size) ?_; intro v9 wa7 hr9 hg9 _; rw [Nat.zero_add, List.nil_append] at hr9; obtain ⟨na, nc, hn9⟩ := own_slice hr9; subst hn9; have NA7 := Lib.hid hr9; have BA7 := Lib.hid (BA6.out.grown hg9 (Nat.le_trans (Nat.le_of_eq HD.out.symm) BA6.out.size) (fun i h => (EA6.out.lt i h).1)); have FA7 := Lib.hid (FA6.out.grown hg9 NE.out); clear hr9 hg9
              refine hK.out _ _ ?_ (fun hHeld => ?_)
              · exact CELLS.out _ (OFF.out _ BA7.out).three
              clear hK K
              try simp only [Act.put, List.getElem_toArray, List.getElem_cons_succ, List.getElem_cons_zero, List.setIfInBounds_toArray, List.set_cons_zero, List.set_cons_succ]
              refine wpAnyH_ready (rs := [7]) (by kernel_rfl) (by simp) (AllReadyH.cons rfl (fun K hK => ?_) AllReadyH.nil)
              rw [if_pos (by rfl)]
              refine wp_append_src (.tmp 94) (.tmp 96) 24 rfl D 29 ii (.agg #[.int .i64 0, .int .i64 0, .string ⟨#[]⟩, .int .i64 0]) 4 40 Tryd.underlying24 hi hz0 hz1 hz2 rfl (by decide) (.slice na (b.q.length - 1) nc) (.slice (some ⟨f, 0, none⟩) 1 1) (b.q.length - 1) 1 (mcells (b.q.drop 1)) (mcells [m]) (by simp [Act.eval]) NA7.out (by simp [Act.eval]) FA7.out.src rfl (mcells_one _) (by unfold maxLen; omega) (by omega) (Nat.le_trans (Nat.le_of_eq HD.out.symm) BA7.out.size) ?_; intro v10 w10 hr10 hg10 _; obtain ⟨gz, zc, hzv⟩ := Joins.ownsRow_form hr10 (by omega); subst hzv; have B10 := Lib.hid (BA7.out.grown hg10 (Nat.le_trans (Nat.le_of_eq HD.out.symm) BA7.out.size) (fun i h => (NA7.out.lt i h).1)); have N10 := Lib.hid hr10; clear hr10 hg10
              refine hK.out _ _ ?_ (fun hHeld => ?_)
              · exact CELLS.out _ (OFF.out _ B10.out).three
              clear hK K
              try simp only [Act.put, List.getElem_toArray, List.getElem_cons_succ, List.getElem_cons_zero, List.setIfInBounds_toArray, List.set_cons_zero, List.set_cons_succ]
              have S10 := Lib.hid (OFF.out _ B10.out)
              have y2 : w10.cell? ⟨G, 2, none⟩ = some (.slice (some ⟨gy, 0, none⟩) b.q.length 1) := cell_of_heap S10.out.new 2
              have f2 : w10.frozen? ⟨G, 2, none⟩ = false := frozen_of_row _ _ _ _ _ S10.out.new
              have S11 := Lib.hid (OffS.queue S10.out.three S10.out.new S10.out.since S10.out.far (u2 := (.slice (some ⟨gz, 0, none⟩) (b.q.length - 1 + 1) zc)) (q2 := q5) (by rw [← HQ5.out]; unfold MOwn; rw [List.length_append, List.length_drop, mcells_app]; exact own_mono N10.out HDB.out))
              refine wpAnyH_take (i := 8) (v := ?_) rfl (by kernel_rfl) (by kernel_rfl) (by kernel_rfl) (fun _ _ _ h => h) (Or.inl ⟨by rfl, ?_⟩) (by assumption) ?_
              rotate_left
              · intro w hSw; (try dsimp only at hSw); go_simp; try with_reducible rfl
              try simp only [Act.put, List.getElem_toArray, List.getElem_cons_succ, List.getElem_cons_zero, List.setIfInBounds_toArray, List.set_cons_zero, List.set_cons_succ]
              refine wpAnyH_ready (rs := [9]) (by kernel_rfl) (by simp) (AllReadyH.cons rfl (fun K hK => ?_) AllReadyH.nil)
              rw [if_pos (by rfl)]
              go_simp
              refine hK.out _ _ ?_ (fun hHeld => ?_)
              · exact CELLS.out _ S11.out.three
              clear hK K
              try simp only [Act.put, List.getElem_toArray, List.getElem_cons_succ, List.getElem_cons_zero, List.setIfInBounds_toArray, List.set_cons_zero, List.set_cons_succ]
              refine wpAnyH_done (by kernel_rfl) ?_ _
              clear hHeld y2 f2 S10 N10 B10
              generalize w10.setCell ⟨G, 2, none⟩ (.slice (some ⟨gz, 0, none⟩) (b.q.length - 1 + 1) zc) = w11 at S11 ⊢
              go_wp2_with (first
                | refine wpList_load_row rfl 26 (.tmp 6) rfl G rfl 26 (bcells ({ b with q := q5, ofr := b.ofr + 1, drp := b.drp + 1 }) (.slice (some ⟨gz, 0, none⟩) (b.q.length - 1 + 1) zc)) (0, 0) _ S11.out.new Tryd.underlying26 rfl (by kernel_rfl) ?_
                | refine wpList_store_rowTo rfl 26 (.tmp 4) _ rfl rfl (w.heap.size + 1 + 1) (bcells ({ b with q := q5, ofr := b.ofr + 1, drp := b.drp + 1 }) (.slice (some ⟨gz, 0, none⟩) (b.q.length - 1 + 1) zc)) rfl rfl 26 _ S11.out.three.res (by kernel_rfl) rfl (bcells_one _ _ _ _) ?_)
              have HX := off_end S11.out (bcells ({ b with q := q5, ofr := b.ofr + 1, drp := b.drp + 1 }) (.slice (some ⟨gz, 0, none⟩) (b.q.length - 1 + 1) zc))
              exact bodyPost_ret (results_row_tmp rfl _ _ _ _ _ _ _ rfl HX.1 Tryd.underlying26 rfl (by kernel_rfl)) rfl ⟨_, by rw [HE.out]; rfl, by rw [HE.out]; exact HX.2.1, HX.2.2⟩
          · skip
            have BA9 := Lib.hid (BA1.out.alloc (Nat.le_trans (Nat.le_of_eq HD.out.symm) BA1.out.size) (.cells #[.int .i64 m.1, .int .i64 m.2.1, .string m.2.2.1, .int .i64 m.2.2.2] 29))
            have FA9 := Lib.hid (Lone.new wa1 m)
            have EA9 := Lib.hid (row_below EA1.out ((Below.refl _ _).alloc (Nat.le_refl _) (.cells #[.int .i64 m.1, .int .i64 m.2.1, .string m.2.2.1, .int .i64 m.2.2.2] 29)))
            have NE : Hid (wa1.heap.size ≠ e) := Lib.hid (Nat.ne_of_gt (EA1.out.lt e rfl).2)
            rw [if_pos (by rfl)]
            go_simp
            refine hK.out _ _ ?_ (fun hHeld => ?_)
            · exact CELLS.out _ (OFF.out _ BA9.out).three
            clear hK K
            try simp only [Act.put, List.getElem_toArray, List.getElem_cons_succ, List.getElem_cons_zero, List.setIfInBounds_toArray, List.set_cons_zero, List.set_cons_succ]
            obtain ⟨f, hf⟩ : ∃ f, wa1.heap.size = f := ⟨_, rfl⟩
            rw [hf] at FA9 NE ⊢
            generalize wa1.alloc (.cells #[.int .i64 m.1, .int .i64 m.2.1, .string m.2.2.1, .int .i64 m.2.2.2] 29) = wa9 at BA9 FA9 EA9 hHeld ⊢
            clear hf
            refine wpAnyH_ready (rs := [2]) (by kernel_rfl) (by simp) (AllReadyH.cons rfl (fun K hK => ?_) AllReadyH.nil)
            have y2 : wa9.cell? ⟨G, 2, none⟩ = some (.slice (some ⟨gy, 0, none⟩) b.q.length 1) := cell_of_heap (OFF.out _ BA9.out).new 2
            rw [if_pos (by rfl)]
            go_simp
            refine hK.out _ _ ?_ (fun hHeld => ?_)
            · exact CELLS.out _ (OFF.out _ BA9.out).three
            clear hK K
            try simp only [Act.put, List.getElem_toArray, List.getElem_cons_succ, List.getElem_cons_zero, List.setIfInBounds_toArray, List.set_cons_zero, List.set_cons_succ]
            clear y2
            refine wpAnyH_take (i := 3) (v := ?_) rfl (by kernel_rfl) (by kernel_rfl) (by kernel_rfl) (fun _ _ _ h => h) (Or.inl ⟨by rfl, ?_⟩) (by assumption) ?_
            rotate_left
            · intro w hSw; (try dsimp only at hSw); go_simp; try with_reducible rfl
            try simp only [Act.put, List.getElem_toArray, List.getElem_cons_succ, List.getElem_cons_zero, List.setIfInBounds_toArray, List.set_cons_zero, List.set_cons_succ]
            refine wpAnyH_ready (rs := [4]) (by kernel_rfl) (by simp) (AllReadyH.cons rfl (fun K hK => ?_) AllReadyH.nil)
            rw [if_pos (by rfl)]
            refine wp_append_src (.tmp 90) (.tmp 93) 24 rfl D 29 ii (.agg #[.int .i64 0, .int .i64 0, .string ⟨#[]⟩, .int .i64 0]) 4 40 Tryd.underlying24 hi hz0 hz1 hz2 rfl (by decide) (.slice (some ⟨e, 0, none⟩) 0 0) (.slice (some ⟨gy, 0, none⟩) (b.q.length - 1) (1 - 1)) 0 (b.q.length - 1) [] (mcells (b.q.drop 1)) (by simp [Act.eval]) EA9.out (by simp [Act.eval]) (SRC.out _ BA9.out) HLD.out (mcells_one _) (by unfold maxLen; omega) (by omega) (Nat.le_trans (Nat.le_of_eq HD.out.symm) BA9.out.size) ?_; intro v9 wa11 hr9 hg9 _; rw [Nat.zero_add, List.nil_append] at hr9; obtain ⟨na, nc, hn9⟩ := own_slice hr9; subst hn9; have NA11 := Lib.hid hr9; have BA11 := Lib.hid (BA9.out.grown hg9 (Nat.le_trans (Nat.le_of_eq HD.out.symm) BA9.out.size) (fun i h => (EA9.out.lt i h).1)); have FA11 := Lib.hid (FA9.out.grown hg9 NE.out); clear hr9 hg9
            refine hK.out _ _ ?_ (fun hHeld => ?_)
            · exact CELLS.out _ (OFF.out _ BA11.out).three
            clear hK K
            try simp only [Act.put, List.getElem_toArray, List.getElem_cons_succ, List.getElem_cons_zero, List.setIfInBounds_toArray, List.set_cons_zero, List.set_cons_succ]
            refine wpAnyH_ready (rs := [7]) (by kernel_rfl) (by simp) (AllReadyH.cons rfl (fun K hK => ?_) AllReadyH.nil)
            rw [if_pos (by rfl)]
            refine wp_append_src (.tmp 94) (.tmp 96) 24 rfl D 29 ii (.agg #[.int .i64 0, .int .i64 0, .string ⟨#[]⟩, .int .i64 0]) 4 40 Tryd.underlying24 hi hz0 hz1 hz2 rfl (by decide) (.slice na (b.q.length - 1) nc) (.slice (some ⟨f, 0, none⟩) 1 1) (b.q.length - 1) 1 (mcells (b.q.drop 1)) (mcells [m]) (by simp [Act.eval]) NA11.out (by simp [Act.eval]) FA11.out.src rfl (mcells_one _) (by unfold maxLen; omega) (by omega) (Nat.le_trans (Nat.le_of_eq HD.out.symm) BA11.out.size) ?_; intro v10 w10 hr10 hg10 _; obtain ⟨gz, zc, hzv⟩ := Joins.ownsRow_form hr10 (by omega); subst hzv; have B10 := Lib.hid (BA11.out.grown hg10 (Nat.le_trans (Nat.le_of_eq HD.out.symm) BA11.out.size) (fun i h => (NA11.out.lt i h).1)); have N10 := Lib.hid hr10; clear hr10 hg10
            refine hK.out _ _ ?_ (fun hHeld => ?_)
            · exact CELLS.out _ (OFF.out _ B10.out).three
            clear hK K
            try simp only [Act.put, List.getElem_toArray, List.getElem_cons_succ, List.getElem_cons_zero, List.setIfInBounds_toArray, List.set_cons_zero, List.set_cons_succ]
            have S10 := Lib.hid (OFF.out _ B10.out)
            have y2 : w10.cell? ⟨G, 2, none⟩ = some (.slice (some ⟨gy, 0, none⟩) b.q.length 1) := cell_of_heap S10.out.new 2
            have f2 : w10.frozen? ⟨G, 2, none⟩ = false := frozen_of_row _ _ _ _ _ S10.out.new
            have S11 := Lib.hid (OffS.queue S10.out.three S10.out.new S10.out.since S10.out.far (u2 := (.slice (some ⟨gz, 0, none⟩) (b.q.length - 1 + 1) zc)) (q2 := q5) (by rw [← HQ5.out]; unfold MOwn; rw [List.length_append, List.length_drop, mcells_app]; exact own_mono N10.out HDB.out))
            refine wpAnyH_take (i := 8) (v := ?_) rfl (by kernel_rfl) (by kernel_rfl) (by kernel_rfl) (fun _ _ _ h => h) (Or.inl ⟨by rfl, ?_⟩) (by assumption) ?_
            rotate_left
            · intro w hSw; (try dsimp only at hSw); go_simp; try with_reducible rfl
            try simp only [Act.put, List.getElem_toArray, List.getElem_cons_succ, List.getElem_cons_zero, List.setIfInBounds_toArray, List.set_cons_zero, List.set_cons_succ]
            refine wpAnyH_ready (rs := [9]) (by kernel_rfl) (by simp) (AllReadyH.cons rfl (fun K hK => ?_) AllReadyH.nil)
            rw [if_pos (by rfl)]
            go_simp
            refine hK.out _ _ ?_ (fun hHeld => ?_)
            · exact CELLS.out _ S11.out.three
            clear hK K
            try simp only [Act.put, List.getElem_toArray, List.getElem_cons_succ, List.getElem_cons_zero, List.setIfInBounds_toArray, List.set_cons_zero, List.set_cons_succ]
            refine wpAnyH_done (by kernel_rfl) ?_ _
            clear hHeld y2 f2 S10 N10 B10
            generalize w10.setCell ⟨G, 2, none⟩ (.slice (some ⟨gz, 0, none⟩) (b.q.length - 1 + 1) zc) = w11 at S11 ⊢
            go_wp2_with (first
              | refine wpList_load_row rfl 26 (.tmp 6) rfl G rfl 26 (bcells ({ b with q := q5, ofr := b.ofr + 1, drp := b.drp + 1 }) (.slice (some ⟨gz, 0, none⟩) (b.q.length - 1 + 1) zc)) (0, 0) _ S11.out.new Tryd.underlying26 rfl (by kernel_rfl) ?_
              | refine wpList_store_rowTo rfl 26 (.tmp 4) _ rfl rfl (w.heap.size + 1 + 1) (bcells ({ b with q := q5, ofr := b.ofr + 1, drp := b.drp + 1 }) (.slice (some ⟨gz, 0, none⟩) (b.q.length - 1 + 1) zc)) rfl rfl 26 _ S11.out.three.res (by kernel_rfl) rfl (bcells_one _ _ _ _) ?_)
            have HX := off_end S11.out (bcells ({ b with q := q5, ofr := b.ofr + 1, drp := b.drp + 1 }) (.slice (some ⟨gz, 0, none⟩) (b.q.length - 1 + 1) zc))
            exact bodyPost_ret (results_row_tmp rfl _ _ _ _ _ _ _ rfl HX.1 Tryd.underlying26 rfl (by kernel_rfl)) rfl ⟨_, by rw [HE.out]; rfl, by rw [HE.out]; exact HX.2.1, HX.2.2⟩
        · skip
          have y2 : wd.cell? ⟨G, 2, none⟩ = some (.slice (some ⟨gy, 0, none⟩) b.q.length 1) := cell_of_heap (OFF.out _ B0.out).new 2
          rw [if_pos (by rfl)]
          go_simp
          refine hK.out _ _ ?_ (fun hHeld => ?_)
          · exact CELLS.out _ (OFF.out _ B0.out).three
          clear hK K
          try simp only [Act.put, List.getElem_toArray, List.getElem_cons_succ, List.getElem_cons_zero, List.setIfInBounds_toArray, List.set_cons_zero, List.set_cons_succ]
          clear y2
          refine wpAnyH_take (i := 3) (v := ?_) rfl (by kernel_rfl) (by kernel_rfl) (by kernel_rfl) (fun _ _ _ h => h) (Or.inl ⟨by rfl, ?_⟩) (by assumption) ?_
          rotate_left
          · intro w hSw; (try dsimp only at hSw); go_simp; try with_reducible rfl
          try simp only [Act.put, List.getElem_toArray, List.getElem_cons_succ, List.getElem_cons_zero, List.setIfInBounds_toArray, List.set_cons_zero, List.set_cons_succ]
          refine wpAnyH_ready (rs := [0, 6]) (by kernel_rfl) (by simp) (AllReadyH.cons rfl (fun K hK => ?_) (AllReadyH.cons rfl (fun K hK => ?_) AllReadyH.nil))
          · skip
            have BA14 := Lib.hid (B0.out.alloc (Nat.le_trans (Nat.le_of_eq HD.out.symm) B0.out.size) (.cells #[] 29))
            have EA14 := Lib.hid (lit_own (wx := wd) (Nat.le_trans (Nat.le_of_eq HD.out.symm) B0.out.size))
            rw [if_pos (by rfl)]
            go_simp
            refine hK.out _ _ ?_ (fun hHeld => ?_)
            · exact CELLS.out _ (OFF.out _ BA14.out).three
            clear hK K
            try simp only [Act.put, List.getElem_toArray, List.getElem_cons_succ, List.getElem_cons_zero, List.setIfInBounds_toArray, List.set_cons_zero, List.set_cons_succ]
            obtain ⟨e, he⟩ : ∃ e, wd.heap.size = e := ⟨_, rfl⟩
            rw [he] at EA14 ⊢
            generalize wd.alloc (.cells #[] 29) = wa14 at BA14 EA14 hHeld ⊢
            clear he
            refine wpAnyH_ready (rs := [4, 6]) (by kernel_rfl) (by simp) (AllReadyH.cons rfl (fun K hK => ?_) (AllReadyH.cons rfl (fun K hK => ?_) AllReadyH.nil))
            · skip
              rw [if_pos (by rfl)]
              refine wp_append_src (.tmp 90) (.tmp 93) 24 rfl D 29 ii (.agg #[.int .i64 0, .int .i64 0, .string ⟨#[]⟩, .int .i64 0]) 4 40 Tryd.underlying24 hi hz0 hz1 hz2 rfl (by decide) (.slice (some ⟨e, 0, none⟩) 0 0) (.slice (some ⟨gy, 0, none⟩) (b.q.length - 1) (1 - 1)) 0 (b.q.length - 1) [] (mcells (b.q.drop 1)) (by simp [Act.eval]) EA14.out (by simp [Act.eval]) (SRC.out _ BA14.out) HLD.out (mcells_one _) (by unfold maxLen; omega) (by omega) (Nat.le_trans (Nat.le_of_eq HD.out.symm) BA14.out.size) ?_; intro v9 wa15 hr9 hg9 _; rw [Nat.zero_add, List.nil_append] at hr9; obtain ⟨na, nc, hn9⟩ := own_slice hr9; subst hn9; have NA15 := Lib.hid hr9; have BA15 := Lib.hid (BA14.out.grown hg9 (Nat.le_trans (Nat.le_of_eq HD.out.symm) BA14.out.size) (fun i h => (EA14.out.lt i h).1)); clear hr9 hg9
              refine hK.out _ _ ?_ (fun hHeld => ?_)
              · exact CELLS.out _ (OFF.out _ BA15.out).three
              clear hK K
              try simp only [Act.put, List.getElem_toArray, List.getElem_cons_succ, List.getElem_cons_zero, List.setIfInBounds_toArray, List.set_cons_zero, List.set_cons_succ]
              refine wpAnyH_ready (rs := [6]) (by kernel_rfl) (by simp) (AllReadyH.cons rfl (fun K hK => ?_) AllReadyH.nil)
              have BA16 := Lib.hid (BA15.out.alloc (Nat.le_trans (Nat.le_of_eq HD.out.symm) BA15.out.size) (.cells #[.int .i64 m.1, .int .i64 m.2.1, .string m.2.2.1, .int .i64 m.2.2.2] 29))
              have FA16 := Lib.hid (Lone.new wa15 m)
              have NA16 := Lib.hid (row_below NA15.out ((Below.refl _ _).alloc (Nat.le_refl _) (.cells #[.int .i64 m.1, .int .i64 m.2.1, .string m.2.2.1, .int .i64 m.2.2.2] 29)))
              rw [if_pos (by rfl)]
              go_simp
              refine hK.out _ _ ?_ (fun hHeld => ?_)
              · exact CELLS.out _ (OFF.out _ BA16.out).three
              clear hK K
              try simp only [Act.put, List.getElem_toArray, List.getElem_cons_succ, List.getElem_cons_zero, List.setIfInBounds_toArray, List.set_cons_zero, List.set_cons_succ]
              obtain ⟨f, hf⟩ : ∃ f, wa15.heap.size = f := ⟨_, rfl⟩
              rw [hf] at FA16 ⊢
              generalize wa15.alloc (.cells #[.int .i64 m.1, .int .i64 m.2.1, .string m.2.2.1, .int .i64 m.2.2.2] 29) = wa16 at BA16 FA16 NA16 hHeld ⊢
              clear hf
              refine wpAnyH_ready (rs := [7]) (by kernel_rfl) (by simp) (AllReadyH.cons rfl (fun K hK => ?_) AllReadyH.nil)
              rw [if_pos (by rfl)]
              refine wp_append_src (.tmp 94) (.tmp 96) 24 rfl D 29 ii (.agg #[.int .i64 0, .int .i64 0, .string ⟨#[]⟩, .int .i64 0]) 4 40 Tryd.underlying24 hi hz0 hz1 hz2 rfl (by decide) (.slice na (b.q.length - 1) nc) (.slice (some ⟨f, 0, none⟩) 1 1) (b.q.length - 1) 1 (mcells (b.q.drop 1)) (mcells [m]) (by simp [Act.eval]) NA16.out (by simp [Act.eval]) FA16.out.src rfl (mcells_one _) (by unfold maxLen; omega) (by omega) (Nat.le_trans (Nat.le_of_eq HD.out.symm) BA16.out.size) ?_; intro v10 w10 hr10 hg10 _; obtain ⟨gz, zc, hzv⟩ := Joins.ownsRow_form hr10 (by omega); subst hzv; have B10 := Lib.hid (BA16.out.grown hg10 (Nat.le_trans (Nat.le_of_eq HD.out.symm) BA16.out.size) (fun i h => (NA16.out.lt i h).1)); have N10 := Lib.hid hr10; clear hr10 hg10
              refine hK.out _ _ ?_ (fun hHeld => ?_)
              · exact CELLS.out _ (OFF.out _ B10.out).three
              clear hK K
              try simp only [Act.put, List.getElem_toArray, List.getElem_cons_succ, List.getElem_cons_zero, List.setIfInBounds_toArray, List.set_cons_zero, List.set_cons_succ]
              have S10 := Lib.hid (OFF.out _ B10.out)
              have y2 : w10.cell? ⟨G, 2, none⟩ = some (.slice (some ⟨gy, 0, none⟩) b.q.length 1) := cell_of_heap S10.out.new 2
              have f2 : w10.frozen? ⟨G, 2, none⟩ = false := frozen_of_row _ _ _ _ _ S10.out.new
              have S11 := Lib.hid (OffS.queue S10.out.three S10.out.new S10.out.since S10.out.far (u2 := (.slice (some ⟨gz, 0, none⟩) (b.q.length - 1 + 1) zc)) (q2 := q5) (by rw [← HQ5.out]; unfold MOwn; rw [List.length_append, List.length_drop, mcells_app]; exact own_mono N10.out HDB.out))
              refine wpAnyH_take (i := 8) (v := ?_) rfl (by kernel_rfl) (by kernel_rfl) (by kernel_rfl) (fun _ _ _ h => h) (Or.inl ⟨by rfl, ?_⟩) (by assumption) ?_
              rotate_left
              · intro w hSw; (try dsimp only at hSw); go_simp; try with_reducible rfl
              try simp only [Act.put, List.getElem_toArray, List.getElem_cons_succ, List.getElem_cons_zero, List.setIfInBounds_toArray, List.set_cons_zero, List.set_cons_succ]
              refine wpAnyH_ready (rs := [9]) (by kernel_rfl) (by simp) (AllReadyH.cons rfl (fun K hK => ?_) AllReadyH.nil)
              rw [if_pos (by rfl)]
              go_simp
              refine hK.out _ _ ?_ (fun hHeld => ?_)
              · exact CELLS.out _ S11.out.three
              clear hK K
              try simp only [Act.put, List.getElem_toArray, List.getElem_cons_succ, List.getElem_cons_zero, List.setIfInBounds_toArray, List.set_cons_zero, List.set_cons_succ]
              refine wpAnyH_done (by kernel_rfl) ?_ _
              clear hHeld y2 f2 S10 N10 B10
              generalize w10.setCell ⟨G, 2, none⟩ (.slice (some ⟨gz, 0, none⟩) (b.q.length - 1 + 1) zc) = w11 at S11 ⊢
              go_wp2_with (first
                | refine wpList_load_row rfl 26 (.tmp 6) rfl G rfl 26 (bcells ({ b with q := q5, ofr := b.ofr + 1, drp := b.drp + 1 }) (.slice (some ⟨gz, 0, none⟩) (b.q.length - 1 + 1) zc)) (0, 0) _ S11.out.new Tryd.underlying26 rfl (by kernel_rfl) ?_
                | refine wpList_store_rowTo rfl 26 (.tmp 4) _ rfl rfl (w.heap.size + 1 + 1) (bcells ({ b with q := q5, ofr := b.ofr + 1, drp := b.drp + 1 }) (.slice (some ⟨gz, 0, none⟩) (b.q.length - 1 + 1) zc)) rfl rfl 26 _ S11.out.three.res (by kernel_rfl) rfl (bcells_one _ _ _ _) ?_)
              have HX := off_end S11.out (bcells ({ b with q := q5, ofr := b.ofr + 1, drp := b.drp + 1 }) (.slice (some ⟨gz, 0, none⟩) (b.q.length - 1 + 1) zc))
              exact bodyPost_ret (results_row_tmp rfl _ _ _ _ _ _ _ rfl HX.1 Tryd.underlying26 rfl (by kernel_rfl)) rfl ⟨_, by rw [HE.out]; rfl, by rw [HE.out]; exact HX.2.1, HX.2.2⟩
            · skip
              have BA18 := Lib.hid (BA14.out.alloc (Nat.le_trans (Nat.le_of_eq HD.out.symm) BA14.out.size) (.cells #[.int .i64 m.1, .int .i64 m.2.1, .string m.2.2.1, .int .i64 m.2.2.2] 29))
              have FA18 := Lib.hid (Lone.new wa14 m)
              have EA18 := Lib.hid (row_below EA14.out ((Below.refl _ _).alloc (Nat.le_refl _) (.cells #[.int .i64 m.1, .int .i64 m.2.1, .string m.2.2.1, .int .i64 m.2.2.2] 29)))
              have NE : Hid (wa14.heap.size ≠ e) := Lib.hid (Nat.ne_of_gt (EA14.out.lt e rfl).2)
              rw [if_pos (by rfl)]
              go_simp
              refine hK.out _ _ ?_ (fun hHeld => ?_)
              · exact CELLS.out _ (OFF.out _ BA18.out).three
              clear hK K
              try simp only [Act.put, List.getElem_toArray, List.getElem_cons_succ, List.getElem_cons_zero, List.setIfInBounds_toArray, List.set_cons_zero, List.set_cons_succ]
              obtain ⟨f, hf⟩ : ∃ f, wa14.heap.size = f := ⟨_, rfl⟩
              rw [hf] at FA18 NE ⊢
              generalize wa14.alloc (.cells #[.int .i64 m.1, .int .i64 m.2.1, .string m.2.2.1, .int .i64 m.2.2.2] 29) = wa18 at BA18 FA18 EA18 hHeld ⊢
              clear hf
              refine wpAnyH_ready (rs := [4]) (by kernel_rfl) (by simp) (AllReadyH.cons rfl (fun K hK => ?_) AllReadyH.nil)
              rw [if_pos (by rfl)]
              refine wp_append_src (.tmp 90) (.tmp 93) 24 rfl D 29 ii (.agg #[.int .i64 0, .int .i64 0, .string ⟨#[]⟩, .int .i64 0]) 4 40 Tryd.underlying24 hi hz0 hz1 hz2 rfl (by decide) (.slice (some ⟨e, 0, none⟩) 0 0) (.slice (some ⟨gy, 0, none⟩) (b.q.length - 1) (1 - 1)) 0 (b.q.length - 1) [] (mcells (b.q.drop 1)) (by simp [Act.eval]) EA18.out (by simp [Act.eval]) (SRC.out _ BA18.out) HLD.out (mcells_one _) (by unfold maxLen; omega) (by omega) (Nat.le_trans (Nat.le_of_eq HD.out.symm) BA18.out.size) ?_; intro v9 wa19 hr9 hg9 _; rw [Nat.zero_add, List.nil_append] at hr9; obtain ⟨na, nc, hn9⟩ := own_slice hr9; subst hn9; have NA19 := Lib.hid hr9; have BA19 := Lib.hid (BA18.out.grown hg9 (Nat.le_trans (Nat.le_of_eq HD.out.symm) BA18.out.size) (fun i h => (EA18.out.lt i h).1)); have FA19 := Lib.hid (FA18.out.grown hg9 NE.out); clear hr9 hg9
              refine hK.out _ _ ?_ (fun hHeld => ?_)
              · exact CELLS.out _ (OFF.out _ BA19.out).three
              clear hK K
              try simp only [Act.put, List.getElem_toArray, List.getElem_cons_succ, List.getElem_cons_zero, List.setIfInBounds_toArray, List.set_cons_zero, List.set_cons_succ]
              refine wpAnyH_ready (rs := [7]) (by kernel_rfl) (by simp) (AllReadyH.cons rfl (fun K hK => ?_) AllReadyH.nil)
              rw [if_pos (by rfl)]
              refine wp_append_src (.tmp 94) (.tmp 96) 24 rfl D 29 ii (.agg #[.int .i64 0, .int .i64 0, .string ⟨#[]⟩, .int .i64 0]) 4 40 Tryd.underlying24 hi hz0 hz1 hz2 rfl (by decide) (.slice na (b.q.length - 1) nc) (.slice (some ⟨f, 0, none⟩) 1 1) (b.q.length - 1) 1 (mcells (b.q.drop 1)) (mcells [m]) (by simp [Act.eval]) NA19.out (by simp [Act.eval]) FA19.out.src rfl (mcells_one _) (by unfold maxLen; omega) (by omega) (Nat.le_trans (Nat.le_of_eq HD.out.symm) BA19.out.size) ?_; intro v10 w10 hr10 hg10 _; obtain ⟨gz, zc, hzv⟩ := Joins.ownsRow_form hr10 (by omega); subst hzv; have B10 := Lib.hid (BA19.out.grown hg10 (Nat.le_trans (Nat.le_of_eq HD.out.symm) BA19.out.size) (fun i h => (NA19.out.lt i h).1)); have N10 := Lib.hid hr10; clear hr10 hg10
              refine hK.out _ _ ?_ (fun hHeld => ?_)
              · exact CELLS.out _ (OFF.out _ B10.out).three
              clear hK K
              try simp only [Act.put, List.getElem_toArray, List.getElem_cons_succ, List.getElem_cons_zero, List.setIfInBounds_toArray, List.set_cons_zero, List.set_cons_succ]
              have S10 := Lib.hid (OFF.out _ B10.out)
              have y2 : w10.cell? ⟨G, 2, none⟩ = some (.slice (some ⟨gy, 0, none⟩) b.q.length 1) := cell_of_heap S10.out.new 2
              have f2 : w10.frozen? ⟨G, 2, none⟩ = false := frozen_of_row _ _ _ _ _ S10.out.new
              have S11 := Lib.hid (OffS.queue S10.out.three S10.out.new S10.out.since S10.out.far (u2 := (.slice (some ⟨gz, 0, none⟩) (b.q.length - 1 + 1) zc)) (q2 := q5) (by rw [← HQ5.out]; unfold MOwn; rw [List.length_append, List.length_drop, mcells_app]; exact own_mono N10.out HDB.out))
              refine wpAnyH_take (i := 8) (v := ?_) rfl (by kernel_rfl) (by kernel_rfl) (by kernel_rfl) (fun _ _ _ h => h) (Or.inl ⟨by rfl, ?_⟩) (by assumption) ?_
              rotate_left
              · intro w hSw; (try dsimp only at hSw); go_simp; try with_reducible rfl
              try simp only [Act.put, List.getElem_toArray, List.getElem_cons_succ, List.getElem_cons_zero, List.setIfInBounds_toArray, List.set_cons_zero, List.set_cons_succ]
              refine wpAnyH_ready (rs := [9]) (by kernel_rfl) (by simp) (AllReadyH.cons rfl (fun K hK => ?_) AllReadyH.nil)
              rw [if_pos (by rfl)]
              go_simp
              refine hK.out _ _ ?_ (fun hHeld => ?_)
              · exact CELLS.out _ S11.out.three
              clear hK K
              try simp only [Act.put, List.getElem_toArray, List.getElem_cons_succ, List.getElem_cons_zero, List.setIfInBounds_toArray, List.set_cons_zero, List.set_cons_succ]
              refine wpAnyH_done (by kernel_rfl) ?_ _
              clear hHeld y2 f2 S10 N10 B10
              generalize w10.setCell ⟨G, 2, none⟩ (.slice (some ⟨gz, 0, none⟩) (b.q.length - 1 + 1) zc) = w11 at S11 ⊢
              go_wp2_with (first
                | refine wpList_load_row rfl 26 (.tmp 6) rfl G rfl 26 (bcells ({ b with q := q5, ofr := b.ofr + 1, drp := b.drp + 1 }) (.slice (some ⟨gz, 0, none⟩) (b.q.length - 1 + 1) zc)) (0, 0) _ S11.out.new Tryd.underlying26 rfl (by kernel_rfl) ?_
                | refine wpList_store_rowTo rfl 26 (.tmp 4) _ rfl rfl (w.heap.size + 1 + 1) (bcells ({ b with q := q5, ofr := b.ofr + 1, drp := b.drp + 1 }) (.slice (some ⟨gz, 0, none⟩) (b.q.length - 1 + 1) zc)) rfl rfl 26 _ S11.out.three.res (by kernel_rfl) rfl (bcells_one _ _ _ _) ?_)
              have HX := off_end S11.out (bcells ({ b with q := q5, ofr := b.ofr + 1, drp := b.drp + 1 }) (.slice (some ⟨gz, 0, none⟩) (b.q.length - 1 + 1) zc))
              exact bodyPost_ret (results_row_tmp rfl _ _ _ _ _ _ _ rfl HX.1 Tryd.underlying26 rfl (by kernel_rfl)) rfl ⟨_, by rw [HE.out]; rfl, by rw [HE.out]; exact HX.2.1, HX.2.2⟩
          · skip
            have BA21 := Lib.hid (B0.out.alloc (Nat.le_trans (Nat.le_of_eq HD.out.symm) B0.out.size) (.cells #[.int .i64 m.1, .int .i64 m.2.1, .string m.2.2.1, .int .i64 m.2.2.2] 29))
            have FA21 := Lib.hid (Lone.new wd m)
            rw [if_pos (by rfl)]
            go_simp
            refine hK.out _ _ ?_ (fun hHeld => ?_)
            · exact CELLS.out _ (OFF.out _ BA21.out).three
            clear hK K
            try simp only [Act.put, List.getElem_toArray, List.getElem_cons_succ, List.getElem_cons_zero, List.setIfInBounds_toArray, List.set_cons_zero, List.set_cons_succ]
            obtain ⟨f, hf⟩ : ∃ f, wd.heap.size = f := ⟨_, rfl⟩
            rw [hf] at FA21 ⊢
            generalize wd.alloc (.cells #[.int .i64 m.1, .int .i64 m.2.1, .string m.2.2.1, .int .i64 m.2.2.2] 29) = wa21 at BA21 FA21 hHeld ⊢
            clear hf
            refine wpAnyH_ready (rs := [0]) (by kernel_rfl) (by simp) (AllReadyH.cons rfl (fun K hK => ?_) AllReadyH.nil)
            have BA22 := Lib.hid (BA21.out.alloc (Nat.le_trans (Nat.le_of_eq HD.out.symm) BA21.out.size) (.cells #[] 29))
            have EA22 := Lib.hid (lit_own (wx := wa21) (Nat.le_trans (Nat.le_of_eq HD.out.symm) BA21.out.size))
            have FA22 := Lib.hid (FA21.out.below ((Below.refl _ _).alloc (Nat.le_refl _) (.cells #[] 29)))
            have NE : Hid (f ≠ wa21.heap.size) := Lib.hid (Nat.ne_of_lt FA21.out.lt)
            rw [if_pos (by rfl)]
            go_simp
            refine hK.out _ _ ?_ (fun hHeld => ?_)
            · exact CELLS.out _ (OFF.out _ BA22.out).three
            clear hK K
            try simp only [Act.put, List.getElem_toArray, List.getElem_cons_succ, List.getElem_cons_zero, List.setIfInBounds_toArray, List.set_cons_zero, List.set_cons_succ]
            obtain ⟨e, he⟩ : ∃ e, wa21.heap.size = e := ⟨_, rfl⟩
            rw [he] at EA22 NE ⊢
            generalize wa21.alloc (.cells #[] 29) = wa22 at BA22 EA22 FA22 hHeld ⊢
            clear he BA21 FA21
            refine wpAnyH_ready (rs := [4]) (by kernel_rfl) (by simp) (AllReadyH.cons rfl (fun K hK => ?_) AllReadyH.nil)
            rw [if_pos (by rfl)]
            refine wp_append_src (.tmp 90) (.tmp 93) 24 rfl D 29 ii (.agg #[.int .i64 0, .int .i64 0, .string ⟨#[]⟩, .int .i64 0]) 4 40 Tryd.underlying24 hi hz0 hz1 hz2 rfl (by decide) (.slice (some ⟨e, 0, none⟩) 0 0) (.slice (some ⟨gy, 0, none⟩) (b.q.length - 1) (1 - 1)) 0 (b.q.length - 1) [] (mcells (b.q.drop 1)) (by simp [Act.eval]) EA22.out (by simp [Act.eval]) (SRC.out _ BA22.out) HLD.out (mcells_one _) (by unfold maxLen; omega) (by omega) (Nat.le_trans (Nat.le_of_eq HD.out.symm) BA22.out.size) ?_; intro v9 wa23 hr9 hg9 _; rw [Nat.zero_add, List.nil_append] at hr9; obtain ⟨na, nc, hn9⟩ := own_slice hr9; subst hn9; have NA23 := Lib.hid hr9; have BA23 := Lib.hid (BA22.out.grown hg9 (Nat.le_trans (Nat.le_of_eq HD.out.symm) BA22.out.size) (fun i h => (EA22.out.lt i h).1)); have FA23 := Lib.hid (FA22.out.grown hg9 NE.out); clear hr9 hg9
            refine hK.out _ _ ?_ (fun hHeld => ?_)
            · exact CELLS.out _ (OFF.out _ BA23.out).three
            clear hK K
            try simp only [Act.put, List.getElem_toArray, List.getElem_cons_succ, List.getElem_cons_zero, List.setIfInBounds_toArray, List.set_cons_zero, List.set_cons_succ]
            refine wpAnyH_ready (rs := [7]) (by kernel_rfl) (by simp) (AllReadyH.cons rfl (fun K hK => ?_) AllReadyH.nil)
            rw [if_pos (by rfl)]
            refine wp_append_src (.tmp 94) (.tmp 96) 24 rfl D 29 ii (.agg #[.int .i64 0, .int .i64 0, .string ⟨#[]⟩, .int .i64 0]) 4 40 Tryd.underlying24 hi hz0 hz1 hz2 rfl (by decide) (.slice na (b.q.length - 1) nc) (.slice (some ⟨f, 0, none⟩) 1 1) (b.q.length - 1) 1 (mcells (b.q.drop 1)) (mcells [m]) (by simp [Act.eval]) NA23.out (by simp [Act.eval]) FA23.out.src rfl (mcells_one _) (by unfold maxLen; omega) (by omega) (Nat.le_trans (Nat.le_of_eq HD.out.symm) BA23.out.size) ?_; intro v10 w10 hr10 hg10 _; obtain ⟨gz, zc, hzv⟩ := Joins.ownsRow_form hr10 (by omega); subst hzv; have B10 := Lib.hid (BA23.out.grown hg10 (Nat.le_trans (Nat.le_of_eq HD.out.symm) BA23.out.size) (fun i h => (NA23.out.lt i h).1)); have N10 := Lib.hid hr10; clear hr10 hg10
            refine hK.out _ _ ?_ (fun hHeld => ?_)
            · exact CELLS.out _ (OFF.out _ B10.out).three
            clear hK K
            try simp only [Act.put, List.getElem_toArray, List.getElem_cons_succ, List.getElem_cons_zero, List.setIfInBounds_toArray, List.set_cons_zero, List.set_cons_succ]
            have S10 := Lib.hid (OFF.out _ B10.out)
            have y2 : w10.cell? ⟨G, 2, none⟩ = some (.slice (some ⟨gy, 0, none⟩) b.q.length 1) := cell_of_heap S10.out.new 2
            have f2 : w10.frozen? ⟨G, 2, none⟩ = false := frozen_of_row _ _ _ _ _ S10.out.new
            have S11 := Lib.hid (OffS.queue S10.out.three S10.out.new S10.out.since S10.out.far (u2 := (.slice (some ⟨gz, 0, none⟩) (b.q.length - 1 + 1) zc)) (q2 := q5) (by rw [← HQ5.out]; unfold MOwn; rw [List.length_append, List.length_drop, mcells_app]; exact own_mono N10.out HDB.out))
            refine wpAnyH_take (i := 8) (v := ?_) rfl (by kernel_rfl) (by kernel_rfl) (by kernel_rfl) (fun _ _ _ h => h) (Or.inl ⟨by rfl, ?_⟩) (by assumption) ?_
            rotate_left
            · intro w hSw; (try dsimp only at hSw); go_simp; try with_reducible rfl
            try simp only [Act.put, List.getElem_toArray, List.getElem_cons_succ, List.getElem_cons_zero, List.setIfInBounds_toArray, List.set_cons_zero, List.set_cons_succ]
            refine wpAnyH_ready (rs := [9]) (by kernel_rfl) (by simp) (AllReadyH.cons rfl (fun K hK => ?_) AllReadyH.nil)
            rw [if_pos (by rfl)]
            go_simp
            refine hK.out _ _ ?_ (fun hHeld => ?_)
            · exact CELLS.out _ S11.out.three
            clear hK K
            try simp only [Act.put, List.getElem_toArray, List.getElem_cons_succ, List.getElem_cons_zero, List.setIfInBounds_toArray, List.set_cons_zero, List.set_cons_succ]
            refine wpAnyH_done (by kernel_rfl) ?_ _
            clear hHeld y2 f2 S10 N10 B10
            generalize w10.setCell ⟨G, 2, none⟩ (.slice (some ⟨gz, 0, none⟩) (b.q.length - 1 + 1) zc) = w11 at S11 ⊢
            go_wp2_with (first
              | refine wpList_load_row rfl 26 (.tmp 6) rfl G rfl 26 (bcells ({ b with q := q5, ofr := b.ofr + 1, drp := b.drp + 1 }) (.slice (some ⟨gz, 0, none⟩) (b.q.length - 1 + 1) zc)) (0, 0) _ S11.out.new Tryd.underlying26 rfl (by kernel_rfl) ?_
              | refine wpList_store_rowTo rfl 26 (.tmp 4) _ rfl rfl (w.heap.size + 1 + 1) (bcells ({ b with q := q5, ofr := b.ofr + 1, drp := b.drp + 1 }) (.slice (some ⟨gz, 0, none⟩) (b.q.length - 1 + 1) zc)) rfl rfl 26 _ S11.out.three.res (by kernel_rfl) rfl (bcells_one _ _ _ _) ?_)
            have HX := off_end S11.out (bcells ({ b with q := q5, ofr := b.ofr + 1, drp := b.drp + 1 }) (.slice (some ⟨gz, 0, none⟩) (b.q.length - 1 + 1) zc))
            exact bodyPost_ret (results_row_tmp rfl _ _ _ _ _ _ _ rfl HX.1 Tryd.underlying26 rfl (by kernel_rfl)) rfl ⟨_, by rw [HE.out]; rfl, by rw [HE.out]; exact HX.2.1, HX.2.2⟩
        · skip
          have BA25 := Lib.hid (B0.out.alloc (Nat.le_trans (Nat.le_of_eq HD.out.symm) B0.out.size) (.cells #[.int .i64 m.1, .int .i64 m.2.1, .string m.2.2.1, .int .i64 m.2.2.2] 29))
          have FA25 := Lib.hid (Lone.new wd m)
          rw [if_pos (by rfl)]
          go_simp
          refine hK.out _ _ ?_ (fun hHeld => ?_)
          · exact CELLS.out _ (OFF.out _ BA25.out).three
          clear hK K
          try simp only [Act.put, List.getElem_toArray, List.getElem_cons_succ, List.getElem_cons_zero, List.setIfInBounds_toArray, List.set_cons_zero, List.set_cons_succ]
          obtain ⟨f, hf⟩ : ∃ f, wd.heap.size = f := ⟨_, rfl⟩
          rw [hf] at FA25 ⊢
          generalize wd.alloc (.cells #[.int .i64 m.1, .int .i64 m.2.1, .string m.2.2.1, .int .i64 m.2.2.2] 29) = wa25 at BA25 FA25 hHeld ⊢
          clear hf
          refine wpAnyH_ready (rs := [0, 2]) (by kernel_rfl) (by simp) (AllReadyH.cons rfl (fun K hK => ?_) (AllReadyH.cons rfl (fun K hK => ?_) AllReadyH.nil))
          · skip
            have BA26 := Lib.hid (BA25.out.alloc (Nat.le_trans (Nat.le_of_eq HD.out.symm) BA25.out.size) (.cells #[] 29))
            have EA26 := Lib.hid (lit_own (wx := wa25) (Nat.le_trans (Nat.le_of_eq HD.out.symm) BA25.out.size))
            have FA26 := Lib.hid (FA25.out.below ((Below.refl _ _).alloc (Nat.le_refl _) (.cells #[] 29)))
            have NE : Hid (f ≠ wa25.heap.size) := Lib.hid (Nat.ne_of_lt FA25.out.lt)
            rw [if_pos (by rfl)]
            go_simp
            refine hK.out _ _ ?_ (fun hHeld => ?_)
            · exact CELLS.out _ (OFF.out _ BA26.out).three
            clear hK K
            try simp only [Act.put, List.getElem_toArray, List.getElem_cons_succ, List.getElem_cons_zero, List.setIfInBounds_toArray, List.set_cons_zero, List.set_cons_succ]
            obtain ⟨e, he⟩ : ∃ e, wa25.heap.size = e := ⟨_, rfl⟩
            rw [he] at EA26 NE ⊢
            generalize wa25.alloc (.cells #[] 29) = wa26 at BA26 EA26 FA26 hHeld ⊢
            clear he BA25 FA25
            refine wpAnyH_ready (rs := [2]) (by kernel_rfl) (by simp) (AllReadyH.cons rfl (fun K hK => ?_) AllReadyH.nil)
            have y2 : wa26.cell? ⟨G, 2, none⟩ = some (.slice (some ⟨gy, 0, none⟩) b.q.length 1) := cell_of_heap (OFF.out _ BA26.out).new 2
            rw [if_pos (by rfl)]
            go_simp
            refine hK.out _ _ ?_ (fun hHeld => ?_)
            · exact CELLS.out _ (OFF.out _ BA26.out).three
            clear hK K
            try simp only [Act.put, List.getElem_toArray, List.getElem_cons_succ, List.getElem_cons_zero, List.setIfInBounds_toArray, List.set_cons_zero, List.set_cons_succ]
            clear y2
            refine wpAnyH_take (i := 3) (v := ?_) rfl (by kernel_rfl) (by kernel_rfl) (by kernel_rfl) (fun _ _ _ h => h) (Or.inl ⟨by rfl, ?_⟩) (by assumption) ?_
            rotate_left
            · intro w hSw; (try dsimp only at hSw); go_simp; try with_reducible rfl
            try simp only [Act.put, List.getElem_toArray, List.getElem_cons_succ, List.getElem_cons_zero, List.setIfInBounds_toArray, List.set_cons_zero, List.set_cons_succ]
            refine wpAnyH_ready (rs := [4]) (by kernel_rfl) (by simp) (AllReadyH.cons rfl (fun K hK => ?_) AllReadyH.nil)
            rw [if_pos (by rfl)]
            refine wp_append_src (.tmp 90) (.tmp 93) 24 rfl D 29 ii (.agg #[.int .i64 0, .int .i64 0, .string ⟨#[]⟩, .int .i64 0]) 4 40 Tryd.underlying24 hi hz0 hz1 hz2 rfl (by decide) (.slice (some ⟨e, 0, none⟩) 0 0) (.slice (some ⟨gy, 0, none⟩) (b.q.length - 1) (1 - 1)) 0 (b.q.length - 1) [] (mcells (b.q.drop 1)) (by simp [Act.eval]) EA26.out (by simp [Act.eval]) (SRC.out _ BA26.out) HLD.out (mcells_one _) (by unfold maxLen; omega) (by omega) (Nat.le_trans (Nat.le_of_eq HD.out.symm) BA26.out.size) ?_; intro v9 wa28 hr9 hg9 _; rw [Nat.zero_add, List.nil_append] at hr9; obtain ⟨na, nc, hn9⟩ := own_slice hr9; subst hn9; have NA28 := Lib.hid hr9; have BA28 := Lib.hid (BA26.out.grown hg9 (Nat.le_trans (Nat.le_of_eq HD.out.symm) BA26.out.size) (fun i h => (EA26.out.lt i h).1)); have FA28 := Lib.hid (FA26.out.grown hg9 NE.out); clear hr9 hg9
            refine hK.out _ _ ?_ (fun hHeld => ?_)
            · exact CELLS.out _ (OFF.out _ BA28.out).three
            clear hK K
            try simp only [Act.put, List.getElem_toArray, List.getElem_cons_succ, List.getElem_cons_zero, List.setIfInBounds_toArray, List.set_cons_zero, List.set_cons_succ]
            refine wpAnyH_ready (rs := [7]) (by kernel_rfl) (by simp) (AllReadyH.cons rfl (fun K hK => ?_) AllReadyH.nil)
            rw [if_pos (by rfl)]
            refine wp_append_src (.tmp 94) (.tmp 96) 24 rfl D 29 ii (.agg #[.int .i64 0, .int .i64 0, .string ⟨#[]⟩, .int .i64 0]) 4 40 Tryd.underlying24 hi hz0 hz1 hz2 rfl (by decide) (.slice na (b.q.length - 1) nc) (.slice (some ⟨f, 0, none⟩) 1 1) (b.q.length - 1) 1 (mcells (b.q.drop 1)) (mcells [m]) (by simp [Act.eval]) NA28.out (by simp [Act.eval]) FA28.out.src rfl (mcells_one _) (by unfold maxLen; omega) (by omega) (Nat.le_trans (Nat.le_of_eq HD.out.symm) BA28.out.size) ?_; intro v10 w10 hr10 hg10 _; obtain ⟨gz, zc, hzv⟩ := Joins.ownsRow_form hr10 (by omega); subst hzv; have B10 := Lib.hid (BA28.out.grown hg10 (Nat.le_trans (Nat.le_of_eq HD.out.symm) BA28.out.size) (fun i h => (NA28.out.lt i h).1)); have N10 := Lib.hid hr10; clear hr10 hg10
            refine hK.out _ _ ?_ (fun hHeld => ?_)
            · exact CELLS.out _ (OFF.out _ B10.out).three
            clear hK K
            try simp only [Act.put, List.getElem_toArray, List.getElem_cons_succ, List.getElem_cons_zero, List.setIfInBounds_toArray, List.set_cons_zero, List.set_cons_succ]
            have S10 := Lib.hid (OFF.out _ B10.out)
            have y2 : w10.cell? ⟨G, 2, none⟩ = some (.slice (some ⟨gy, 0, none⟩) b.q.length 1) := cell_of_heap S10.out.new 2
            have f2 : w10.frozen? ⟨G, 2, none⟩ = false := frozen_of_row _ _ _ _ _ S10.out.new
            have S11 := Lib.hid (OffS.queue S10.out.three S10.out.new S10.out.since S10.out.far (u2 := (.slice (some ⟨gz, 0, none⟩) (b.q.length - 1 + 1) zc)) (q2 := q5) (by rw [← HQ5.out]; unfold MOwn; rw [List.length_append, List.length_drop, mcells_app]; exact own_mono N10.out HDB.out))
            refine wpAnyH_take (i := 8) (v := ?_) rfl (by kernel_rfl) (by kernel_rfl) (by kernel_rfl) (fun _ _ _ h => h) (Or.inl ⟨by rfl, ?_⟩) (by assumption) ?_
            rotate_left
            · intro w hSw; (try dsimp only at hSw); go_simp; try with_reducible rfl
            try simp only [Act.put, List.getElem_toArray, List.getElem_cons_succ, List.getElem_cons_zero, List.setIfInBounds_toArray, List.set_cons_zero, List.set_cons_succ]
            refine wpAnyH_ready (rs := [9]) (by kernel_rfl) (by simp) (AllReadyH.cons rfl (fun K hK => ?_) AllReadyH.nil)
            rw [if_pos (by rfl)]
            go_simp
            refine hK.out _ _ ?_ (fun hHeld => ?_)
            · exact CELLS.out _ S11.out.three
            clear hK K
            try simp only [Act.put, List.getElem_toArray, List.getElem_cons_succ, List.getElem_cons_zero, List.setIfInBounds_toArray, List.set_cons_zero, List.set_cons_succ]
            refine wpAnyH_done (by kernel_rfl) ?_ _
            clear hHeld y2 f2 S10 N10 B10
            generalize w10.setCell ⟨G, 2, none⟩ (.slice (some ⟨gz, 0, none⟩) (b.q.length - 1 + 1) zc) = w11 at S11 ⊢
            go_wp2_with (first
              | refine wpList_load_row rfl 26 (.tmp 6) rfl G rfl 26 (bcells ({ b with q := q5, ofr := b.ofr + 1, drp := b.drp + 1 }) (.slice (some ⟨gz, 0, none⟩) (b.q.length - 1 + 1) zc)) (0, 0) _ S11.out.new Tryd.underlying26 rfl (by kernel_rfl) ?_
              | refine wpList_store_rowTo rfl 26 (.tmp 4) _ rfl rfl (w.heap.size + 1 + 1) (bcells ({ b with q := q5, ofr := b.ofr + 1, drp := b.drp + 1 }) (.slice (some ⟨gz, 0, none⟩) (b.q.length - 1 + 1) zc)) rfl rfl 26 _ S11.out.three.res (by kernel_rfl) rfl (bcells_one _ _ _ _) ?_)
            have HX := off_end S11.out (bcells ({ b with q := q5, ofr := b.ofr + 1, drp := b.drp + 1 }) (.slice (some ⟨gz, 0, none⟩) (b.q.length - 1 + 1) zc))
            exact bodyPost_ret (results_row_tmp rfl _ _ _ _ _ _ _ rfl HX.1 Tryd.underlying26 rfl (by kernel_rfl)) rfl ⟨_, by rw [HE.out]; rfl, by rw [HE.out]; exact HX.2.1, HX.2.2⟩
          · skip
            have y2 : wa25.cell? ⟨G, 2, none⟩ = some (.slice (some ⟨gy, 0, none⟩) b.q.length 1) := cell_of_heap (OFF.out _ BA25.out).new 2
            rw [if_pos (by rfl)]
            go_simp
            refine hK.out _ _ ?_ (fun hHeld => ?_)
            · exact CELLS.out _ (OFF.out _ BA25.out).three
            clear hK K
            try simp only [Act.put, List.getElem_toArray, List.getElem_cons_succ, List.getElem_cons_zero, List.setIfInBounds_toArray, List.set_cons_zero, List.set_cons_succ]
            clear y2
            refine wpAnyH_take (i := 3) (v := ?_) rfl (by kernel_rfl) (by kernel_rfl) (by kernel_rfl) (fun _ _ _ h => h) (Or.inl ⟨by rfl, ?_⟩) (by assumption) ?_
            rotate_left
            · intro w hSw; (try dsimp only at hSw); go_simp; try with_reducible rfl
            try simp only [Act.put, List.getElem_toArray, List.getElem_cons_succ, List.getElem_cons_zero, List.setIfInBounds_toArray, List.set_cons_zero, List.set_cons_succ]
            refine wpAnyH_ready (rs := [0]) (by kernel_rfl) (by simp) (AllReadyH.cons rfl (fun K hK => ?_) AllReadyH.nil)
            have BA31 := Lib.hid (BA25.out.alloc (Nat.le_trans (Nat.le_of_eq HD.out.symm) BA25.out.size) (.cells #[] 29))
            have EA31 := Lib.hid (lit_own (wx := wa25) (Nat.le_trans (Nat.le_of_eq HD.out.symm) BA25.out.size))
            have FA31 := Lib.hid (FA25.out.below ((Below.refl _ _).alloc (Nat.le_refl _) (.cells #[] 29)))
            have NE : Hid (f ≠ wa25.heap.size) := Lib.hid (Nat.ne_of_lt FA25.out.lt)
            rw [if_pos (by rfl)]
            go_simp
            refine hK.out _ _ ?_ (fun hHeld => ?_)
            · exact CELLS.out _ (OFF.out _ BA31.out).three
            clear hK K
            try simp only [Act.put, List.getElem_toArray, List.getElem_cons_succ, List.getElem_cons_zero, List.setIfInBounds_toArray, List.set_cons_zero, List.set_cons_succ]
            obtain ⟨e, he⟩ : ∃ e, wa25.heap.size = e := ⟨_, rfl⟩
            rw [he] at EA31 NE ⊢
            generalize wa25.alloc (.cells #[] 29) = wa31 at BA31 EA31 FA31 hHeld ⊢
            clear he BA25 FA25
            refine wpAnyH_ready (rs := [4]) (by kernel_rfl) (by simp) (AllReadyH.cons rfl (fun K hK => ?_) AllReadyH.nil)
            rw [if_pos (by rfl)]
            refine wp_append_src (.tmp 90) (.tmp 93) 24 rfl D 29 ii (.agg #[.int .i64 0, .int .i64 0, .string ⟨#[]⟩, .int .i64 0]) 4 40 Tryd.underlying24 hi hz0 hz1 hz2 rfl (by decide) (.slice (some ⟨e, 0, none⟩) 0 0) (.slice (some ⟨gy, 0, none⟩) (b.q.length - 1) (1 - 1)) 0 (b.q.length - 1) [] (mcells (b.q.drop 1)) (by simp [Act.eval]) EA31.out (by simp [Act.eval]) (SRC.out _ BA31.out) HLD.out (mcells_one _) (by unfold maxLen; omega) (by omega) (Nat.le_trans (Nat.le_of_eq HD.out.symm) BA31.out.size) ?_; intro v9 wa32 hr9 hg9 _; rw [Nat.zero_add, List.nil_append] at hr9; obtain ⟨na, nc, hn9⟩ := own_slice hr9; subst hn9; have NA32 := Lib.hid hr9; have BA32 := Lib.hid (BA31.out.grown hg9 (Nat.le_trans (Nat.le_of_eq HD.out.symm) BA31.out.size) (fun i h => (EA31.out.lt i h).1)); have FA32 := Lib.hid (FA31.out.grown hg9 NE.out); clear hr9 hg9
            refine hK.out _ _ ?_ (fun hHeld => ?_)
            · exact CELLS.out _ (OFF.out _ BA32.out).three
            clear hK K
            try simp only [Act.put, List.getElem_toArray, List.getElem_cons_succ, List.getElem_cons_zero, List.setIfInBounds_toArray, List.set_cons_zero, List.set_cons_succ]
            refine wpAnyH_ready (rs := [7]) (by kernel_rfl) (by simp) (AllReadyH.cons rfl (fun K hK => ?_) AllReadyH.nil)
            rw [if_pos (by rfl)]
            refine wp_append_src (.tmp 94) (.tmp 96) 24 rfl D 29 ii (.agg #[.int .i64 0, .int .i64 0, .string ⟨#[]⟩, .int .i64 0]) 4 40 Tryd.underlying24 hi hz0 hz1 hz2 rfl (by decide) (.slice na (b.q.length - 1) nc) (.slice (some ⟨f, 0, none⟩) 1 1) (b.q.length - 1) 1 (mcells (b.q.drop 1)) (mcells [m]) (by simp [Act.eval]) NA32.out (by simp [Act.eval]) FA32.out.src rfl (mcells_one _) (by unfold maxLen; omega) (by omega) (Nat.le_trans (Nat.le_of_eq HD.out.symm) BA32.out.size) ?_; intro v10 w10 hr10 hg10 _; obtain ⟨gz, zc, hzv⟩ := Joins.ownsRow_form hr10 (by omega); subst hzv; have B10 := Lib.hid (BA32.out.grown hg10 (Nat.le_trans (Nat.le_of_eq HD.out.symm) BA32.out.size) (fun i h => (NA32.out.lt i h).1)); have N10 := Lib.hid hr10; clear hr10 hg10
            refine hK.out _ _ ?_ (fun hHeld => ?_)
            · exact CELLS.out _ (OFF.out _ B10.out).three
            clear hK K
            try simp only [Act.put, List.getElem_toArray, List.getElem_cons_succ, List.getElem_cons_zero, List.setIfInBounds_toArray, List.set_cons_zero, List.set_cons_succ]
            have S10 := Lib.hid (OFF.out _ B10.out)
            have y2 : w10.cell? ⟨G, 2, none⟩ = some (.slice (some ⟨gy, 0, none⟩) b.q.length 1) := cell_of_heap S10.out.new 2
            have f2 : w10.frozen? ⟨G, 2, none⟩ = false := frozen_of_row _ _ _ _ _ S10.out.new
            have S11 := Lib.hid (OffS.queue S10.out.three S10.out.new S10.out.since S10.out.far (u2 := (.slice (some ⟨gz, 0, none⟩) (b.q.length - 1 + 1) zc)) (q2 := q5) (by rw [← HQ5.out]; unfold MOwn; rw [List.length_append, List.length_drop, mcells_app]; exact own_mono N10.out HDB.out))
            refine wpAnyH_take (i := 8) (v := ?_) rfl (by kernel_rfl) (by kernel_rfl) (by kernel_rfl) (fun _ _ _ h => h) (Or.inl ⟨by rfl, ?_⟩) (by assumption) ?_
            rotate_left
            · intro w hSw; (try dsimp only at hSw); go_simp; try with_reducible rfl
            try simp only [Act.put, List.getElem_toArray, List.getElem_cons_succ, List.getElem_cons_zero, List.setIfInBounds_toArray, List.set_cons_zero, List.set_cons_succ]
            refine wpAnyH_ready (rs := [9]) (by kernel_rfl) (by simp) (AllReadyH.cons rfl (fun K hK => ?_) AllReadyH.nil)
            rw [if_pos (by rfl)]
            go_simp
            refine hK.out _ _ ?_ (fun hHeld => ?_)
            · exact CELLS.out _ S11.out.three
            clear hK K
            try simp only [Act.put, List.getElem_toArray, List.getElem_cons_succ, List.getElem_cons_zero, List.setIfInBounds_toArray, List.set_cons_zero, List.set_cons_succ]
            refine wpAnyH_done (by kernel_rfl) ?_ _
            clear hHeld y2 f2 S10 N10 B10
            generalize w10.setCell ⟨G, 2, none⟩ (.slice (some ⟨gz, 0, none⟩) (b.q.length - 1 + 1) zc) = w11 at S11 ⊢
            go_wp2_with (first
              | refine wpList_load_row rfl 26 (.tmp 6) rfl G rfl 26 (bcells ({ b with q := q5, ofr := b.ofr + 1, drp := b.drp + 1 }) (.slice (some ⟨gz, 0, none⟩) (b.q.length - 1 + 1) zc)) (0, 0) _ S11.out.new Tryd.underlying26 rfl (by kernel_rfl) ?_
              | refine wpList_store_rowTo rfl 26 (.tmp 4) _ rfl rfl (w.heap.size + 1 + 1) (bcells ({ b with q := q5, ofr := b.ofr + 1, drp := b.drp + 1 }) (.slice (some ⟨gz, 0, none⟩) (b.q.length - 1 + 1) zc)) rfl rfl 26 _ S11.out.three.res (by kernel_rfl) rfl (bcells_one _ _ _ _) ?_)
            have HX := off_end S11.out (bcells ({ b with q := q5, ofr := b.ofr + 1, drp := b.drp + 1 }) (.slice (some ⟨gz, 0, none⟩) (b.q.length - 1 + 1) zc))
            exact bodyPost_ret (results_row_tmp rfl _ _ _ _ _ _ _ rfl HX.1 Tryd.underlying26 rfl (by kernel_rfl)) rfl ⟨_, by rw [HE.out]; rfl, by rw [HE.out]; exact HX.2.1, HX.2.2⟩
      have S7d := Lib.hid (S7.below (Below.refl _ _).drew)
      have CELLS : Hid (∀ wx, Off3 wx w.heap.size b (.slice ua b.q.length uc) m → wx.cell? ⟨w.heap.size + 1, 0, none⟩ = some (.int .i64 m.1) ∧ wx.cell? ⟨w.heap.size + 1, 1, none⟩ = some (.int .i64 m.2.1) ∧ wx.cell? ⟨w.heap.size + 1, 2, none⟩ = some (.string m.2.2.1) ∧ wx.cell? ⟨w.heap.size + 1, 3, none⟩ = some (.int .i64 m.2.2.2)) := Lib.hid (fun wx h => ⟨cell_of_heap h.msg 0, cell_of_heap h.msg 1, cell_of_heap h.msg 2, cell_of_heap h.msg 3⟩)
      have C0 := CELLS.out _ S7d.out.three
      clear S7
      refine wp_region_held_drew (S := fun wx => wx.cell? ⟨w.heap.size + 1, 0, none⟩ = some (.int .i64 m.1) ∧ wx.cell? ⟨w.heap.size + 1, 1, none⟩ = some (.int .i64 m.2.1) ∧ wx.cell? ⟨w.heap.size + 1, 2, none⟩ = some (.string m.2.2.1) ∧ wx.cell? ⟨w.heap.size + 1, 3, none⟩ = some (.int .i64 m.2.2.2)) (by kernel_rfl) ?_ (fun hHeld => ?_)
      · exact C0
      change wpAnyH _ _ _ _ _ 10 #[false, false, false, false, false, false, false, false, false, false] _ _
      clear C0
      generalize w7.drew = wd at S7d hHeld ⊢
      obtain ⟨D, hD⟩ : ∃ D, wd.heap.size = D := ⟨_, rfl⟩
      have HD := Lib.hid hD
      have OFF : Hid (∀ wx, Below D wd wx → OffS w wx G b (.slice ua b.q.length uc) m { b with ofr := b.ofr + 1, drp := b.drp + 1 } (.slice (some ⟨gy, 0, none⟩) b.q.length xc)) := Lib.hid (fun wx h => S7d.out.below (by rw [hD]; exact h))
      have HDB : Hid (w.heap.size + 1 + 1 + 1 ≤ D) := Lib.hid (by have h1 := S7d.out.far; have h2 := S7d.out.ltG; omega)
      have SRC : Hid (∀ wx, Below D wd wx → SrcAt wx (.slice (some ⟨gy, 4, none⟩) (b.q.length - 1) (xc - 1)) (b.q.length - 1) (mcells (b.q.drop 1))) := Lib.hid (fun wx hx => (tail_src S7d.out.row (xc - 1)).below (by rw [hD]; exact hx))
      have HLD : Hid ((mcells (b.q.drop 1)).length = (b.q.length - 1) * 4) := Lib.hid (by rw [mcells_length, List.length_drop])
      have B0 := Lib.hid (Below.refl D wd)
      clear hD S7d
      have hq2 : (1 : Int) ≤ (b.q.length : Int) := by omega
      refine wpAnyH_take (i := 1) (v := ?_) rfl (by kernel_rfl) (by kernel_rfl) (by kernel_rfl) (fun _ _ _ h => h) (Or.inl ⟨by rfl, ?_⟩) (by assumption) ?_
      rotate_left
      · intro w hSw; (try dsimp only at hSw); go_simp; try with_reducible rfl
      try simp only [Act.put, List.getElem_toArray, List.getElem_cons_succ, List.getElem_cons_zero, List.setIfInBounds_toArray, List.set_cons_zero, List.set_cons_succ]
      refine wpAnyH_take (i := 5) (v := ?_) rfl (by kernel_rfl) (by kernel_rfl) (by kernel_rfl) (fun _ _ _ h => h) (Or.inl ⟨by rfl, ?_⟩) (by assumption) ?_
      rotate_left
      · intro w hSw; (try dsimp only at hSw); go_simp; try with_reducible rfl
      try simp only [Act.put, List.getElem_toArray, List.getElem_cons_succ, List.getElem_cons_zero, List.setIfInBounds_toArray, List.set_cons_zero, List.set_cons_succ]
      refine wpAnyH_ready (rs := [0, 2, 6]) (by kernel_rfl) (by simp) (AllReadyH.cons rfl (fun K hK => ?_) (AllReadyH.cons rfl (fun K hK => ?_) (AllReadyH.cons rfl (fun K hK => ?_) AllReadyH.nil)))
      · skip
        have BA34 := Lib.hid (B0.out.alloc (Nat.le_trans (Nat.le_of_eq HD.out.symm) B0.out.size) (.cells #[] 29))
        have EA34 := Lib.hid (lit_own (wx := wd) (Nat.le_trans (Nat.le_of_eq HD.out.symm) B0.out.size))
        rw [if_pos (by rfl)]
        go_simp
        refine hK.out _ _ ?_ (fun hHeld => ?_)
        · exact CELLS.out _ (OFF.out _ BA34.out).three
        clear hK K
        try simp only [Act.put, List.getElem_toArray, List.getElem_cons_succ, List.getElem_cons_zero, List.setIfInBounds_toArray, List.set_cons_zero, List.set_cons_succ]
        obtain ⟨e, he⟩ : ∃ e, wd.heap.size = e := ⟨_, rfl⟩
        rw [he] at EA34 ⊢
        generalize wd.alloc (.cells #[] 29) = wa34 at BA34 EA34 hHeld ⊢
        clear he
        refine wpAnyH_ready (rs := [2, 6]) (by kernel_rfl) (by simp) (AllReadyH.cons rfl (fun K hK => ?_) (AllReadyH.cons rfl (fun K hK => ?_) AllReadyH.nil))
        · skip
          have y2 : wa34.cell? ⟨G, 2, none⟩ = some (.slice (some ⟨gy, 0, none⟩) b.q.length xc) := cell_of_heap (OFF.out _ BA34.out).new 2
          rw [if_pos (by rfl)]
          go_simp
          refine hK.out _ _ ?_ (fun hHeld => ?_)
          · exact CELLS.out _ (OFF.out _ BA34.out).three
          clear hK K
          try simp only [Act.put, List.getElem_toArray, List.getElem_cons_succ, List.getElem_cons_zero, List.setIfInBounds_toArray, List.set_cons_zero, List.set_cons_succ]
          clear y2
          refine wpAnyH_take (i := 3) (v := ?_) rfl (by kernel_rfl) (by kernel_rfl) (by kernel_rfl) (fun _ _ _ h => h) (Or.inl ⟨by rfl, ?_⟩) (by assumption) ?_
          rotate_left
          · intro w hSw; (try dsimp only at hSw); go_simp; try with_reducible rfl
          try simp only [Act.put, List.getElem_toArray, List.getElem_cons_succ, List.getElem_cons_zero, List.setIfInBounds_toArray, List.set_cons_zero, List.set_cons_succ]
          refine wpAnyH_ready (rs := [4, 6]) (by kernel_rfl) (by simp) (AllReadyH.cons rfl (fun K hK => ?_) (AllReadyH.cons rfl (fun K hK => ?_) AllReadyH.nil))
          · skip
            rw [if_pos (by rfl)]
            refine wp_append_src (.tmp 90) (.tmp 93) 24 rfl D 29 ii (.agg #[.int .i64 0, .int .i64 0, .string ⟨#[]⟩, .int .i64 0]) 4 40 Tryd.underlying24 hi hz0 hz1 hz2 rfl (by decide) (.slice (some ⟨e, 0, none⟩) 0 0) (.slice (some ⟨gy, 4, none⟩) (b.q.length - 1) (xc - 1)) 0 (b.q.length - 1) [] (mcells (b.q.drop 1)) (by simp [Act.eval]) EA34.out (by simp [Act.eval]) (SRC.out _ BA34.out) HLD.out (mcells_one _) (by unfold maxLen; omega) (by omega) (Nat.le_trans (Nat.le_of_eq HD.out.symm) BA34.out.size) ?_; intro v9 wa36 hr9 hg9 _; rw [Nat.zero_add, List.nil_append] at hr9; obtain ⟨na, nc, hn9⟩ := own_slice hr9; subst hn9; have NA36 := Lib.hid hr9; have BA36 := Lib.hid (BA34.out.grown hg9 (Nat.le_trans (Nat.le_of_eq HD.out.symm) BA34.out.size) (fun i h => (EA34.out.lt i h).1)); clear hr9 hg9
            refine hK.out _ _ ?_ (fun hHeld => ?_)
            · exact CELLS.out _ (OFF.out _ BA36.out).three
            clear hK K
            try simp only [Act.put, List.getElem_toArray, List.getElem_cons_succ, List.getElem_cons_zero, List.setIfInBounds_toArray, List.set_cons_zero, List.set_cons_succ]
            refine wpAnyH_ready (rs := [6]) (by kernel_rfl) (by simp) (AllReadyH.cons rfl (fun K hK => ?_) AllReadyH.nil)
            have BA37 := Lib.hid (BA36.out.alloc (Nat.le_trans (Nat.le_of_eq HD.out.symm) BA36.out.size) (.cells #[.int .i64 m.1, .int .i64 m.2.1, .string m.2.2.1, .int .i64 m.2.2.2] 29))
            have FA37 := Lib.hid (Lone.new wa36 m)
            have NA37 := Lib.hid (row_below NA36.out ((Below.refl _ _).alloc (Nat.le_refl _) (.cells #[.int .i64 m.1, .int .i64 m.2.1, .string m.2.2.1, .int .i64 m.2.2.2] 29)))
            rw [if_pos (by rfl)]
            go_simp
            refine hK.out _ _ ?_ (fun hHeld => ?_)
            · exact CELLS.out _ (OFF.out _ BA37.out).three
            clear hK K
            try simp only [Act.put, List.getElem_toArray, List.getElem_cons_succ, List.getElem_cons_zero, List.setIfInBounds_toArray, List.set_cons_zero, List.set_cons_succ]
            obtain ⟨f, hf⟩ : ∃ f, wa36.heap.size = f := ⟨_, rfl⟩
            rw [hf] at FA37 ⊢
            generalize wa36.alloc (.cells #[.int .i64 m.1, .int .i64 m.2.1, .string m.2.2.1, .int .i64 m.2.2.2] 29) = wa37 at BA37 FA37 NA37 hHeld ⊢
            clear hf
            refine wpAnyH_ready (rs := [7]) (by kernel_rfl) (by simp) (AllReadyH.cons rfl (fun K hK => ?_) AllReadyH.nil)
            rw [if_pos (by rfl)]
            refine wp_append_src (.tmp 94) (.tmp 96) 24 rfl D 29 ii (.agg #[.int .i64 0, .int .i64 0, .string ⟨#[]⟩, .int .i64 0]) 4 40 Tryd.underlying24 hi hz0 hz1 hz2 rfl (by decide) (.slice na (b.q.length - 1) nc) (.slice (some ⟨f, 0, none⟩) 1 1) (b.q.length - 1) 1 (mcells (b.q.drop 1)) (mcells [m]) (by simp [Act.eval]) NA37.out (by simp [Act.eval]) FA37.out.src rfl (mcells_one _) (by unfold maxLen; omega) (by omega) (Nat.le_trans (Nat.le_of_eq HD.out.symm) BA37.out.size) ?_; intro v10 w10 hr10 hg10 _; obtain ⟨gz, zc, hzv⟩ := Joins.ownsRow_form hr10 (by omega); subst hzv; have B10 := Lib.hid (BA37.out.grown hg10 (Nat.le_trans (Nat.le_of_eq HD.out.symm) BA37.out.size) (fun i h => (NA37.out.lt i h).1)); have N10 := Lib.hid hr10; clear hr10 hg10
            refine hK.out _ _ ?_ (fun hHeld => ?_)
            · exact CELLS.out _ (OFF.out _ B10.out).three
            clear hK K
            try simp only [Act.put, List.getElem_toArray, List.getElem_cons_succ, List.getElem_cons_zero, List.setIfInBounds_toArray, List.set_cons_zero, List.set_cons_succ]
            have S10 := Lib.hid (OFF.out _ B10.out)
            have y2 : w10.cell? ⟨G, 2, none⟩ = some (.slice (some ⟨gy, 0, none⟩) b.q.length xc) := cell_of_heap S10.out.new 2
            have f2 : w10.frozen? ⟨G, 2, none⟩ = false := frozen_of_row _ _ _ _ _ S10.out.new
            have S11 := Lib.hid (OffS.queue S10.out.three S10.out.new S10.out.since S10.out.far (u2 := (.slice (some ⟨gz, 0, none⟩) (b.q.length - 1 + 1) zc)) (q2 := q5) (by rw [← HQ5.out]; unfold MOwn; rw [List.length_append, List.length_drop, mcells_app]; exact own_mono N10.out HDB.out))
            refine wpAnyH_take (i := 8) (v := ?_) rfl (by kernel_rfl) (by kernel_rfl) (by kernel_rfl) (fun _ _ _ h => h) (Or.inl ⟨by rfl, ?_⟩) (by assumption) ?_
            rotate_left
            · intro w hSw; (try dsimp only at hSw); go_simp; try with_reducible rfl
            try simp only [Act.put, List.getElem_toArray, List.getElem_cons_succ, List.getElem_cons_zero, List.setIfInBounds_toArray, List.set_cons_zero, List.set_cons_succ]
            refine wpAnyH_ready (rs := [9]) (by kernel_rfl) (by simp) (AllReadyH.cons rfl (fun K hK => ?_) AllReadyH.nil)
            rw [if_pos (by rfl)]
            go_simp
            refine hK.out _ _ ?_ (fun hHeld => ?_)
            · exact CELLS.out _ S11.out.three
            clear hK K
            try simp only [Act.put, List.getElem_toArray, List.getElem_cons_succ, List.getElem_cons_zero, List.setIfInBounds_toArray, List.set_cons_zero, List.set_cons_succ]
            refine wpAnyH_done (by kernel_rfl) ?_ _
            clear hHeld y2 f2 S10 N10 B10
            generalize w10.setCell ⟨G, 2, none⟩ (.slice (some ⟨gz, 0, none⟩) (b.q.length - 1 + 1) zc) = w11 at S11 ⊢
            go_wp2_with (first
              | refine wpList_load_row rfl 26 (.tmp 6) rfl G rfl 26 (bcells ({ b with q := q5, ofr := b.ofr + 1, drp := b.drp + 1 }) (.slice (some ⟨gz, 0, none⟩) (b.q.length - 1 + 1) zc)) (0, 0) _ S11.out.new Tryd.underlying26 rfl (by kernel_rfl) ?_
              | refine wpList_store_rowTo rfl 26 (.tmp 4) _ rfl rfl (w.heap.size + 1 + 1) (bcells ({ b with q := q5, ofr := b.ofr + 1, drp := b.drp + 1 }) (.slice (some ⟨gz, 0, none⟩) (b.q.length - 1 + 1) zc)) rfl rfl 26 _ S11.out.three.res (by kernel_rfl) rfl (bcells_one _ _ _ _) ?_)
            have HX := off_end S11.out (bcells ({ b with q := q5, ofr := b.ofr + 1, drp := b.drp + 1 }) (.slice (some ⟨gz, 0, none⟩) (b.q.length - 1 + 1) zc))
            exact bodyPost_ret (results_row_tmp rfl _ _ _ _ _ _ _ rfl HX.1 Tryd.underlying26 rfl (by kernel_rfl)) rfl ⟨_, by rw [HE.out]; rfl, by rw [HE.out]; exact HX.2.1, HX.2.2⟩
          · skip
            have BA39 := Lib.hid (BA34.out.alloc (Nat.le_trans (Nat.le_of_eq HD.out.symm) BA34.out.size) (.cells #[.int .i64 m.1, .int .i64 m.2.1, .string m.2.2.1, .int .i64 m.2.2.2] 29))
            have FA39 := Lib.hid (Lone.new wa34 m)
            have EA39 := Lib.hid (row_below EA34.out ((Below.refl _ _).alloc (Nat.le_refl _) (.cells #[.int .i64 m.1, .int .i64 m.2.1, .string m.2.2.1, .int .i64 m.2.2.2] 29)))
            have NE : Hid (wa34.heap.size ≠ e) := Lib.hid (Nat.ne_of_gt (EA34.out.lt e rfl).2)
            rw [if_pos (by rfl)]
            go_simp
            refine hK.out _ _ ?_ (fun hHeld => ?_)
            · exact CELLS.out _ (OFF.out _ BA39.out).three
            clear hK K
            try simp only [Act.put, List.getElem_toArray, List.getElem_cons_succ, List.getElem_cons_zero, List.setIfInBounds_toArray, List.set_cons_zero, List.set_cons_succ]
            obtain ⟨f, hf⟩ : ∃ f, wa34.heap.size = f := ⟨_, rfl⟩
            rw [hf] at FA39 NE ⊢
            generalize wa34.alloc (.cells #[.int .i64 m.1, .int .i64 m.2.1, .string m.2.2.1, .int .i64 m.2.2.2] 29) = wa39 at BA39 FA39 EA39 hHeld ⊢
            clear hf
            refine wpAnyH_ready (rs := [4]) (by kernel_rfl) (by simp) (AllReadyH.cons rfl (fun K hK => ?_) AllReadyH.nil)
            rw [if_pos (by rfl)]
            refine wp_append_src (.tmp 90) (.tmp 93) 24 rfl D 29 ii (.agg #[.int .i64 0, .int .i64 0, .string ⟨#[]⟩, .int .i64 0]) 4 40 Tryd.underlying24 hi hz0 hz1 hz2 rfl (by decide) (.slice (some ⟨e, 0, none⟩) 0 0) (.slice (some ⟨gy, 4, none⟩) (b.q.length - 1) (xc - 1)) 0 (b.q.length - 1) [] (mcells (b.q.drop 1)) (by simp [Act.eval]) EA39.out (by simp [Act.eval]) (SRC.out _ BA39.out) HLD.out (mcells_one _) (by unfold maxLen; omega) (by omega) (Nat.le_trans (Nat.le_of_eq HD.out.symm) BA39.out.size) ?_; intro v9 wa40 hr9 hg9 _; rw [Nat.zero_add, List.nil_append] at hr9; obtain ⟨na, nc, hn9⟩ := own_slice hr9; subst hn9; have NA40 := Lib.hid hr9; have BA40 := Lib.hid (BA39.out.grown hg9 (Nat.le_trans (Nat.le_of_eq HD.out.symm) BA39.out.size) (fun i h => (EA39.out.lt i h).1)); have FA40 := Lib.hid (FA39.out.grown hg9 NE.out); clear hr9 hg9
            refine hK.out _ _ ?_ (fun hHeld => ?_)
            · exact CELLS.out _ (OFF.out _ BA40.out).three
            clear hK K
            try simp only [Act.put, List.getElem_toArray, List.getElem_cons_succ, List.getElem_cons_zero, List.setIfInBounds_toArray, List.set_cons_zero, List.set_cons_succ]
            refine wpAnyH_ready (rs := [7]) (by kernel_rfl) (by simp) (AllReadyH.cons rfl (fun K hK => ?_) AllReadyH.nil)
            rw [if_pos (by rfl)]
            refine wp_append_src (.tmp 94) (.tmp 96) 24 rfl D 29 ii (.agg #[.int .i64 0, .int .i64 0, .string ⟨#[]⟩, .int .i64 0]) 4 40 Tryd.underlying24 hi hz0 hz1 hz2 rfl (by decide) (.slice na (b.q.length - 1) nc) (.slice (some ⟨f, 0, none⟩) 1 1) (b.q.length - 1) 1 (mcells (b.q.drop 1)) (mcells [m]) (by simp [Act.eval]) NA40.out (by simp [Act.eval]) FA40.out.src rfl (mcells_one _) (by unfold maxLen; omega) (by omega) (Nat.le_trans (Nat.le_of_eq HD.out.symm) BA40.out.size) ?_; intro v10 w10 hr10 hg10 _; obtain ⟨gz, zc, hzv⟩ := Joins.ownsRow_form hr10 (by omega); subst hzv; have B10 := Lib.hid (BA40.out.grown hg10 (Nat.le_trans (Nat.le_of_eq HD.out.symm) BA40.out.size) (fun i h => (NA40.out.lt i h).1)); have N10 := Lib.hid hr10; clear hr10 hg10
            refine hK.out _ _ ?_ (fun hHeld => ?_)
            · exact CELLS.out _ (OFF.out _ B10.out).three
            clear hK K
            try simp only [Act.put, List.getElem_toArray, List.getElem_cons_succ, List.getElem_cons_zero, List.setIfInBounds_toArray, List.set_cons_zero, List.set_cons_succ]
            have S10 := Lib.hid (OFF.out _ B10.out)
            have y2 : w10.cell? ⟨G, 2, none⟩ = some (.slice (some ⟨gy, 0, none⟩) b.q.length xc) := cell_of_heap S10.out.new 2
            have f2 : w10.frozen? ⟨G, 2, none⟩ = false := frozen_of_row _ _ _ _ _ S10.out.new
            have S11 := Lib.hid (OffS.queue S10.out.three S10.out.new S10.out.since S10.out.far (u2 := (.slice (some ⟨gz, 0, none⟩) (b.q.length - 1 + 1) zc)) (q2 := q5) (by rw [← HQ5.out]; unfold MOwn; rw [List.length_append, List.length_drop, mcells_app]; exact own_mono N10.out HDB.out))
            refine wpAnyH_take (i := 8) (v := ?_) rfl (by kernel_rfl) (by kernel_rfl) (by kernel_rfl) (fun _ _ _ h => h) (Or.inl ⟨by rfl, ?_⟩) (by assumption) ?_
            rotate_left
            · intro w hSw; (try dsimp only at hSw); go_simp; try with_reducible rfl
            try simp only [Act.put, List.getElem_toArray, List.getElem_cons_succ, List.getElem_cons_zero, List.setIfInBounds_toArray, List.set_cons_zero, List.set_cons_succ]
            refine wpAnyH_ready (rs := [9]) (by kernel_rfl) (by simp) (AllReadyH.cons rfl (fun K hK => ?_) AllReadyH.nil)
            rw [if_pos (by rfl)]
            go_simp
            refine hK.out _ _ ?_ (fun hHeld => ?_)
            · exact CELLS.out _ S11.out.three
            clear hK K
            try simp only [Act.put, List.getElem_toArray, List.getElem_cons_succ, List.getElem_cons_zero, List.setIfInBounds_toArray, List.set_cons_zero, List.set_cons_succ]
            refine wpAnyH_done (by kernel_rfl) ?_ _
            clear hHeld y2 f2 S10 N10 B10
            generalize w10.setCell ⟨G, 2, none⟩ (.slice (some ⟨gz, 0, none⟩) (b.q.length - 1 + 1) zc) = w11 at S11 ⊢
            go_wp2_with (first
              | refine wpList_load_row rfl 26 (.tmp 6) rfl G rfl 26 (bcells ({ b with q := q5, ofr := b.ofr + 1, drp := b.drp + 1 }) (.slice (some ⟨gz, 0, none⟩) (b.q.length - 1 + 1) zc)) (0, 0) _ S11.out.new Tryd.underlying26 rfl (by kernel_rfl) ?_
              | refine wpList_store_rowTo rfl 26 (.tmp 4) _ rfl rfl (w.heap.size + 1 + 1) (bcells ({ b with q := q5, ofr := b.ofr + 1, drp := b.drp + 1 }) (.slice (some ⟨gz, 0, none⟩) (b.q.length - 1 + 1) zc)) rfl rfl 26 _ S11.out.three.res (by kernel_rfl) rfl (bcells_one _ _ _ _) ?_)
            have HX := off_end S11.out (bcells ({ b with q := q5, ofr := b.ofr + 1, drp := b.drp + 1 }) (.slice (some ⟨gz, 0, none⟩) (b.q.length - 1 + 1) zc))
            exact bodyPost_ret (results_row_tmp rfl _ _ _ _ _ _ _ rfl HX.1 Tryd.underlying26 rfl (by kernel_rfl)) rfl ⟨_, by rw [HE.out]; rfl, by rw [HE.out]; exact HX.2.1, HX.2.2⟩
        · skip
          have BA42 := Lib.hid (BA34.out.alloc (Nat.le_trans (Nat.le_of_eq HD.out.symm) BA34.out.size) (.cells #[.int .i64 m.1, .int .i64 m.2.1, .string m.2.2.1, .int .i64 m.2.2.2] 29))
          have FA42 := Lib.hid (Lone.new wa34 m)
          have EA42 := Lib.hid (row_below EA34.out ((Below.refl _ _).alloc (Nat.le_refl _) (.cells #[.int .i64 m.1, .int .i64 m.2.1, .string m.2.2.1, .int .i64 m.2.2.2] 29)))
          have NE : Hid (wa34.heap.size ≠ e) := Lib.hid (Nat.ne_of_gt (EA34.out.lt e rfl).2)
          rw [if_pos (by rfl)]
          go_simp
          refine hK.out _ _ ?_ (fun hHeld => ?_)
          · exact CELLS.out _ (OFF.out _ BA42.out).three
          clear hK K
          try simp only [Act.put, List.getElem_toArray, List.getElem_cons_succ, List.getElem_cons_zero, List.setIfInBounds_toArray, List.set_cons_zero, List.set_cons_succ]
          obtain ⟨f, hf⟩ : ∃ f, wa34.heap.size = f := ⟨_, rfl⟩
          rw [hf] at FA42 NE ⊢
          generalize wa34.alloc (.cells #[.int .i64 m.1, .int .i64 m.2.1, .string m.2.2.1, .int .i64 m.2.2.2] 29) = wa42 at BA42 FA42 EA42 hHeld ⊢
          clear hf
          refine wpAnyH_ready (rs := [2]) (by kernel_rfl) (by simp) (AllReadyH.cons rfl (fun K hK => ?_) AllReadyH.nil)
          have y2 : wa42.cell? ⟨G, 2, none⟩ = some (.slice (some ⟨gy, 0, none⟩) b.q.length xc) := cell_of_heap (OFF.out _ BA42.out).new 2
          rw [if_pos (by rfl)]
          go_simp
          refine hK.out _ _ ?_ (fun hHeld => ?_)
          · exact CELLS.out _ (OFF.out _ BA42.out).three
          clear hK K
          try simp only [Act.put, List.getElem_toArray, List.getElem_cons_succ, List.getElem_cons_zero, List.setIfInBounds_toArray, List.set_cons_zero, List.set_cons_succ]
          clear y2
          refine wpAnyH_take (i := 3) (v := ?_) rfl (by kernel_rfl) (by kernel_rfl) (by kernel_rfl) (fun _ _ _ h => h) (Or.inl ⟨by rfl, ?_⟩) (by assumption) ?_
          rotate_left
          · intro w hSw; (try dsimp only at hSw); go_simp; try with_reducible rfl
          try simp only [Act.put, List.getElem_toArray, List.getElem_cons_succ, List.getElem_cons_zero, List.setIfInBounds_toArray, List.set_cons_zero, List.set_cons_succ]
          refine wpAnyH_ready (rs := [4]) (by kernel_rfl) (by simp) (AllReadyH.cons rfl (fun K hK => ?_) AllReadyH.nil)
          rw [if_pos (by rfl)]
          refine wp_append_src (.tmp 90) (.tmp 93) 24 rfl D 29 ii (.agg #[.int .i64 0, .int .i64 0, .string ⟨#[]⟩, .int .i64 0]) 4 40 Tryd.underlying24 hi hz0 hz1 hz2 rfl (by decide) (.slice (some ⟨e, 0, none⟩) 0 0) (.slice (some ⟨gy, 4, none⟩) (b.q.length - 1) (xc - 1)) 0 (b.q.length - 1) [] (mcells (b.q.drop 1)) (by simp [Act.eval]) EA42.out (by simp [Act.eval]) (SRC.out _ BA42.out) HLD.out (mcells_one _) (by unfold maxLen; omega) (by omega) (Nat.le_trans (Nat.le_of_eq HD.out.symm) BA42.out.size) ?_; intro v9 wa44 hr9 hg9 _; rw [Nat.zero_add, List.nil_append] at hr9; obtain ⟨na, nc, hn9⟩ := own_slice hr9; subst hn9; have NA44 := Lib.hid hr9; have BA44 := Lib.hid (BA42.out.grown hg9 (Nat.le_trans (Nat.le_of_eq HD.out.symm) BA42.out.size) (fun i h => (EA42.out.lt i h).1)); have FA44 := Lib.hid (FA42.out.grown hg9 NE.out); clear hr9 hg9
          refine hK.out _ _ ?_ (fun hHeld => ?_)
          · exact CELLS.out _ (OFF.out _ BA44.out).three
          clear hK K
          try simp only [Act.put, List.getElem_toArray, List.getElem_cons_succ, List.getElem_cons_zero, List.setIfInBounds_toArray, List.set_cons_zero, List.set_cons_succ]
          refine wpAnyH_ready (rs := [7]) (by kernel_rfl) (by simp) (AllReadyH.cons rfl (fun K hK => ?_) AllReadyH.nil)
          rw [if_pos (by rfl)]
          refine wp_append_src (.tmp 94) (.tmp 96) 24 rfl D 29 ii (.agg #[.int .i64 0, .int .i64 0, .string ⟨#[]⟩, .int .i64 0]) 4 40 Tryd.underlying24 hi hz0 hz1 hz2 rfl (by decide) (.slice na (b.q.length - 1) nc) (.slice (some ⟨f, 0, none⟩) 1 1) (b.q.length - 1) 1 (mcells (b.q.drop 1)) (mcells [m]) (by simp [Act.eval]) NA44.out (by simp [Act.eval]) FA44.out.src rfl (mcells_one _) (by unfold maxLen; omega) (by omega) (Nat.le_trans (Nat.le_of_eq HD.out.symm) BA44.out.size) ?_; intro v10 w10 hr10 hg10 _; obtain ⟨gz, zc, hzv⟩ := Joins.ownsRow_form hr10 (by omega); subst hzv; have B10 := Lib.hid (BA44.out.grown hg10 (Nat.le_trans (Nat.le_of_eq HD.out.symm) BA44.out.size) (fun i h => (NA44.out.lt i h).1)); have N10 := Lib.hid hr10; clear hr10 hg10
          refine hK.out _ _ ?_ (fun hHeld => ?_)
          · exact CELLS.out _ (OFF.out _ B10.out).three
          clear hK K
          try simp only [Act.put, List.getElem_toArray, List.getElem_cons_succ, List.getElem_cons_zero, List.setIfInBounds_toArray, List.set_cons_zero, List.set_cons_succ]
          have S10 := Lib.hid (OFF.out _ B10.out)
          have y2 : w10.cell? ⟨G, 2, none⟩ = some (.slice (some ⟨gy, 0, none⟩) b.q.length xc) := cell_of_heap S10.out.new 2
          have f2 : w10.frozen? ⟨G, 2, none⟩ = false := frozen_of_row _ _ _ _ _ S10.out.new
          have S11 := Lib.hid (OffS.queue S10.out.three S10.out.new S10.out.since S10.out.far (u2 := (.slice (some ⟨gz, 0, none⟩) (b.q.length - 1 + 1) zc)) (q2 := q5) (by rw [← HQ5.out]; unfold MOwn; rw [List.length_append, List.length_drop, mcells_app]; exact own_mono N10.out HDB.out))
          refine wpAnyH_take (i := 8) (v := ?_) rfl (by kernel_rfl) (by kernel_rfl) (by kernel_rfl) (fun _ _ _ h => h) (Or.inl ⟨by rfl, ?_⟩) (by assumption) ?_
          rotate_left
          · intro w hSw; (try dsimp only at hSw); go_simp; try with_reducible rfl
          try simp only [Act.put, List.getElem_toArray, List.getElem_cons_succ, List.getElem_cons_zero, List.setIfInBounds_toArray, List.set_cons_zero, List.set_cons_succ]
          refine wpAnyH_ready (rs := [9]) (by kernel_rfl) (by simp) (AllReadyH.cons rfl (fun K hK => ?_) AllReadyH.nil)
          rw [if_pos (by rfl)]
          go_simp
          refine hK.out _ _ ?_ (fun hHeld => ?_)
          · exact CELLS.out _ S11.out.three
          clear hK K
          try simp only [Act.put, List.getElem_toArray, List.getElem_cons_succ, List.getElem_cons_zero, List.setIfInBounds_toArray, List.set_cons_zero, List.set_cons_succ]
          refine wpAnyH_done (by kernel_rfl) ?_ _
          clear hHeld y2 f2 S10 N10 B10
          generalize w10.setCell ⟨G, 2, none⟩ (.slice (some ⟨gz, 0, none⟩) (b.q.length - 1 + 1) zc) = w11 at S11 ⊢
          go_wp2_with (first
            | refine wpList_load_row rfl 26 (.tmp 6) rfl G rfl 26 (bcells ({ b with q := q5, ofr := b.ofr + 1, drp := b.drp + 1 }) (.slice (some ⟨gz, 0, none⟩) (b.q.length - 1 + 1) zc)) (0, 0) _ S11.out.new Tryd.underlying26 rfl (by kernel_rfl) ?_
            | refine wpList_store_rowTo rfl 26 (.tmp 4) _ rfl rfl (w.heap.size + 1 + 1) (bcells ({ b with q := q5, ofr := b.ofr + 1, drp := b.drp + 1 }) (.slice (some ⟨gz, 0, none⟩) (b.q.length - 1 + 1) zc)) rfl rfl 26 _ S11.out.three.res (by kernel_rfl) rfl (bcells_one _ _ _ _) ?_)
          have HX := off_end S11.out (bcells ({ b with q := q5, ofr := b.ofr + 1, drp := b.drp + 1 }) (.slice (some ⟨gz, 0, none⟩) (b.q.length - 1 + 1) zc))
          exact bodyPost_ret (results_row_tmp rfl _ _ _ _ _ _ _ rfl HX.1 Tryd.underlying26 rfl (by kernel_rfl)) rfl ⟨_, by rw [HE.out]; rfl, by rw [HE.out]; exact HX.2.1, HX.2.2⟩
      · skip
        have y2 : wd.cell? ⟨G, 2, none⟩ = some (.slice (some ⟨gy, 0, none⟩) b.q.length xc) := cell_of_heap (OFF.out _ B0.out).new 2
        rw [if_pos (by rfl)]
        go_simp
        refine hK.out _ _ ?_ (fun hHeld => ?_)
        · exact CELLS.out _ (OFF.out _ B0.out).three
        clear hK K
        try simp only [Act.put, List.getElem_toArray, List.getElem_cons_succ, List.getElem_cons_zero, List.setIfInBounds_toArray, List.set_cons_zero, List.set_cons_succ]
        clear y2
        refine wpAnyH_take (i := 3) (v := ?_) rfl (by kernel_rfl) (by kernel_rfl) (by kernel_rfl) (fun _ _ _ h => h) (Or.inl ⟨by rfl, ?_⟩) (by assumption) ?_
        rotate_left
        · intro w hSw; (try dsimp only at hSw); go_simp; try with_reducible rfl
        try simp only [Act.put, List.getElem_toArray, List.getElem_cons_succ, List.getElem_cons_zero, List.setIfInBounds_toArray, List.set_cons_zero, List.set_cons_succ]
        refine wpAnyH_ready (rs := [0, 6]) (by kernel_rfl) (by simp) (AllReadyH.cons rfl (fun K hK => ?_) (AllReadyH.cons rfl (fun K hK => ?_) AllReadyH.nil))
        · skip
          have BA47 := Lib.hid (B0.out.alloc (Nat.le_trans (Nat.le_of_eq HD.out.symm) B0.out.size) (.cells #[] 29))
          have EA47 := Lib.hid (lit_own (wx := wd) (Nat.le_trans (Nat.le_of_eq HD.out.symm) B0.out.size))
          rw [if_pos (by rfl)]
          go_simp
          refine hK.out _ _ ?_ (fun hHeld => ?_)
          · exact CELLS.out _ (OFF.out _ BA47.out).three
          clear hK K
          try simp only [Act.put, List.getElem_toArray, List.getElem_cons_succ, List.getElem_cons_zero, List.setIfInBounds_toArray, List.set_cons_zero, List.set_cons_succ]
          obtain ⟨e, he⟩ : ∃ e, wd.heap.size = e := ⟨_, rfl⟩
          rw [he] at EA47 ⊢
          generalize wd.alloc (.cells #[] 29) = wa47 at BA47 EA47 hHeld ⊢
          clear he
          refine wpAnyH_ready (rs := [4, 6]) (by kernel_rfl) (by simp) (AllReadyH.cons rfl (fun K hK => ?_) (AllReadyH.cons rfl (fun K hK => ?_) AllReadyH.nil))
          · skip
            rw [if_pos (by rfl)]
            refine wp_append_src (.tmp 90) (.tmp 93) 24 rfl D 29 ii (.agg #[.int .i64 0, .int .i64 0, .string ⟨#[]⟩, .int .i64 0]) 4 40 Tryd.underlying24 hi hz0 hz1 hz2 rfl (by decide) (.slice (some ⟨e, 0, none⟩) 0 0) (.slice (some ⟨gy, 4, none⟩) (b.q.length - 1) (xc - 1)) 0 (b.q.length - 1) [] (mcells (b.q.drop 1)) (by simp [Act.eval]) EA47.out (by simp [Act.eval]) (SRC.out _ BA47.out) HLD.out (mcells_one _) (by unfold maxLen; omega) (by omega) (Nat.le_trans (Nat.le_of_eq HD.out.symm) BA47.out.size) ?_; intro v9 wa48 hr9 hg9 _; rw [Nat.zero_add, List.nil_append] at hr9; obtain ⟨na, nc, hn9⟩ := own_slice hr9; subst hn9; have NA48 := Lib.hid hr9; have BA48 := Lib.hid (BA47.out.grown hg9 (Nat.le_trans (Nat.le_of_eq HD.out.symm) BA47.out.size) (fun i h => (EA47.out.lt i h).1)); clear hr9 hg9
            refine hK.out _ _ ?_ (fun hHeld => ?_)
            · exact CELLS.out _ (OFF.out _ BA48.out).three
            clear hK K
            try simp only [Act.put, List.getElem_toArray, List.getElem_cons_succ, List.getElem_cons_zero, List.setIfInBounds_toArray, List.set_cons_zero, List.set_cons_succ]
            refine wpAnyH_ready (rs := [6]) (by kernel_rfl) (by simp) (AllReadyH.cons rfl (fun K hK => ?_) AllReadyH.nil)
            have BA49 := Lib.hid (BA48.out.alloc (Nat.le_trans (Nat.le_of_eq HD.out.symm) BA48.out.size) (.cells #[.int .i64 m.1, .int .i64 m.2.1, .string m.2.2.1, .int .i64 m.2.2.2] 29))
            have FA49 := Lib.hid (Lone.new wa48 m)
            have NA49 := Lib.hid (row_below NA48.out ((Below.refl _ _).alloc (Nat.le_refl _) (.cells #[.int .i64 m.1, .int .i64 m.2.1, .string m.2.2.1, .int .i64 m.2.2.2] 29)))
            rw [if_pos (by rfl)]
            go_simp
            refine hK.out _ _ ?_ (fun hHeld => ?_)
            · exact CELLS.out _ (OFF.out _ BA49.out).three
            clear hK K
            try simp only [Act.put, List.getElem_toArray, List.getElem_cons_succ, List.getElem_cons_zero, List.setIfInBounds_toArray, List.set_cons_zero, List.set_cons_succ]
            obtain ⟨f, hf⟩ : ∃ f, wa48.heap.size = f := ⟨_, rfl⟩
            rw [hf] at FA49 ⊢
            generalize wa48.alloc (.cells #[.int .i64 m.1, .int .i64 m.2.1, .string m.2.2.1, .int .i64 m.2.2.2] 29) = wa49 at BA49 FA49 NA49 hHeld ⊢
            clear hf
            refine wpAnyH_ready (rs := [7]) (by kernel_rfl) (by simp) (AllReadyH.cons rfl (fun K hK => ?_) AllReadyH.nil)
            rw [if_pos (by rfl)]
            refine wp_append_src (.tmp 94) (.tmp 96) 24 rfl D 29 ii (.agg #[.int .i64 0, .int .i64 0, .string ⟨#[]⟩, .int .i64 0]) 4 40 Tryd.underlying24 hi hz0 hz1 hz2 rfl (by decide) (.slice na (b.q.length - 1) nc) (.slice (some ⟨f, 0, none⟩) 1 1) (b.q.length - 1) 1 (mcells (b.q.drop 1)) (mcells [m]) (by simp [Act.eval]) NA49.out (by simp [Act.eval]) FA49.out.src rfl (mcells_one _) (by unfold maxLen; omega) (by omega) (Nat.le_trans (Nat.le_of_eq HD.out.symm) BA49.out.size) ?_; intro v10 w10 hr10 hg10 _; obtain ⟨gz, zc, hzv⟩ := Joins.ownsRow_form hr10 (by omega); subst hzv; have B10 := Lib.hid (BA49.out.grown hg10 (Nat.le_trans (Nat.le_of_eq HD.out.symm) BA49.out.size) (fun i h => (NA49.out.lt i h).1)); have N10 := Lib.hid hr10; clear hr10 hg10
            refine hK.out _ _ ?_ (fun hHeld => ?_)
            · exact CELLS.out _ (OFF.out _ B10.out).three
            clear hK K
            try simp only [Act.put, List.getElem_toArray, List.getElem_cons_succ, List.getElem_cons_zero, List.setIfInBounds_toArray, List.set_cons_zero, List.set_cons_succ]
            have S10 := Lib.hid (OFF.out _ B10.out)
            have y2 : w10.cell? ⟨G, 2, none⟩ = some (.slice (some ⟨gy, 0, none⟩) b.q.length xc) := cell_of_heap S10.out.new 2
            have f2 : w10.frozen? ⟨G, 2, none⟩ = false := frozen_of_row _ _ _ _ _ S10.out.new
            have S11 := Lib.hid (OffS.queue S10.out.three S10.out.new S10.out.since S10.out.far (u2 := (.slice (some ⟨gz, 0, none⟩) (b.q.length - 1 + 1) zc)) (q2 := q5) (by rw [← HQ5.out]; unfold MOwn; rw [List.length_append, List.length_drop, mcells_app]; exact own_mono N10.out HDB.out))
            refine wpAnyH_take (i := 8) (v := ?_) rfl (by kernel_rfl) (by kernel_rfl) (by kernel_rfl) (fun _ _ _ h => h) (Or.inl ⟨by rfl, ?_⟩) (by assumption) ?_
            rotate_left
            · intro w hSw; (try dsimp only at hSw); go_simp; try with_reducible rfl
            try simp only [Act.put, List.getElem_toArray, List.getElem_cons_succ, List.getElem_cons_zero, List.setIfInBounds_toArray, List.set_cons_zero, List.set_cons_succ]
            refine wpAnyH_ready (rs := [9]) (by kernel_rfl) (by simp) (AllReadyH.cons rfl (fun K hK => ?_) AllReadyH.nil)
            rw [if_pos (by rfl)]
            go_simp
            refine hK.out _ _ ?_ (fun hHeld => ?_)
            · exact CELLS.out _ S11.out.three
            clear hK K
            try simp only [Act.put, List.getElem_toArray, List.getElem_cons_succ, List.getElem_cons_zero, List.setIfInBounds_toArray, List.set_cons_zero, List.set_cons_succ]
            refine wpAnyH_done (by kernel_rfl) ?_ _
            clear hHeld y2 f2 S10 N10 B10
            generalize w10.setCell ⟨G, 2, none⟩ (.slice (some ⟨gz, 0, none⟩) (b.q.length - 1 + 1) zc) = w11 at S11 ⊢
            go_wp2_with (first
              | refine wpList_load_row rfl 26 (.tmp 6) rfl G rfl 26 (bcells ({ b with q := q5, ofr := b.ofr + 1, drp := b.drp + 1 }) (.slice (some ⟨gz, 0, none⟩) (b.q.length - 1 + 1) zc)) (0, 0) _ S11.out.new Tryd.underlying26 rfl (by kernel_rfl) ?_
              | refine wpList_store_rowTo rfl 26 (.tmp 4) _ rfl rfl (w.heap.size + 1 + 1) (bcells ({ b with q := q5, ofr := b.ofr + 1, drp := b.drp + 1 }) (.slice (some ⟨gz, 0, none⟩) (b.q.length - 1 + 1) zc)) rfl rfl 26 _ S11.out.three.res (by kernel_rfl) rfl (bcells_one _ _ _ _) ?_)
            have HX := off_end S11.out (bcells ({ b with q := q5, ofr := b.ofr + 1, drp := b.drp + 1 }) (.slice (some ⟨gz, 0, none⟩) (b.q.length - 1 + 1) zc))
            exact bodyPost_ret (results_row_tmp rfl _ _ _ _ _ _ _ rfl HX.1 Tryd.underlying26 rfl (by kernel_rfl)) rfl ⟨_, by rw [HE.out]; rfl, by rw [HE.out]; exact HX.2.1, HX.2.2⟩
          · skip
            have BA51 := Lib.hid (BA47.out.alloc (Nat.le_trans (Nat.le_of_eq HD.out.symm) BA47.out.size) (.cells #[.int .i64 m.1, .int .i64 m.2.1, .string m.2.2.1, .int .i64 m.2.2.2] 29))
            have FA51 := Lib.hid (Lone.new wa47 m)
            have EA51 := Lib.hid (row_below EA47.out ((Below.refl _ _).alloc (Nat.le_refl _) (.cells #[.int .i64 m.1, .int .i64 m.2.1, .string m.2.2.1, .int .i64 m.2.2.2] 29)))
            have NE : Hid (wa47.heap.size ≠ e) := Lib.hid (Nat.ne_of_gt (EA47.out.lt e rfl).2)
            rw [if_pos (by rfl)]
            go_simp
            refine hK.out _ _ ?_ (fun hHeld => ?_)
            · exact CELLS.out _ (OFF.out _ BA51.out).three
            clear hK K
            try simp only [Act.put, List.getElem_toArray, List.getElem_cons_succ, List.getElem_cons_zero, List.setIfInBounds_toArray, List.set_cons_zero, List.set_cons_succ]
            obtain ⟨f, hf⟩ : ∃ f, wa47.heap.size = f := ⟨_, rfl⟩
            rw [hf] at FA51 NE ⊢
            generalize wa47.alloc (.cells #[.int .i64 m.1, .int .i64 m.2.1, .string m.2.2.1, .int .i64 m.2.2.2] 29) = wa51 at BA51 FA51 EA51 hHeld ⊢
            clear hf
            refine wpAnyH_ready (rs := [4]) (by kernel_rfl) (by simp) (AllReadyH.cons rfl (fun K hK => ?_) AllReadyH.nil)
            rw [if_pos (by rfl)]
            refine wp_append_src (.tmp 90) (.tmp 93) 24 rfl D 29 ii (.agg #[.int .i64 0, .int .i64 0, .string ⟨#[]⟩, .int .i64 0]) 4 40 Tryd.underlying24 hi hz0 hz1 hz2 rfl (by decide) (.slice (some ⟨e, 0, none⟩) 0 0) (.slice (some ⟨gy, 4, none⟩) (b.q.length - 1) (xc - 1)) 0 (b.q.length - 1) [] (mcells (b.q.drop 1)) (by simp [Act.eval]) EA51.out (by simp [Act.eval]) (SRC.out _ BA51.out) HLD.out (mcells_one _) (by unfold maxLen; omega) (by omega) (Nat.le_trans (Nat.le_of_eq HD.out.symm) BA51.out.size) ?_; intro v9 wa52 hr9 hg9 _; rw [Nat.zero_add, List.nil_append] at hr9; obtain ⟨na, nc, hn9⟩ := own_slice hr9; subst hn9; have NA52 := Lib.hid hr9; have BA52 := Lib.hid (BA51.out.grown hg9 (Nat.le_trans (Nat.le_of_eq HD.out.symm) BA51.out.size) (fun i h => (EA51.out.lt i h).1)); have FA52 := Lib.hid (FA51.out.grown hg9 NE.out); clear hr9 hg9
            refine hK.out _ _ ?_ (fun hHeld => ?_)
            · exact CELLS.out _ (OFF.out _ BA52.out).three
            clear hK K
            try simp only [Act.put, List.getElem_toArray, List.getElem_cons_succ, List.getElem_cons_zero, List.setIfInBounds_toArray, List.set_cons_zero, List.set_cons_succ]
            refine wpAnyH_ready (rs := [7]) (by kernel_rfl) (by simp) (AllReadyH.cons rfl (fun K hK => ?_) AllReadyH.nil)
            rw [if_pos (by rfl)]
            refine wp_append_src (.tmp 94) (.tmp 96) 24 rfl D 29 ii (.agg #[.int .i64 0, .int .i64 0, .string ⟨#[]⟩, .int .i64 0]) 4 40 Tryd.underlying24 hi hz0 hz1 hz2 rfl (by decide) (.slice na (b.q.length - 1) nc) (.slice (some ⟨f, 0, none⟩) 1 1) (b.q.length - 1) 1 (mcells (b.q.drop 1)) (mcells [m]) (by simp [Act.eval]) NA52.out (by simp [Act.eval]) FA52.out.src rfl (mcells_one _) (by unfold maxLen; omega) (by omega) (Nat.le_trans (Nat.le_of_eq HD.out.symm) BA52.out.size) ?_; intro v10 w10 hr10 hg10 _; obtain ⟨gz, zc, hzv⟩ := Joins.ownsRow_form hr10 (by omega); subst hzv; have B10 := Lib.hid (BA52.out.grown hg10 (Nat.le_trans (Nat.le_of_eq HD.out.symm) BA52.out.size) (fun i h => (NA52.out.lt i h).1)); have N10 := Lib.hid hr10; clear hr10 hg10
            refine hK.out _ _ ?_ (fun hHeld => ?_)
            · exact CELLS.out _ (OFF.out _ B10.out).three
            clear hK K
            try simp only [Act.put, List.getElem_toArray, List.getElem_cons_succ, List.getElem_cons_zero, List.setIfInBounds_toArray, List.set_cons_zero, List.set_cons_succ]
            have S10 := Lib.hid (OFF.out _ B10.out)
            have y2 : w10.cell? ⟨G, 2, none⟩ = some (.slice (some ⟨gy, 0, none⟩) b.q.length xc) := cell_of_heap S10.out.new 2
            have f2 : w10.frozen? ⟨G, 2, none⟩ = false := frozen_of_row _ _ _ _ _ S10.out.new
            have S11 := Lib.hid (OffS.queue S10.out.three S10.out.new S10.out.since S10.out.far (u2 := (.slice (some ⟨gz, 0, none⟩) (b.q.length - 1 + 1) zc)) (q2 := q5) (by rw [← HQ5.out]; unfold MOwn; rw [List.length_append, List.length_drop, mcells_app]; exact own_mono N10.out HDB.out))
            refine wpAnyH_take (i := 8) (v := ?_) rfl (by kernel_rfl) (by kernel_rfl) (by kernel_rfl) (fun _ _ _ h => h) (Or.inl ⟨by rfl, ?_⟩) (by assumption) ?_
            rotate_left
            · intro w hSw; (try dsimp only at hSw); go_simp; try with_reducible rfl
            try simp only [Act.put, List.getElem_toArray, List.getElem_cons_succ, List.getElem_cons_zero, List.setIfInBounds_toArray, List.set_cons_zero, List.set_cons_succ]
            refine wpAnyH_ready (rs := [9]) (by kernel_rfl) (by simp) (AllReadyH.cons rfl (fun K hK => ?_) AllReadyH.nil)
            rw [if_pos (by rfl)]
            go_simp
            refine hK.out _ _ ?_ (fun hHeld => ?_)
            · exact CELLS.out _ S11.out.three
            clear hK K
            try simp only [Act.put, List.getElem_toArray, List.getElem_cons_succ, List.getElem_cons_zero, List.setIfInBounds_toArray, List.set_cons_zero, List.set_cons_succ]
            refine wpAnyH_done (by kernel_rfl) ?_ _
            clear hHeld y2 f2 S10 N10 B10
            generalize w10.setCell ⟨G, 2, none⟩ (.slice (some ⟨gz, 0, none⟩) (b.q.length - 1 + 1) zc) = w11 at S11 ⊢
            go_wp2_with (first
              | refine wpList_load_row rfl 26 (.tmp 6) rfl G rfl 26 (bcells ({ b with q := q5, ofr := b.ofr + 1, drp := b.drp + 1 }) (.slice (some ⟨gz, 0, none⟩) (b.q.length - 1 + 1) zc)) (0, 0) _ S11.out.new Tryd.underlying26 rfl (by kernel_rfl) ?_
              | refine wpList_store_rowTo rfl 26 (.tmp 4) _ rfl rfl (w.heap.size + 1 + 1) (bcells ({ b with q := q5, ofr := b.ofr + 1, drp := b.drp + 1 }) (.slice (some ⟨gz, 0, none⟩) (b.q.length - 1 + 1) zc)) rfl rfl 26 _ S11.out.three.res (by kernel_rfl) rfl (bcells_one _ _ _ _) ?_)
            have HX := off_end S11.out (bcells ({ b with q := q5, ofr := b.ofr + 1, drp := b.drp + 1 }) (.slice (some ⟨gz, 0, none⟩) (b.q.length - 1 + 1) zc))
            exact bodyPost_ret (results_row_tmp rfl _ _ _ _ _ _ _ rfl HX.1 Tryd.underlying26 rfl (by kernel_rfl)) rfl ⟨_, by rw [HE.out]; rfl, by rw [HE.out]; exact HX.2.1, HX.2.2⟩
        · skip
          have BA54 := Lib.hid (B0.out.alloc (Nat.le_trans (Nat.le_of_eq HD.out.symm) B0.out.size) (.cells #[.int .i64 m.1, .int .i64 m.2.1, .string m.2.2.1, .int .i64 m.2.2.2] 29))
          have FA54 := Lib.hid (Lone.new wd m)
          rw [if_pos (by rfl)]
          go_simp
          refine hK.out _ _ ?_ (fun hHeld => ?_)
          · exact CELLS.out _ (OFF.out _ BA54.out).three
          clear hK K
          try simp only [Act.put, List.getElem_toArray, List.getElem_cons_succ, List.getElem_cons_zero, List.setIfInBounds_toArray, List.set_cons_zero, List.set_cons_succ]
          obtain ⟨f, hf⟩ : ∃ f, wd.heap.size = f := ⟨_, rfl⟩
          rw [hf] at FA54 ⊢
          generalize wd.alloc (.cells #[.int .i64 m.1, .int .i64 m.2.1, .string m.2.2.1, .int .i64 m.2.2.2] 29) = wa54 at BA54 FA54 hHeld ⊢
          clear hf
          refine wpAnyH_ready (rs := [0]) (by kernel_rfl) (by simp) (AllReadyH.cons rfl (fun K hK => ?_) AllReadyH.nil)
          have BA55 := Lib.hid (BA54.out.alloc (Nat.le_trans (Nat.le_of_eq HD.out.symm) BA54.out.size) (.cells #[] 29))
          have EA55 := Lib.hid (lit_own (wx := wa54) (Nat.le_trans (Nat.le_of_eq HD.out.symm) BA54.out.size))
          have FA55 := Lib.hid (FA54.out.below ((Below.refl _ _).alloc (Nat.le_refl _) (.cells #[] 29)))
          have NE : Hid (f ≠ wa54.heap.size) := Lib.hid (Nat.ne_of_lt FA54.out.lt)
          rw [if_pos (by rfl)]
          go_simp
          refine hK.out _ _ ?_ (fun hHeld => ?_)
          · exact CELLS.out _ (OFF.out _ BA55.out).three
          clear hK K
          try simp only [Act.put, List.getElem_toArray, List.getElem_cons_succ, List.getElem_cons_zero, List.setIfInBounds_toArray, List.set_cons_zero, List.set_cons_succ]
          obtain ⟨e, he⟩ : ∃ e, wa54.heap.size = e := ⟨_, rfl⟩
          rw [he] at EA55 NE ⊢
          generalize wa54.alloc (.cells #[] 29) = wa55 at BA55 EA55 FA55 hHeld ⊢
          clear he BA54 FA54
          refine wpAnyH_ready (rs := [4]) (by kernel_rfl) (by simp) (AllReadyH.cons rfl (fun K hK => ?_) AllReadyH.nil)
          rw [if_pos (by rfl)]
          refine wp_append_src (.tmp 90) (.tmp 93) 24 rfl D 29 ii (.agg #[.int .i64 0, .int .i64 0, .string ⟨#[]⟩, .int .i64 0]) 4 40 Tryd.underlying24 hi hz0 hz1 hz2 rfl (by decide) (.slice (some ⟨e, 0, none⟩) 0 0) (.slice (some ⟨gy, 4, none⟩) (b.q.length - 1) (xc - 1)) 0 (b.q.length - 1) [] (mcells (b.q.drop 1)) (by simp [Act.eval]) EA55.out (by simp [Act.eval]) (SRC.out _ BA55.out) HLD.out (mcells_one _) (by unfold maxLen; omega) (by omega) (Nat.le_trans (Nat.le_of_eq HD.out.symm) BA55.out.size) ?_; intro v9 wa56 hr9 hg9 _; rw [Nat.zero_add, List.nil_append] at hr9; obtain ⟨na, nc, hn9⟩ := own_slice hr9; subst hn9; have NA56 := Lib.hid hr9; have BA56 := Lib.hid (BA55.out.grown hg9 (Nat.le_trans (Nat.le_of_eq HD.out.symm) BA55.out.size) (fun i h => (EA55.out.lt i h).1)); have FA56 := Lib.hid (FA55.out.grown hg9 NE.out); clear hr9 hg9
          refine hK.out _ _ ?_ (fun hHeld => ?_)
          · exact CELLS.out _ (OFF.out _ BA56.out).three
          clear hK K
          try simp only [Act.put, List.getElem_toArray, List.getElem_cons_succ, List.getElem_cons_zero, List.setIfInBounds_toArray, List.set_cons_zero, List.set_cons_succ]
          refine wpAnyH_ready (rs := [7]) (by kernel_rfl) (by simp) (AllReadyH.cons rfl (fun K hK => ?_) AllReadyH.nil)
          rw [if_pos (by rfl)]
          refine wp_append_src (.tmp 94) (.tmp 96) 24 rfl D 29 ii (.agg #[.int .i64 0, .int .i64 0, .string ⟨#[]⟩, .int .i64 0]) 4 40 Tryd.underlying24 hi hz0 hz1 hz2 rfl (by decide) (.slice na (b.q.length - 1) nc) (.slice (some ⟨f, 0, none⟩) 1 1) (b.q.length - 1) 1 (mcells (b.q.drop 1)) (mcells [m]) (by simp [Act.eval]) NA56.out (by simp [Act.eval]) FA56.out.src rfl (mcells_one _) (by unfold maxLen; omega) (by omega) (Nat.le_trans (Nat.le_of_eq HD.out.symm) BA56.out.size) ?_; intro v10 w10 hr10 hg10 _; obtain ⟨gz, zc, hzv⟩ := Joins.ownsRow_form hr10 (by omega); subst hzv; have B10 := Lib.hid (BA56.out.grown hg10 (Nat.le_trans (Nat.le_of_eq HD.out.symm) BA56.out.size) (fun i h => (NA56.out.lt i h).1)); have N10 := Lib.hid hr10; clear hr10 hg10
          refine hK.out _ _ ?_ (fun hHeld => ?_)
          · exact CELLS.out _ (OFF.out _ B10.out).three
          clear hK K
          try simp only [Act.put, List.getElem_toArray, List.getElem_cons_succ, List.getElem_cons_zero, List.setIfInBounds_toArray, List.set_cons_zero, List.set_cons_succ]
          have S10 := Lib.hid (OFF.out _ B10.out)
          have y2 : w10.cell? ⟨G, 2, none⟩ = some (.slice (some ⟨gy, 0, none⟩) b.q.length xc) := cell_of_heap S10.out.new 2
          have f2 : w10.frozen? ⟨G, 2, none⟩ = false := frozen_of_row _ _ _ _ _ S10.out.new
          have S11 := Lib.hid (OffS.queue S10.out.three S10.out.new S10.out.since S10.out.far (u2 := (.slice (some ⟨gz, 0, none⟩) (b.q.length - 1 + 1) zc)) (q2 := q5) (by rw [← HQ5.out]; unfold MOwn; rw [List.length_append, List.length_drop, mcells_app]; exact own_mono N10.out HDB.out))
          refine wpAnyH_take (i := 8) (v := ?_) rfl (by kernel_rfl) (by kernel_rfl) (by kernel_rfl) (fun _ _ _ h => h) (Or.inl ⟨by rfl, ?_⟩) (by assumption) ?_
          rotate_left
          · intro w hSw; (try dsimp only at hSw); go_simp; try with_reducible rfl
          try simp only [Act.put, List.getElem_toArray, List.getElem_cons_succ, List.getElem_cons_zero, List.setIfInBounds_toArray, List.set_cons_zero, List.set_cons_succ]
          refine wpAnyH_ready (rs := [9]) (by kernel_rfl) (by simp) (AllReadyH.cons rfl (fun K hK => ?_) AllReadyH.nil)
          rw [if_pos (by rfl)]
          go_simp
          refine hK.out _ _ ?_ (fun hHeld => ?_)
          · exact CELLS.out _ S11.out.three
          clear hK K
          try simp only [Act.put, List.getElem_toArray, List.getElem_cons_succ, List.getElem_cons_zero, List.setIfInBounds_toArray, List.set_cons_zero, List.set_cons_succ]
          refine wpAnyH_done (by kernel_rfl) ?_ _
          clear hHeld y2 f2 S10 N10 B10
          generalize w10.setCell ⟨G, 2, none⟩ (.slice (some ⟨gz, 0, none⟩) (b.q.length - 1 + 1) zc) = w11 at S11 ⊢
          go_wp2_with (first
            | refine wpList_load_row rfl 26 (.tmp 6) rfl G rfl 26 (bcells ({ b with q := q5, ofr := b.ofr + 1, drp := b.drp + 1 }) (.slice (some ⟨gz, 0, none⟩) (b.q.length - 1 + 1) zc)) (0, 0) _ S11.out.new Tryd.underlying26 rfl (by kernel_rfl) ?_
            | refine wpList_store_rowTo rfl 26 (.tmp 4) _ rfl rfl (w.heap.size + 1 + 1) (bcells ({ b with q := q5, ofr := b.ofr + 1, drp := b.drp + 1 }) (.slice (some ⟨gz, 0, none⟩) (b.q.length - 1 + 1) zc)) rfl rfl 26 _ S11.out.three.res (by kernel_rfl) rfl (bcells_one _ _ _ _) ?_)
          have HX := off_end S11.out (bcells ({ b with q := q5, ofr := b.ofr + 1, drp := b.drp + 1 }) (.slice (some ⟨gz, 0, none⟩) (b.q.length - 1 + 1) zc))
          exact bodyPost_ret (results_row_tmp rfl _ _ _ _ _ _ _ rfl HX.1 Tryd.underlying26 rfl (by kernel_rfl)) rfl ⟨_, by rw [HE.out]; rfl, by rw [HE.out]; exact HX.2.1, HX.2.2⟩
      · skip
        have BA58 := Lib.hid (B0.out.alloc (Nat.le_trans (Nat.le_of_eq HD.out.symm) B0.out.size) (.cells #[.int .i64 m.1, .int .i64 m.2.1, .string m.2.2.1, .int .i64 m.2.2.2] 29))
        have FA58 := Lib.hid (Lone.new wd m)
        rw [if_pos (by rfl)]
        go_simp
        refine hK.out _ _ ?_ (fun hHeld => ?_)
        · exact CELLS.out _ (OFF.out _ BA58.out).three
        clear hK K
        try simp only [Act.put, List.getElem_toArray, List.getElem_cons_succ, List.getElem_cons_zero, List.setIfInBounds_toArray, List.set_cons_zero, List.set_cons_succ]
        obtain ⟨f, hf⟩ : ∃ f, wd.heap.size = f := ⟨_, rfl⟩
        rw [hf] at FA58 ⊢
        generalize wd.alloc (.cells #[.int .i64 m.1, .int .i64 m.2.1, .string m.2.2.1, .int .i64 m.2.2.2] 29) = wa58 at BA58 FA58 hHeld ⊢
        clear hf
        refine wpAnyH_ready (rs := [0, 2]) (by kernel_rfl) (by simp) (AllReadyH.cons rfl (fun K hK => ?_) (AllReadyH.cons rfl (fun K hK => ?_) AllReadyH.nil))
        · skip
          have BA59 := Lib.hid (BA58.out.alloc (Nat.le_trans (Nat.le_of_eq HD.out.symm) BA58.out.size) (.cells #[] 29))
          have EA59 := Lib.hid (lit_own (wx := wa58) (Nat.le_trans (Nat.le_of_eq HD.out.symm) BA58.out.size))
          have FA59 := Lib.hid (FA58.out.below ((Below.refl _ _).alloc (Nat.le_refl _) (.cells #[] 29)))
          have NE : Hid (f ≠ wa58.heap.size) := Lib.hid (Nat.ne_of_lt FA58.out.lt)
          rw [if_pos (by rfl)]
          go_simp
          refine hK.out _ _ ?_ (fun hHeld => ?_)
          · exact CELLS.out _ (OFF.out _ BA59.out).three
          clear hK K
          try simp only [Act.put, List.getElem_toArray, List.getElem_cons_succ, List.getElem_cons_zero, List.setIfInBounds_toArray, List.set_cons_zero, List.set_cons_succ]
          obtain ⟨e, he⟩ : ∃ e, wa58.heap.size = e := ⟨_, rfl⟩
          rw [he] at EA59 NE ⊢
          generalize wa58.alloc (.cells #[] 29) = wa59 at BA59 EA59 FA59 hHeld ⊢
          clear he BA58 FA58
          refine wpAnyH_ready (rs := [2]) (by kernel_rfl) (by simp) (AllReadyH.cons rfl (fun K hK => ?_) AllReadyH.nil)
          have y2 : wa59.cell? ⟨G, 2, none⟩ = some (.slice (some ⟨gy, 0, none⟩) b.q.length xc) := cell_of_heap (OFF.out _ BA59.out).new 2
          rw [if_pos (by rfl)]
          go_simp
          refine hK.out _ _ ?_ (fun hHeld => ?_)
          · exact CELLS.out _ (OFF.out _ BA59.out).three
          clear hK K
          try simp only [Act.put, List.getElem_toArray, List.getElem_cons_succ, List.getElem_cons_zero, List.setIfInBounds_toArray, List.set_cons_zero, List.set_cons_succ]
          clear y2
          refine wpAnyH_take (i := 3) (v := ?_) rfl (by kernel_rfl) (by kernel_rfl) (by kernel_rfl) (fun _ _ _ h => h) (Or.inl ⟨by rfl, ?_⟩) (by assumption) ?_
          rotate_left
          · intro w hSw; (try dsimp only at hSw); go_simp; try with_reducible rfl
          try simp only [Act.put, List.getElem_toArray, List.getElem_cons_succ, List.getElem_cons_zero, List.setIfInBounds_toArray, List.set_cons_zero, List.set_cons_succ]
          refine wpAnyH_ready (rs := [4]) (by kernel_rfl) (by simp) (AllReadyH.cons rfl (fun K hK => ?_) AllReadyH.nil)
          rw [if_pos (by rfl)]
          refine wp_append_src (.tmp 90) (.tmp 93) 24 rfl D 29 ii (.agg #[.int .i64 0, .int .i64 0, .string ⟨#[]⟩, .int .i64 0]) 4 40 Tryd.underlying24 hi hz0 hz1 hz2 rfl (by decide) (.slice (some ⟨e, 0, none⟩) 0 0) (.slice (some ⟨gy, 4, none⟩) (b.q.length - 1) (xc - 1)) 0 (b.q.length - 1) [] (mcells (b.q.drop 1)) (by simp [Act.eval]) EA59.out (by simp [Act.eval]) (SRC.out _ BA59.out) HLD.out (mcells_one _) (by unfold maxLen; omega) (by omega) (Nat.le_trans (Nat.le_of_eq HD.out.symm) BA59.out.size) ?_; intro v9 wa61 hr9 hg9 _; rw [Nat.zero_add, List.nil_append] at hr9; obtain ⟨na, nc, hn9⟩ := own_slice hr9; subst hn9; have NA61 := Lib.hid hr9; have BA61 := Lib.hid (BA59.out.grown hg9 (Nat.le_trans (Nat.le_of_eq HD.out.symm) BA59.out.size) (fun i h => (EA59.out.lt i h).1)); have FA61 := Lib.hid (FA59.out.grown hg9 NE.out); clear hr9 hg9
          refine hK.out _ _ ?_ (fun hHeld => ?_)
          · exact CELLS.out _ (OFF.out _ BA61.out).three
          clear hK K
          try simp only [Act.put, List.getElem_toArray, List.getElem_cons_succ, List.getElem_cons_zero, List.setIfInBounds_toArray, List.set_cons_zero, List.set_cons_succ]
          refine wpAnyH_ready (rs := [7]) (by kernel_rfl) (by simp) (AllReadyH.cons rfl (fun K hK => ?_) AllReadyH.nil)
          rw [if_pos (by rfl)]
          refine wp_append_src (.tmp 94) (.tmp 96) 24 rfl D 29 ii (.agg #[.int .i64 0, .int .i64 0, .string ⟨#[]⟩, .int .i64 0]) 4 40 Tryd.underlying24 hi hz0 hz1 hz2 rfl (by decide) (.slice na (b.q.length - 1) nc) (.slice (some ⟨f, 0, none⟩) 1 1) (b.q.length - 1) 1 (mcells (b.q.drop 1)) (mcells [m]) (by simp [Act.eval]) NA61.out (by simp [Act.eval]) FA61.out.src rfl (mcells_one _) (by unfold maxLen; omega) (by omega) (Nat.le_trans (Nat.le_of_eq HD.out.symm) BA61.out.size) ?_; intro v10 w10 hr10 hg10 _; obtain ⟨gz, zc, hzv⟩ := Joins.ownsRow_form hr10 (by omega); subst hzv; have B10 := Lib.hid (BA61.out.grown hg10 (Nat.le_trans (Nat.le_of_eq HD.out.symm) BA61.out.size) (fun i h => (NA61.out.lt i h).1)); have N10 := Lib.hid hr10; clear hr10 hg10
          refine hK.out _ _ ?_ (fun hHeld => ?_)
          · exact CELLS.out _ (OFF.out _ B10.out).three
          clear hK K
          try simp only [Act.put, List.getElem_toArray, List.getElem_cons_succ, List.getElem_cons_zero, List.setIfInBounds_toArray, List.set_cons_zero, List.set_cons_succ]
          have S10 := Lib.hid (OFF.out _ B10.out)
          have y2 : w10.cell? ⟨G, 2, none⟩ = some (.slice (some ⟨gy, 0, none⟩) b.q.length xc) := cell_of_heap S10.out.new 2
          have f2 : w10.frozen? ⟨G, 2, none⟩ = false := frozen_of_row _ _ _ _ _ S10.out.new
          have S11 := Lib.hid (OffS.queue S10.out.three S10.out.new S10.out.since S10.out.far (u2 := (.slice (some ⟨gz, 0, none⟩) (b.q.length - 1 + 1) zc)) (q2 := q5) (by rw [← HQ5.out]; unfold MOwn; rw [List.length_append, List.length_drop, mcells_app]; exact own_mono N10.out HDB.out))
          refine wpAnyH_take (i := 8) (v := ?_) rfl (by kernel_rfl) (by kernel_rfl) (by kernel_rfl) (fun _ _ _ h => h) (Or.inl ⟨by rfl, ?_⟩) (by assumption) ?_
          rotate_left
          · intro w hSw; (try dsimp only at hSw); go_simp; try with_reducible rfl
          try simp only [Act.put, List.getElem_toArray, List.getElem_cons_succ, List.getElem_cons_zero, List.setIfInBounds_toArray, List.set_cons_zero, List.set_cons_succ]
          refine wpAnyH_ready (rs := [9]) (by kernel_rfl) (by simp) (AllReadyH.cons rfl (fun K hK => ?_) AllReadyH.nil)
          rw [if_pos (by rfl)]
          go_simp
          refine hK.out _ _ ?_ (fun hHeld => ?_)
          · exact CELLS.out _ S11.out.three
          clear hK K
          try simp only [Act.put, List.getElem_toArray, List.getElem_cons_succ, List.getElem_cons_zero, List.setIfInBounds_toArray, List.set_cons_zero, List.set_cons_succ]
          refine wpAnyH_done (by kernel_rfl) ?_ _
          clear hHeld y2 f2 S10 N10 B10
          generalize w10.setCell ⟨G, 2, none⟩ (.slice (some ⟨gz, 0, none⟩) (b.q.length - 1 + 1) zc) = w11 at S11 ⊢
          go_wp2_with (first
            | refine wpList_load_row rfl 26 (.tmp 6) rfl G rfl 26 (bcells ({ b with q := q5, ofr := b.ofr + 1, drp := b.drp + 1 }) (.slice (some ⟨gz, 0, none⟩) (b.q.length - 1 + 1) zc)) (0, 0) _ S11.out.new Tryd.underlying26 rfl (by kernel_rfl) ?_
            | refine wpList_store_rowTo rfl 26 (.tmp 4) _ rfl rfl (w.heap.size + 1 + 1) (bcells ({ b with q := q5, ofr := b.ofr + 1, drp := b.drp + 1 }) (.slice (some ⟨gz, 0, none⟩) (b.q.length - 1 + 1) zc)) rfl rfl 26 _ S11.out.three.res (by kernel_rfl) rfl (bcells_one _ _ _ _) ?_)
          have HX := off_end S11.out (bcells ({ b with q := q5, ofr := b.ofr + 1, drp := b.drp + 1 }) (.slice (some ⟨gz, 0, none⟩) (b.q.length - 1 + 1) zc))
          exact bodyPost_ret (results_row_tmp rfl _ _ _ _ _ _ _ rfl HX.1 Tryd.underlying26 rfl (by kernel_rfl)) rfl ⟨_, by rw [HE.out]; rfl, by rw [HE.out]; exact HX.2.1, HX.2.2⟩
        · skip
          have y2 : wa58.cell? ⟨G, 2, none⟩ = some (.slice (some ⟨gy, 0, none⟩) b.q.length xc) := cell_of_heap (OFF.out _ BA58.out).new 2
          rw [if_pos (by rfl)]
          go_simp
          refine hK.out _ _ ?_ (fun hHeld => ?_)
          · exact CELLS.out _ (OFF.out _ BA58.out).three
          clear hK K
          try simp only [Act.put, List.getElem_toArray, List.getElem_cons_succ, List.getElem_cons_zero, List.setIfInBounds_toArray, List.set_cons_zero, List.set_cons_succ]
          clear y2
          refine wpAnyH_take (i := 3) (v := ?_) rfl (by kernel_rfl) (by kernel_rfl) (by kernel_rfl) (fun _ _ _ h => h) (Or.inl ⟨by rfl, ?_⟩) (by assumption) ?_
          rotate_left
          · intro w hSw; (try dsimp only at hSw); go_simp; try with_reducible rfl
          try simp only [Act.put, List.getElem_toArray, List.getElem_cons_succ, List.getElem_cons_zero, List.setIfInBounds_toArray, List.set_cons_zero, List.set_cons_succ]
          refine wpAnyH_ready (rs := [0]) (by kernel_rfl) (by simp) (AllReadyH.cons rfl (fun K hK => ?_) AllReadyH.nil)
          have BA64 := Lib.hid (BA58.out.alloc (Nat.le_trans (Nat.le_of_eq HD.out.symm) BA58.out.size) (.cells #[] 29))
          have EA64 := Lib.hid (lit_own (wx := wa58) (Nat.le_trans (Nat.le_of_eq HD.out.symm) BA58.out.size))
          have FA64 := Lib.hid (FA58.out.below ((Below.refl _ _).alloc (Nat.le_refl _) (.cells #[] 29)))
          have NE : Hid (f ≠ wa58.heap.size) := Lib.hid (Nat.ne_of_lt FA58.out.lt)
          rw [if_pos (by rfl)]
          go_simp
          refine hK.out _ _ ?_ (fun hHeld => ?_)
          · exact CELLS.out _ (OFF.out _ BA64.out).three
          clear hK K
          try simp only [Act.put, List.getElem_toArray, List.getElem_cons_succ, List.getElem_cons_zero, List.setIfInBounds_toArray, List.set_cons_zero, List.set_cons_succ]
          obtain ⟨e, he⟩ : ∃ e, wa58.heap.size = e := ⟨_, rfl⟩
          rw [he] at EA64 NE ⊢
          generalize wa58.alloc (.cells #[] 29) = wa64 at BA64 EA64 FA64 hHeld ⊢
          clear he BA58 FA58
          refine wpAnyH_ready (rs := [4]) (by kernel_rfl) (by simp) (AllReadyH.cons rfl (fun K hK => ?_) AllReadyH.nil)
          rw [if_pos (by rfl)]
          refine wp_append_src (.tmp 90) (.tmp 93) 24 rfl D 29 ii (.agg #[.int .i64 0, .int .i64 0, .string ⟨#[]⟩, .int .i64 0]) 4 40 Tryd.underlying24 hi hz0 hz1 hz2 rfl (by decide) (.slice (some ⟨e, 0, none⟩) 0 0) (.slice (some ⟨gy, 4, none⟩) (b.q.length - 1) (xc - 1)) 0 (b.q.length - 1) [] (mcells (b.q.drop 1)) (by simp [Act.eval]) EA64.out (by simp [Act.eval]) (SRC.out _ BA64.out) HLD.out (mcells_one _) (by unfold maxLen; omega) (by omega) (Nat.le_trans (Nat.le_of_eq HD.out.symm) BA64.out.size) ?_; intro v9 wa65 hr9 hg9 _; rw [Nat.zero_add, List.nil_append] at hr9; obtain ⟨na, nc, hn9⟩ := own_slice hr9; subst hn9; have NA65 := Lib.hid hr9; have BA65 := Lib.hid (BA64.out.grown hg9 (Nat.le_trans (Nat.le_of_eq HD.out.symm) BA64.out.size) (fun i h => (EA64.out.lt i h).1)); have FA65 := Lib.hid (FA64.out.grown hg9 NE.out); clear hr9 hg9
          refine hK.out _ _ ?_ (fun hHeld => ?_)
          · exact CELLS.out _ (OFF.out _ BA65.out).three
          clear hK K
          try simp only [Act.put, List.getElem_toArray, List.getElem_cons_succ, List.getElem_cons_zero, List.setIfInBounds_toArray, List.set_cons_zero, List.set_cons_succ]
          refine wpAnyH_ready (rs := [7]) (by kernel_rfl) (by simp) (AllReadyH.cons rfl (fun K hK => ?_) AllReadyH.nil)
          rw [if_pos (by rfl)]
          refine wp_append_src (.tmp 94) (.tmp 96) 24 rfl D 29 ii (.agg #[.int .i64 0, .int .i64 0, .string ⟨#[]⟩, .int .i64 0]) 4 40 Tryd.underlying24 hi hz0 hz1 hz2 rfl (by decide) (.slice na (b.q.length - 1) nc) (.slice (some ⟨f, 0, none⟩) 1 1) (b.q.length - 1) 1 (mcells (b.q.drop 1)) (mcells [m]) (by simp [Act.eval]) NA65.out (by simp [Act.eval]) FA65.out.src rfl (mcells_one _) (by unfold maxLen; omega) (by omega) (Nat.le_trans (Nat.le_of_eq HD.out.symm) BA65.out.size) ?_; intro v10 w10 hr10 hg10 _; obtain ⟨gz, zc, hzv⟩ := Joins.ownsRow_form hr10 (by omega); subst hzv; have B10 := Lib.hid (BA65.out.grown hg10 (Nat.le_trans (Nat.le_of_eq HD.out.symm) BA65.out.size) (fun i h => (NA65.out.lt i h).1)); have N10 := Lib.hid hr10; clear hr10 hg10
          refine hK.out _ _ ?_ (fun hHeld => ?_)
          · exact CELLS.out _ (OFF.out _ B10.out).three
          clear hK K
          try simp only [Act.put, List.getElem_toArray, List.getElem_cons_succ, List.getElem_cons_zero, List.setIfInBounds_toArray, List.set_cons_zero, List.set_cons_succ]
          have S10 := Lib.hid (OFF.out _ B10.out)
          have y2 : w10.cell? ⟨G, 2, none⟩ = some (.slice (some ⟨gy, 0, none⟩) b.q.length xc) := cell_of_heap S10.out.new 2
          have f2 : w10.frozen? ⟨G, 2, none⟩ = false := frozen_of_row _ _ _ _ _ S10.out.new
          have S11 := Lib.hid (OffS.queue S10.out.three S10.out.new S10.out.since S10.out.far (u2 := (.slice (some ⟨gz, 0, none⟩) (b.q.length - 1 + 1) zc)) (q2 := q5) (by rw [← HQ5.out]; unfold MOwn; rw [List.length_append, List.length_drop, mcells_app]; exact own_mono N10.out HDB.out))
          refine wpAnyH_take (i := 8) (v := ?_) rfl (by kernel_rfl) (by kernel_rfl) (by kernel_rfl) (fun _ _ _ h => h) (Or.inl ⟨by rfl, ?_⟩) (by assumption) ?_
          rotate_left
          · intro w hSw; (try dsimp only at hSw); go_simp; try with_reducible rfl
          try simp only [Act.put, List.getElem_toArray, List.getElem_cons_succ, List.getElem_cons_zero, List.setIfInBounds_toArray, List.set_cons_zero, List.set_cons_succ]
          refine wpAnyH_ready (rs := [9]) (by kernel_rfl) (by simp) (AllReadyH.cons rfl (fun K hK => ?_) AllReadyH.nil)
          rw [if_pos (by rfl)]
          go_simp
          refine hK.out _ _ ?_ (fun hHeld => ?_)
          · exact CELLS.out _ S11.out.three
          clear hK K
          try simp only [Act.put, List.getElem_toArray, List.getElem_cons_succ, List.getElem_cons_zero, List.setIfInBounds_toArray, List.set_cons_zero, List.set_cons_succ]
          refine wpAnyH_done (by kernel_rfl) ?_ _
          clear hHeld y2 f2 S10 N10 B10
          generalize w10.setCell ⟨G, 2, none⟩ (.slice (some ⟨gz, 0, none⟩) (b.q.length - 1 + 1) zc) = w11 at S11 ⊢
          go_wp2_with (first
            | refine wpList_load_row rfl 26 (.tmp 6) rfl G rfl 26 (bcells ({ b with q := q5, ofr := b.ofr + 1, drp := b.drp + 1 }) (.slice (some ⟨gz, 0, none⟩) (b.q.length - 1 + 1) zc)) (0, 0) _ S11.out.new Tryd.underlying26 rfl (by kernel_rfl) ?_
            | refine wpList_store_rowTo rfl 26 (.tmp 4) _ rfl rfl (w.heap.size + 1 + 1) (bcells ({ b with q := q5, ofr := b.ofr + 1, drp := b.drp + 1 }) (.slice (some ⟨gz, 0, none⟩) (b.q.length - 1 + 1) zc)) rfl rfl 26 _ S11.out.three.res (by kernel_rfl) rfl (bcells_one _ _ _ _) ?_)
          have HX := off_end S11.out (bcells ({ b with q := q5, ofr := b.ofr + 1, drp := b.drp + 1 }) (.slice (some ⟨gz, 0, none⟩) (b.q.length - 1 + 1) zc))
          exact bodyPost_ret (results_row_tmp rfl _ _ _ _ _ _ _ rfl HX.1 Tryd.underlying26 rfl (by kernel_rfl)) rfl ⟨_, by rw [HE.out]; rfl, by rw [HE.out]; exact HX.2.1, HX.2.2⟩
    have g2 : ((b.q.length : Int) == b.cap) = false := by simpa using hfu
    have HE := Lib.hid (show RR = ({ b with q := b.q ++ [m], ofr := b.ofr + 1 }, (0 : Int)) by rw [HR4.out, if_neg hfu])
    go_upto_region 13 with (fail)
    have S6 := S5.set 3 (.int .i64 (b.ofr + 1)) { b with ofr := b.ofr + 1 } rfl rfl
    generalize w5.setCell ⟨G, 3, none⟩ (.int .i64 (b.ofr + 1)) = w6 at S6 ⊢
    clear S5 x0 x1 x2 x3 y3 f3
    have y2 : w6.cell? ⟨G, 2, none⟩ = some (.slice xa b.q.length xc) := cell_of_heap S6.new 2
    have z0 : w6.cell? ⟨w.heap.size + 1, 0, none⟩ = some (.int .i64 m.1) := cell_of_heap S6.three.msg 0
    have z1 : w6.cell? ⟨w.heap.size + 1, 1, none⟩ = some (.int .i64 m.2.1) := cell_of_heap S6.three.msg 1
    have z2 : w6.cell? ⟨w.heap.size + 1, 2, none⟩ = some (.string m.2.2.1) := cell_of_heap S6.three.msg 2
    have z3 : w6.cell? ⟨w.heap.size + 1, 3, none⟩ = some (.int .i64 m.2.2.2) := cell_of_heap S6.three.msg 3
    have S7 := S6.below ((Below.refl _ _).alloc (Nat.le_refl _) (.cells #[.int .i64 m.1, .int .i64 m.2.1, .string m.2.2.1, .int .i64 m.2.2.2] 29))
    have hw6 : w.heap.size + 1 + 1 + 1 ≤ w6.heap.size := by have h1 := S6.far; have h2 := S6.ltG; omega
    clear hsh
    go_upto_region 19 with (at_builtin; go_must (refine wpList_append_own _ rfl _ _ 24 rfl (w.heap.size + 1 + 1 + 1) 29 ii (.agg #[.int .i64 0, .int .i64 0, .string ⟨#[]⟩, .int .i64 0]) 4 40 Tryd.underlying24 hi hz0 hz1 hz2 rfl (by decide) (.slice xa b.q.length xc) b.q.length (mcells b.q) rfl S7.row ⟨w6.heap.size, 0, none⟩ 1 1 (mcells [m]) rfl rfl (msg_new w6 m _) (mcells_one _) (by unfold maxLen; omega) (by omega) (by simp; omega) ?_); intro v8 w8 hown hgr _; obtain ⟨gy, yc, hyv⟩ := Joins.ownsRow_form hown (by omega); subst hyv; go_must (obtain ⟨h83, h8n, h8b⟩ := S7.app hgr; have y28 : w8.cell? ⟨G, 2, none⟩ = some (.slice xa b.q.length xc) := cell_of_heap h8n 2; have f28 : w8.frozen? ⟨G, 2, none⟩ = false := frozen_of_row _ _ _ _ _ h8n))
    have S8 := OffS.queue h83 h8n h8b S6.far (q2 := b.q ++ [m]) (by unfold MOwn; rw [List.length_append, mcells_app]; exact hown)
    generalize w8.setCell ⟨G, 2, none⟩ (.slice (some ⟨gy, 0, none⟩) (b.q.length + 1) yc) = w9 at S8 ⊢
    clear h83 h8n h8b y28 f28 S7 S6 y2 z0 z1 z2 z3 g2
    go_wp2_with (first
      | refine wpList_load_row rfl 26 (.tmp 6) rfl G rfl 26 (bcells ({ b with q := b.q ++ [m], ofr := b.ofr + 1 }) (.slice (some ⟨gy, 0, none⟩) (b.q.length + 1) yc)) (0, 0) _ S8.new Tryd.underlying26 rfl (by kernel_rfl) ?_
      | refine wpList_store_rowTo rfl 26 (.tmp 4) _ rfl rfl (w.heap.size + 1 + 1) (bcells ({ b with q := b.q ++ [m], ofr := b.ofr + 1 }) (.slice (some ⟨gy, 0, none⟩) (b.q.length + 1) yc)) rfl rfl 26 _ S8.three.res (by kernel_rfl) rfl (bcells_one _ _ _ _) ?_)
    have HX := off_end S8 (bcells ({ b with q := b.q ++ [m], ofr := b.ofr + 1 }) (.slice (some ⟨gy, 0, none⟩) (b.q.length + 1) yc))
    exact bodyPost_ret (results_row_tmp rfl _ _ _ _ _ _ _ rfl HX.1 Tryd.underlying26 rfl (by kernel_rfl)) rfl ⟨_, by rw [HE.out]; rfl, by rw [HE.out]; exact HX.2.1, HX.2.2⟩
  | some i =>
    obtain rfl : sn = (i : Int) := HSN.out
    have hi : i < b.q.length := HSI.out i rfl
    have HE := Lib.hid (show RR = ({ b with q := b.q.set i m, ofr := b.ofr + 1, mrg := b.mrg + 1 }, (2 : Int)) by rw [HR3.out]; rfl)
    clear HR3
    go_upto_region 13 with (fail)
    have S6 := S5.set 3 (.int .i64 (b.ofr + 1)) { b with ofr := b.ofr + 1 } rfl rfl
    generalize w5.setCell ⟨G, 3, none⟩ (.int .i64 (b.ofr + 1)) = w6 at S6 ⊢
    clear S5 x0 x1 x2 x3 y3 f3
    go_upto_region 14 with (fail)
    obtain ⟨gy, yc, hyv⟩ := Joins.ownsRow_form S6.row (show 0 < b.q.length by omega)
    injection hyv with hya hyn hyc
    subst hya hyc
    have y2 : w6.cell? ⟨G, 2, none⟩ = some (.slice (some ⟨gy, 0, none⟩) b.q.length xc) := cell_of_heap S6.new 2
    have hrow : w6.ownsRow (w.heap.size + 1 + 1 + 1) 29 4 (.slice (some ⟨gy, 0, none⟩) b.q.length xc) b.q.length (mcells b.q) := S6.row
    have f0 := hrow.frozenAt (i * 4)
    have f1 := hrow.frozenAt (i * 4 + 1)
    have f2 := hrow.frozenAt (i * 4 + 2)
    have f3 := hrow.frozenAt (i * 4 + 3)
    have hex : ∀ j, j < 4 → ∃ u, w6.cell? ⟨gy, i * 4 + j, none⟩ = some u := fun j hj => ⟨_, (hrow.cellAt _ (by omega)).trans (List.getElem?_eq_getElem (by rw [hrow.1]; omega))⟩
    obtain ⟨c0, k0⟩ := hex 0 (by omega)
    obtain ⟨c1, k1⟩ := hex 1 (by omega)
    obtain ⟨c2, k2⟩ := hex 2 (by omega)
    obtain ⟨c3, k3⟩ := hex 3 (by omega)
    rw [Nat.add_zero] at k0
    have S7 := S6.put (i := i) rfl hi m
    unfold put4 at S7
    clear hex hrow hsh
    go_upto_region 15 with (first
      | refine wpList_load_row rfl 29 (.tmp 3) rfl (w.heap.size + 1) rfl 29 #[.int .i64 m.1, .int .i64 m.2.1, .string m.2.2.1, .int .i64 m.2.2.2] (0, 0) _ S6.three.msg Tryd.underlying29 rfl (by kernel_rfl) ?_)
    generalize (((w6.setCell ⟨gy, i * 4, none⟩ (.int .i64 m.1)).setCell ⟨gy, i * 4 + 1, none⟩ (.int .i64 m.2.1)).setCell ⟨gy, i * 4 + 2, none⟩ (.string m.2.2.1)).setCell ⟨gy, i * 4 + 3, none⟩ (.int .i64 m.2.2.2) = w7 at S7 ⊢
    clear S6 y2 f0 f1 f2 f3 k0 k1 k2 k3
    have x6 : w7.cell? ⟨w.heap.size, 6, none⟩ = some (.int .i64 b.mrg) := cell_of_heap S7.three.box 6
    have y6 : w7.cell? ⟨G, 6, none⟩ = some (.int .i64 b.mrg) := cell_of_heap S7.new 6
    have f6 : w7.frozen? ⟨G, 6, none⟩ = false := frozen_of_row _ _ _ _ _ S7.new
    go_upto_region 16 with (fail)
    have S8 := S7.set 6 (.int .i64 (b.mrg + 1)) { b with q := b.q.set i m, ofr := b.ofr + 1, mrg := b.mrg + 1 } rfl rfl
    generalize w7.setCell ⟨G, 6, none⟩ (.int .i64 (b.mrg + 1)) = w8 at S8 ⊢
    clear S7 x6 y6 f6
    go_wp2_with (first
      | refine wpList_load_row rfl 26 (.tmp 6) rfl G rfl 26 (bcells ({ b with q := b.q.set i m, ofr := b.ofr + 1, mrg := b.mrg + 1 }) (.slice (some ⟨gy, 0, none⟩) b.q.length xc)) (0, 0) _ S8.new Tryd.underlying26 rfl (by kernel_rfl) ?_
      | refine wpList_store_rowTo rfl 26 (.tmp 4) _ rfl rfl (w.heap.size + 1 + 1) (bcells ({ b with q := b.q.set i m, ofr := b.ofr + 1, mrg := b.mrg + 1 }) (.slice (some ⟨gy, 0, none⟩) b.q.length xc)) rfl rfl 26 _ S8.three.res (by kernel_rfl) rfl (bcells_one _ _ _ _) ?_)
    have HX := off_end S8 (bcells ({ b with q := b.q.set i m, ofr := b.ofr + 1, mrg := b.mrg + 1 }) (.slice (some ⟨gy, 0, none⟩) b.q.length xc))
    exact bodyPost_ret (results_row_tmp rfl _ _ _ _ _ _ _ rfl HX.1 Tryd.underlying26 rfl (by kernel_rfl)) rfl ⟨_, by rw [HE.out]; rfl, by rw [HE.out]; exact HX.2.1, HX.2.2⟩

end Go.Proofs.YtfkikdoecoobgaaDoor
