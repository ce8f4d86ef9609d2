/- Small texts, laid together. -/
import Derived.Test.YtmfbffhbgelnnaaGreatDoorZMsgL
import Derived.Test.YtmfbffhbgelnnaaGreatDoorZB3
import Derived.Deep.Draws
import Derived.Test.YtmfbffhbgelnnaaGreatDoorZB2
import Derived.Test.YtmfbffhbgelnnaaGreatDoorZB1
import Derived.Deep.Cut
set_option linter.unusedSimpArgs false
set_option linter.unusedVariables false
/- A measure is what is left, or -1. -/
namespace Go.Proofs.YtmfbffhbgelnnaaGreatDoor
open Go.RowKit

theorem szMs_two (l : List MsgM) (a : Int) (h : 0 ≤ a) : (szMs l a < 0 ∧ szMs l a = -1) ∨ ¬ szMs l a < 0 := by
  have hT : ∀ (l : List MsgM) (a : Int), 0 ≤ a → (szMT l a < 0 ∧ szMT l a = -1) ∨ ¬ szMT l a < 0 := by
    intro l
    induction l with
    | nil => intro a h; right; simp [szMT]; omega
    | cons x l ih =>
      intro a h
      unfold szMT
      split
      · left; exact ⟨by omega, rfl⟩
      · exact ih _ (by omega)
  unfold szMs
  split
  · left; exact ⟨by omega, rfl⟩
  · exact hT l _ (by omega)

end Go.Proofs.YtmfbffhbgelnnaaGreatDoor

/- The exact laws' copies of messages, and of rings; their marks. -/
namespace Go.Proofs.YtmfbffhbgelnnaaGreatDoor
open Go.RowKit

set_option maxRecDepth 100000 in
set_option maxHeartbeats 800000 in
theorem toMsgs_any (v : Value) (l : List MsgM) (w : World) (hl : l.length ≤ 2000000) (hv : MsgsAt w v l) :
    Calls Tryz.prog 39 #[v] w fun e w' => ∃ u, e = .returned u ∧ MOwn w' w.heap.size u l ∧ Below w.heap.size w w' := by
  obtain ⟨a, c, rfl, hc1, hc2, hc3⟩ := hv
  have HC := Lib.hid hc3
  clear hc3
  obtain ⟨i, hi1, hi2, hi3, hi4⟩ := info_parts (P := Tryz.prog) (e := 97) (z := .agg #[.int .i64 0, .int .i64 0, .string ⟨#[]⟩, .int .i64 0]) (size := 4) (bytes := 40) (by kernel_rfl)
  go_enter Tryz.func39, Tryz.ntmps39
  go_wp2_with (first | (at_make; refine wpList_make_full _ rfl _ _ _ rfl w.heap.size 97 i (.agg #[.int .i64 0, .int .i64 0, .string ⟨#[]⟩, .int .i64 0]) 4 (by kernel_rfl) hi1 hi2 hi3 _ _ _ _ l.length rfl rfl rfl rfl (by rw [hi4]; omega) (by unfold maxLen; omega) (Nat.le_refl _) ?_; intro w1 hown hgr))
  have H0 : Hid (MOwn w1 w.heap.size (.slice (some ⟨w.heap.size, 0, none⟩) l.length l.length) (l.take 0 ++ List.replicate (l.length - 0) msgZ)) := Lib.hid (by
    simp only [List.take_zero, List.nil_append, Nat.sub_zero]
    unfold MOwn
    rw [List.length_replicate, ← madeCells_four]; exact hown)
  have H1 := Lib.hid ((Below.refl w.heap.size w).grown hgr (Nat.le_refl _) (fun k h => by cases h))
  clear hown hgr hi1 hi2 hi3 hi4
  obtain ⟨g, hg⟩ : ∃ g, w.heap.size = g := ⟨_, rfl⟩
  have HG := Lib.hid hg
  rw [hg] at H0 H1 ⊢
  clear hg
  go_loopw [4] (fun i wr => ∃ k : Nat, k ≤ l.length ∧ i = .int .i64 k ∧ Hid (MOwn wr g (.slice (some ⟨g, 0, none⟩) l.length l.length) (l.take k ++ List.replicate (l.length - k) msgZ)) ∧ Hid (Below g w wr)) (fun i _ => l.length - (intOf i).toNat)
  case atStart => exact ⟨0, Nat.zero_le _, rfl, H0, H1⟩
  case round =>
    obtain ⟨k, hk, rfl, HO, HB⟩ := hrel
    by_cases hlt : k < l.length
    · obtain ⟨b, o, rfl, hin⟩ : ∃ b o, a = some ⟨b, o, none⟩ ∧ MsgsIn w b o l := by
        rcases HC.out with h | h
        · subst h; simp at hlt
        · exact h
      obtain ⟨p0, p1, p2, p3⟩ := (hin.below (show Below w.heap.size w wr by rw [HG.out]; exact HB.out)) k hlt
      have CT := Lib.hid (toMsg_any l[k] wr)
      have hlen : (l.take k ++ List.replicate (l.length - k) msgZ).length = l.length := by simp; omega
      obtain ⟨x, hx⟩ : ∃ x, l[k] = x := ⟨_, rfl⟩
      have HN := Lib.hid (take_next l msgZ l.length k rfl hlt)
      rw [hx] at p0 p1 p2 p3 CT HN
      clear hin hx
      go_wp2_with fail
      refine CT.out.mono ?_
      rintro e w2 ⟨rfl, hb2⟩
      have hgr : g ≤ wr.heap.size := by have := HB.out.size; rw [HG.out] at this; exact this
      have hU2 : MOwn w2 g (.slice (some ⟨g, 0, none⟩) l.length l.length) (l.take k ++ List.replicate (l.length - k) msgZ) := row_below HO.out hb2
      have hgB : Below g w w2 := HB.out.trans (hb2.mono hgr)
      have hP := hU2.put (k := k) x hlen.symm (by rw [hlen]; exact hlt)
      rw [HN.out] at hP
      have HP := Lib.hid hP
      have hrow : w2.ownsRow g 97 4 (.slice (some ⟨g, 0, none⟩) l.length l.length) _ _ := hU2
      rw [hlen] at hrow
      have HB3 := Lib.hid (hgB.grown (grown_put4 w2 g k x) (HG.out ▸ hgB.size) (fun k h => by cases h; exact Nat.le_refl _))
      have f0 := hrow.frozenAt (k * 4)
      have f1 := hrow.frozenAt (k * 4 + 1)
      have f2 := hrow.frozenAt (k * 4 + 2)
      have f3 := hrow.frozenAt (k * 4 + 3)
      have hex : ∀ j, j < 4 → ∃ u, w2.cell? ⟨g, k * 4 + j, none⟩ = some u := fun j hj => ⟨_, (hrow.cellAt _ (by omega)).trans (List.getElem?_eq_getElem (by rw [hrow.1]; omega))⟩
      obtain ⟨z0, c0⟩ := hex 0 (by omega)
      obtain ⟨z1, c1⟩ := hex 1 (by omega)
      obtain ⟨z2, c2⟩ := hex 2 (by omega)
      obtain ⟨z3, c3⟩ := hex 3 (by omega)
      rw [Nat.add_zero] at c0
      clear hb2 hU2 hgB hP hrow HN HB p0 p1 p2 p3 hex
      unfold put4 at HP HB3
      go_wp2
      go_roundw
      case rel => exact ⟨k + 1, by omega, by go_num, HP, HB3⟩
      case measure => simp [intOf]; omega
    · obtain rfl : k = l.length := by omega
      have HE : Hid (MOwn wr w.heap.size (.slice (some ⟨g, 0, none⟩) l.length l.length) l) := Lib.hid (by have := HO.out; simp only [List.take_length, Nat.sub_self, List.replicate_zero, List.append_nil] at this; rw [HG.out]; exact this)
      have HB2 : Hid (Below w.heap.size w wr) := Lib.hid (by rw [HG.out]; exact HB.out)
      go_wp2
      go_ret
      exact ⟨_, rfl, HE.out, HB2.out⟩

end Go.Proofs.YtmfbffhbgelnnaaGreatDoor

/- The exact laws' measure, copy, look and marks of boxes. -/
namespace Go.Proofs.YtmfbffhbgelnnaaGreatDoor
open Go.RowKit

set_option maxRecDepth 100000 in
set_option maxHeartbeats 400000 in
theorem szBox_any (b : BoxM) (v : Value) (left : Int) (w : World) (h0 : 0 ≤ left) (h1 : left ≤ 1048576) (hs : ∀ x ∈ b.q, x.2.2.1.size ≤ maxLen) (hv : MsgsAt w v b.q) :
    Calls Tryz.prog 105 #[bagg b v, .int .i64 left] w fun e w' => e = .returned (.int .i64 (szMs b.q left)) ∧ Below w.heap.size w w' := by
  have CS := Lib.hid (fun wx (h : MsgsAt wx v b.q) => szMsgs_any v b.q left wx h0 h1 hs h)
  have HV := Lib.hid hv
  obtain ⟨ua, uc, rfl, _, _, _⟩ := hv
  have H2 := Lib.hid (szMs_two b.q left h0)
  obtain ⟨r, hr⟩ : ∃ r, szMs b.q left = r := ⟨_, rfl⟩
  rw [hr] at CS H2 ⊢
  clear hr hs
  go_enter Tryz.func105, Tryz.ntmps105
  go_wp2_with fail
  refine (CS.out _ (HV.out.alloc _)).mono ?_
  rintro e w2 ⟨rfl, hb⟩
  have HB := Lib.hid (((Below.refl _ w).alloc (Nat.le_refl _) _).trans (hb.mono (by simp)))
  clear hb
  rcases H2.out with ⟨h3, h4⟩ | h3
  · have g3 : decide (r < 0) = true := decide_eq_true h3
    subst h4
    clear H2 h3
    go_wp2
    go_ret
    exact ⟨rfl, HB.out⟩
  · have g3 : decide (r < 0) = false := decide_eq_false (by omega)
    clear H2 h3
    go_wp2
    go_ret
    exact ⟨rfl, HB.out⟩

set_option maxRecDepth 100000 in
set_option maxHeartbeats 3200000 in
theorem toBox_any (b : BoxM) (v : Value) (w : World) (hl : b.q.length ≤ 2000000) (hv : MsgsAt w v b.q) :
    Calls Tryz.prog 112 #[bagg b v] w fun e w' => ∃ u, e = .returned (bagg b u) ∧ MOwn w' w.heap.size u b.q ∧ Below w.heap.size w w' := by
  have CT := Lib.hid (fun wx (h : MsgsAt wx v b.q) => toMsgs_any v b.q wx hl h)
  have HV := Lib.hid hv
  obtain ⟨ua, uc, rfl, _, _, _⟩ := hv
  clear hl
  go_enter Tryz.func112, Tryz.ntmps112
  go_wp2_with fail
  have e1 : (w.alloc (.cells (bcells b (.slice ua b.q.length uc)) 87)).heap.size = w.heap.size + 1 := by simp
  have hb1 : Below w.heap.size w (w.alloc (.cells (bcells b (.slice ua b.q.length uc)) 87)) := (Below.refl _ _).alloc (Nat.le_refl _) _
  have r1 : BBox (w.alloc (.cells (bcells b (.slice ua b.q.length uc)) 87)) w.heap.size 87 b (.slice ua b.q.length uc) := BBox.new _ _ _ _
  generalize w.alloc (.cells (bcells b (.slice ua b.q.length uc)) 87) = w1 at e1 hb1 r1 ⊢
  have e2 : (w1.alloc (.cells #[.int .i64 0, .int .i64 0, .slice none 0 0, .int .i64 0, .int .i64 0, .int .i64 0, .int .i64 0, .bool false] 62)).heap.size = w.heap.size + 1 + 1 := by simp [e1]
  have hb2 : Below w.heap.size w (w1.alloc (.cells #[.int .i64 0, .int .i64 0, .slice none 0 0, .int .i64 0, .int .i64 0, .int .i64 0, .int .i64 0, .bool false] 62)) := hb1.alloc (by omega) _
  have r2 : (w1.alloc (.cells #[.int .i64 0, .int .i64 0, .slice none 0 0, .int .i64 0, .int .i64 0, .int .i64 0, .int .i64 0, .bool false] 62)).heap[w.heap.size + 1]? = some (.cells #[.int .i64 0, .int .i64 0, .slice none 0 0, .int .i64 0, .int .i64 0, .int .i64 0, .int .i64 0, .bool false] 62 (0, 0)) := by rw [← e1]; exact heap_alloc_new _ _
  have q2 := r1.below ((Below.refl _ w1).alloc (Nat.le_refl _) (.cells #[.int .i64 0, .int .i64 0, .slice none 0 0, .int .i64 0, .int .i64 0, .int .i64 0, .int .i64 0, .bool false] 62))
  generalize w1.alloc (.cells #[.int .i64 0, .int .i64 0, .slice none 0 0, .int .i64 0, .int .i64 0, .int .i64 0, .int .i64 0, .bool false] 62) = w2 at e2 hb2 r2 q2 ⊢
  have e3 : (w2.alloc (.cells #[.int .i64 b.cap, .int .i64 b.pol, .slice none 0 0, .int .i64 0, .int .i64 0, .int .i64 0, .int .i64 0, .bool false] 62)).heap.size = w.heap.size + 1 + 1 + 1 := by simp [e2]
  have hb3 : Below w.heap.size w (w2.alloc (.cells #[.int .i64 b.cap, .int .i64 b.pol, .slice none 0 0, .int .i64 0, .int .i64 0, .int .i64 0, .int .i64 0, .bool false] 62)) := hb2.alloc (by omega) _
  have k3 : (w2.alloc (.cells #[.int .i64 b.cap, .int .i64 b.pol, .slice none 0 0, .int .i64 0, .int .i64 0, .int .i64 0, .int .i64 0, .bool false] 62)).heap[w.heap.size + 1 + 1]? = some (.cells #[.int .i64 b.cap, .int .i64 b.pol, .slice none 0 0, .int .i64 0, .int .i64 0, .int .i64 0, .int .i64 0, .bool false] 62 (0, 0)) := by rw [← e2]; exact heap_alloc_new _ _
  have hq3 := (Below.refl _ w2).alloc (Nat.le_refl _) (.cells #[.int .i64 b.cap, .int .i64 b.pol, .slice none 0 0, .int .i64 0, .int .i64 0, .int .i64 0, .int .i64 0, .bool false] 62)
  have r3 := (hq3.block (w.heap.size + 1) (by omega)).trans r2
  have q3 := q2.below hq3
  generalize w2.alloc (.cells #[.int .i64 b.cap, .int .i64 b.pol, .slice none 0 0, .int .i64 0, .int .i64 0, .int .i64 0, .int .i64 0, .bool false] 62) = w3 at e3 hb3 k3 r3 q3 ⊢
  clear hq3 r2 q2 hb2 e2 hb1 r1 e1
  refine (CT.out _ (HV.out.below hb3)).mono ?_
  rintro e w4 ⟨u, rfl, ho, hb4⟩
  obtain ⟨xa, xc, hu⟩ := own_slice ho
  subst hu
  have r4 := (hb4.block _ (by omega)).trans r3
  have k4 := (hb4.block _ (by omega)).trans k3
  have q4 := q3.below hb4
  have hb : Below w.heap.size w w4 := hb3.trans (hb4.mono (by omega))
  have hw4 : w.heap.size + 1 + 1 < w4.heap.size := (Array.getElem?_eq_some_iff.1 k4).1
  have ho2 := own_mono ho (A := w.heap.size + 1 + 1 + 1) (by omega)
  have g4 : w4.grownBy w4 (some (w.heap.size + 1 + 1)) := grown_refl _ _
  -- the store of cell 2
  have a2 := q4.cells
  have fr2 : w4.frozen? ⟨w.heap.size + 1 + 1, 2, none⟩ = false := frozen_of_row _ _ _ _ _ k4
  have y2 : w4.cell? ⟨w.heap.size + 1 + 1, 2, none⟩ = some (.slice none 0 0) := cell_of_heap k4 2
  go_upto_region 5 with (fail)
  have k5 := heap_setCell_same _ _ 2 _ _ (.slice xa b.q.length xc) k4
  have g5 := grown_trans g4 (grown_setCell w4 (w.heap.size + 1 + 1) 2 (.slice xa b.q.length xc))
  have q5 := q4.grown (grown_setCell w4 (w.heap.size + 1 + 1) 2 (.slice xa b.q.length xc)) (by omega)
  generalize w4.setCell ⟨w.heap.size + 1 + 1, 2, none⟩ (.slice xa b.q.length xc) = w5 at k5 g5 q5 ⊢
  clear k4 g4 q4 fr2 y2 a2
  -- the store of cell 3
  have a3 := q5.cells
  have x3 : w5.cell? ⟨w.heap.size, 3, none⟩ = some (.int .i64 b.ofr) := cell_of_heap q5 3
  have fr3 : w5.frozen? ⟨w.heap.size + 1 + 1, 3, none⟩ = false := frozen_of_row _ _ _ _ _ k5
  have y3 : w5.cell? ⟨w.heap.size + 1 + 1, 3, none⟩ = some (.int .i64 0) := cell_of_heap k5 3
  go_upto_region 6 with (fail)
  have k6 := heap_setCell_same _ _ 3 _ _ (.int .i64 b.ofr) k5
  have g6 := grown_trans g5 (grown_setCell w5 (w.heap.size + 1 + 1) 3 (.int .i64 b.ofr))
  have q6 := q5.grown (grown_setCell w5 (w.heap.size + 1 + 1) 3 (.int .i64 b.ofr)) (by omega)
  generalize w5.setCell ⟨w.heap.size + 1 + 1, 3, none⟩ (.int .i64 b.ofr) = w6 at k6 g6 q6 ⊢
  clear k5 g5 q5 fr3 y3 a3 x3
  -- the store of cell 4
  have a4 := q6.cells
  have x4 : w6.cell? ⟨w.heap.size, 4, none⟩ = some (.int .i64 b.rcv) := cell_of_heap q6 4
  have fr4 : w6.frozen? ⟨w.heap.size + 1 + 1, 4, none⟩ = false := frozen_of_row _ _ _ _ _ k6
  have y4 : w6.cell? ⟨w.heap.size + 1 + 1, 4, none⟩ = some (.int .i64 0) := cell_of_heap k6 4
  go_upto_region 7 with (fail)
  have k7 := heap_setCell_same _ _ 4 _ _ (.int .i64 b.rcv) k6
  have g7 := grown_trans g6 (grown_setCell w6 (w.heap.size + 1 + 1) 4 (.int .i64 b.rcv))
  have q7 := q6.grown (grown_setCell w6 (w.heap.size + 1 + 1) 4 (.int .i64 b.rcv)) (by omega)
  generalize w6.setCell ⟨w.heap.size + 1 + 1, 4, none⟩ (.int .i64 b.rcv) = w7 at k7 g7 q7 ⊢
  clear k6 g6 q6 fr4 y4 a4 x4
  -- the store of cell 5
  have a5 := q7.cells
  have x5 : w7.cell? ⟨w.heap.size, 5, none⟩ = some (.int .i64 b.drp) := cell_of_heap q7 5
  have fr5 : w7.frozen? ⟨w.heap.size + 1 + 1, 5, none⟩ = false := frozen_of_row _ _ _ _ _ k7
  have y5 : w7.cell? ⟨w.heap.size + 1 + 1, 5, none⟩ = some (.int .i64 0) := cell_of_heap k7 5
  go_upto_region 8 with (fail)
  have k8 := heap_setCell_same _ _ 5 _ _ (.int .i64 b.drp) k7
  have g8 := grown_trans g7 (grown_setCell w7 (w.heap.size + 1 + 1) 5 (.int .i64 b.drp))
  have q8 := q7.grown (grown_setCell w7 (w.heap.size + 1 + 1) 5 (.int .i64 b.drp)) (by omega)
  generalize w7.setCell ⟨w.heap.size + 1 + 1, 5, none⟩ (.int .i64 b.drp) = w8 at k8 g8 q8 ⊢
  clear k7 g7 q7 fr5 y5 a5 x5
  -- the store of cell 6
  have a6 := q8.cells
  have x6 : w8.cell? ⟨w.heap.size, 6, none⟩ = some (.int .i64 b.mrg) := cell_of_heap q8 6
  have fr6 : w8.frozen? ⟨w.heap.size + 1 + 1, 6, none⟩ = false := frozen_of_row _ _ _ _ _ k8
  have y6 : w8.cell? ⟨w.heap.size + 1 + 1, 6, none⟩ = some (.int .i64 0) := cell_of_heap k8 6
  go_upto_region 9 with (fail)
  have k9 := heap_setCell_same _ _ 6 _ _ (.int .i64 b.mrg) k8
  have g9 := grown_trans g8 (grown_setCell w8 (w.heap.size + 1 + 1) 6 (.int .i64 b.mrg))
  have q9 := q8.grown (grown_setCell w8 (w.heap.size + 1 + 1) 6 (.int .i64 b.mrg)) (by omega)
  generalize w8.setCell ⟨w.heap.size + 1 + 1, 6, none⟩ (.int .i64 b.mrg) = w9 at k9 g9 q9 ⊢
  clear k8 g8 q8 fr6 y6 a6 x6
  -- the store of cell 7
  have a7 := q9.cells
  have x7 : w9.cell? ⟨w.heap.size, 7, none⟩ = some (.bool b.shut) := cell_of_heap q9 7
  have fr7 : w9.frozen? ⟨w.heap.size + 1 + 1, 7, none⟩ = false := frozen_of_row _ _ _ _ _ k9
  have y7 : w9.cell? ⟨w.heap.size + 1 + 1, 7, none⟩ = some (.bool false) := cell_of_heap k9 7
  go_upto_region 10 with (fail)
  have k10 := heap_setCell_same _ _ 7 _ _ (.bool b.shut) k9
  have g10 := grown_trans g9 (grown_setCell w9 (w.heap.size + 1 + 1) 7 (.bool b.shut))
  have q10 := q9.grown (grown_setCell w9 (w.heap.size + 1 + 1) 7 (.bool b.shut)) (by omega)
  generalize w9.setCell ⟨w.heap.size + 1 + 1, 7, none⟩ (.bool b.shut) = w10 at k10 g10 q10 ⊢
  clear k9 g9 q9 fr7 y7 a7 x7
  have r10 := (g10.block _ (by omega) (fun e => by injection e with e; omega)).trans r4
  have ho10 := own_grownN ho (by omega) g10
  have hb10 := hb.trans (below_of_grown g10 (by omega) (by omega))
  go_wp2_with (first
    | refine wpList_load_row rfl 62 (.tmp 3) rfl (w.heap.size + 1 + 1) rfl 62 (bcells b (.slice xa b.q.length xc)) (0, 0) _ k10 Tryz.underlying62 rfl (by kernel_rfl) ?_
    | refine wpList_store_rowTo rfl 62 (.tmp 2) (.tmp 29) rfl rfl (w.heap.size + 1) (bcells b (.slice xa b.q.length xc)) rfl rfl 62 _ r10 (by kernel_rfl) rfl (bcells_one _ _ _ _) ?_)
  have G := grown_setRow w10 (w.heap.size + 1) (bcells b (.slice xa b.q.length xc))
  have HR := setRow_heap (bcells b (.slice xa b.q.length xc)) r10
  have HO := own_mono (own_grownN ho10 (by omega) G) (A := w.heap.size) (by omega)
  have HB := hb10.trans (below_of_grown (n := w.heap.size) G (by omega) (by have := hb10.size; omega))
  refine bodyPost_ret (results_cell_row rfl _ _ _ _ _ _ _ rfl HR Tryz.underlying62 rfl (by kernel_rfl)) rfl ⟨_, rfl, HO, HB⟩

end Go.Proofs.YtmfbffhbgelnnaaGreatDoor

/- The exact laws' look whether two boxes are alike. -/
namespace Go.Proofs.YtmfbffhbgelnnaaGreatDoor
open Go.RowKit

set_option maxRecDepth 100000 in
set_option maxHeartbeats 800000 in
theorem eqBox_any (b : BoxM) (va vb : Value) (w : World) (hl : b.q.length ≤ 4000000) (ha : MsgsAt w va b.q) (hb : MsgsAt w vb b.q) :
    Calls Tryz.prog 121 #[bagg b va, bagg b vb] w fun e w' => e = .returned (.bool true) ∧ Below w.heap.size w w' := by
  have HA := Lib.hid ha
  have HB := Lib.hid hb
  obtain ⟨ua, uc, rfl, _, _, _⟩ := ha
  obtain ⟨ub, ud, rfl, _, _, _⟩ := hb
  have CE := Lib.hid (fun wx (h1 : MsgsAt wx (.slice ua b.q.length uc) b.q) (h2 : MsgsAt wx (.slice ub b.q.length ud) b.q) => eqMsgs_any _ _ b.q wx hl h1 h2)
  have e1 : (b.cap != b.cap) = false := by simp
  have e2 : (b.pol != b.pol) = false := by simp
  have e3 : (b.ofr != b.ofr) = false := by simp
  have e4 : (b.rcv != b.rcv) = false := by simp
  have e5 : (b.drp != b.drp) = false := by simp
  have e6 : (b.mrg != b.mrg) = false := by simp
  have e7 : (b.shut != b.shut) = false := by simp
  go_enter Tryz.func121, Tryz.ntmps121
  go_upto_region 1 with (fail)
  have s1 : (w.alloc (.cells (bcells b (.slice ua b.q.length uc)) 62)).heap.size = w.heap.size + 1 := by simp
  have b1 : Below w.heap.size w (w.alloc (.cells (bcells b (.slice ua b.q.length uc)) 62)) := (Below.refl _ _).alloc (Nat.le_refl _) _
  have r1 : BBox (w.alloc (.cells (bcells b (.slice ua b.q.length uc)) 62)) w.heap.size 62 b (.slice ua b.q.length uc) := BBox.new _ _ _ _
  generalize w.alloc (.cells (bcells b (.slice ua b.q.length uc)) 62) = w1 at s1 b1 r1 ⊢
  have b2 : Below w.heap.size w (w1.alloc (.cells (bcells b (.slice ub b.q.length ud)) 62)) := b1.alloc (by omega) _
  have r2 : BBox (w1.alloc (.cells (bcells b (.slice ub b.q.length ud)) 62)) (w.heap.size + 1) 62 b (.slice ub b.q.length ud) := by rw [← s1]; exact BBox.new _ _ _ _
  have q2 := r1.below ((Below.refl _ w1).alloc (Nat.le_refl _) (.cells (bcells b (.slice ub b.q.length ud)) 62))
  generalize w1.alloc (.cells (bcells b (.slice ub b.q.length ud)) 62) = w2 at b2 r2 q2 ⊢
  clear s1 b1 r1
  obtain ⟨x0, x1, x2, x3, x4, x5, x6, x7⟩ := q2.cells
  obtain ⟨y0, y1, y2, y3, y4, y5, y6, y7⟩ := r2.cells
  go_wp2_with fail
  refine (CE.out _ (HA.out.below b2) (HB.out.below b2)).mono ?_
  rintro e w3 ⟨rfl, hb⟩
  have HE := Lib.hid (below_end b2 hb)
  have r3 := r2.below hb
  have q3 := q2.below hb
  clear b2 hb r2 q2 x0 x1 x2 x3 x4 x5 x6 x7 y0 y1 y2 y3 y4 y5 y6 y7
  obtain ⟨x0, x1, x2, x3, x4, x5, x6, x7⟩ := q3.cells
  obtain ⟨y0, y1, y2, y3, y4, y5, y6, y7⟩ := r3.cells
  go_wp2
  go_ret
  exact ⟨rfl, HE.out⟩

end Go.Proofs.YtmfbffhbgelnnaaGreatDoor

/- The exact laws' marks laid into messages. -/
namespace Go.Proofs.YtmfbffhbgelnnaaGreatDoor
open Go.RowKit

/-- The marks from k on, laid into one message; into the first n. -/
def mmark (k : Nat) : MsgM := ((k : Nat), (k + 1 : Nat), mtext (k + 2), (k + 3 : Nat))
def mmarks (k0 n : Nat) : List MsgM := (List.range n).map fun j => mmark (k0 + j * 4)
def mmarked (l : List MsgM) (k0 k : Nat) : List MsgM := mmarks k0 k ++ l.drop k

theorem mmarks_length (k0 n : Nat) : (mmarks k0 n).length = n := by simp [mmarks]
theorem mmarked_length (l : List MsgM) (k0 k : Nat) (h : k ≤ l.length) : (mmarked l k0 k).length = l.length := by simp [mmarked, mmarks]; omega
theorem mmarked_next (l : List MsgM) (k0 k : Nat) (h : k < l.length) : (mmarked l k0 k).set k (mmark (k0 + k * 4)) = mmarked l k0 (k + 1) := by
  unfold mmarked mmarks
  rw [List.set_append_right _ _ (by simp)]
  simp only [List.length_map, List.length_range, Nat.sub_self]
  rw [List.range_succ, List.map_append, List.append_assoc]
  congr 1
  rw [List.drop_eq_getElem_cons h]
  rfl
theorem mmarked_all (l : List MsgM) (k0 : Nat) : mmarked l k0 l.length = mmarks k0 l.length := by simp [mmarked]
theorem mmarks_at (k0 n k : Nat) (h : k < (mmarks k0 n).length) : (mmarks k0 n)[k] = mmark (k0 + k * 4) := by simp [mmarks]

set_option maxRecDepth 100000 in
set_option maxHeartbeats 1600000 in
theorem markMsgs_any (v : Value) (l : List MsgM) (k0 B : Nat) (w : World) (hk0 : 1 ≤ k0) (hk1 : k0 + l.length * 4 ≤ 30000000) (hown : MOwn w B v l) :
    Calls Tryz.prog 54 #[v, .int .i64 k0] w fun e w' =>
      e = .returned (.int .i64 (k0 + l.length * 4 : Nat)) ∧ MOwn w' B v (mmarks k0 l.length) ∧ w.grownBy w' v.ownBlock := by
  rcases hown.2 with ⟨rfl, h0⟩ | ⟨g, cap, cur, rfl, _, _, hlc, hcm, _⟩
  · have hl0 : l = [] := List.length_eq_zero_iff.1 h0
    subst hl0
    go_enter Tryz.func54, Tryz.ntmps54
    go_wp2
    go_loopw [1, 5] (fun m i wr => i = .int .i64 0 ∧ m = .int .i64 k0 ∧ wr = w) (fun _ _ _ => 0)
    case atStart => exact ⟨rfl, rfl, rfl⟩
    case round =>
      obtain ⟨rfl, rfl, rfl⟩ := hrel
      go_wp2
      go_ret
      exact ⟨rfl, World.ownsRow_nil _ _ _ _, grown_refl _ _⟩
  unfold maxLen at hcm
  have HO : Hid (MOwn w B (.slice (some ⟨g, 0, none⟩) l.length cap) (mmarked l k0 0)) := Lib.hid (by simpa [mmarked, mmarks] using hown)
  clear hown
  go_enter Tryz.func54, Tryz.ntmps54
  go_wp2
  go_loopw [1, 5] (fun m i wr => ∃ k q : Nat, k ≤ l.length ∧ i = .int .i64 k ∧ m = .int .i64 q ∧ q = k0 + k * 4 ∧ Hid (MOwn wr B (.slice (some ⟨g, 0, none⟩) l.length cap) (mmarked l k0 k)) ∧ Hid (w.grownBy wr (some g))) (fun _ i _ => l.length - (intOf i).toNat)
  case atStart => exact ⟨0, k0, Nat.zero_le _, rfl, rfl, by omega, HO, grown_refl _ _⟩
  case round =>
    obtain ⟨k, q, hk, rfl, rfl, hq, H1, H2⟩ := hrel
    by_cases hlt : k < l.length
    · have hlen := mmarked_length l k0 k hk
      have CM := Lib.hid (fun wx => markText_any (q + 2) wx (by omega) (by omega))
      rw [show ((q + 2 : Nat) : Int) = (k0 : Int) + (k : Int) * 4 + 1 + 1 by omega] at CM
      have hn1 := mmarked_next l k0 k hlt
      rw [← hq] at hn1
      have HN := Lib.hid hn1
      have hrow : wr.ownsRow B 97 4 (.slice (some ⟨g, 0, none⟩) l.length cap) l.length (mcells (mmarked l k0 k)) := by have := H1.out; unfold MOwn at this; rw [hlen] at this; exact this
      have f0 := hrow.frozenAt (k * 4)
      have f1 := hrow.frozenAt (k * 4 + 1)
      have hex : ∀ j, j < 4 → ∃ u, wr.cell? ⟨g, k * 4 + j, none⟩ = some u := fun j hj => ⟨_, (hrow.cellAt _ (by omega)).trans (List.getElem?_eq_getElem (by rw [hrow.1]; omega))⟩
      obtain ⟨z0, c0⟩ := hex 0 (by omega)
      obtain ⟨z1, c1⟩ := hex 1 (by omega)
      rw [Nat.add_zero] at c0
      have HR := Lib.hid hrow
      clear hrow hex hn1
      have HC4 : Hid (((((mcells (mmarked l k0 k)).set (k * 4) (.int .i64 ((k0 : Int) + (k : Int) * 4))).set (k * 4 + 1) (.int .i64 ((k0 : Int) + (k : Int) * 4 + 1))).set (k * 4 + 2) (.string (mtext (q + 2)))).set (k * 4 + 3) (.int .i64 ((k0 : Int) + (k : Int) * 4 + 1 + 1 + 1)) = mcells (mmarked l k0 (k + 1))) := Lib.hid (by
        rw [← HN.out, ← mcells_set _ _ (mmark q) (by rw [hlen]; exact hlt)]
        have e0 : ((q : Nat) : Int) = (k0 : Int) + (k : Int) * 4 := by omega
        have e1 : ((q + 1 : Nat) : Int) = (k0 : Int) + (k : Int) * 4 + 1 := by omega
        have e3 : ((q + 3 : Nat) : Int) = (k0 : Int) + (k : Int) * 4 + 1 + 1 + 1 := by omega
        simp only [mmark, e0, e1, e3])
      have hlen2 := mmarked_length l k0 (k + 1) (by omega)
      obtain ⟨t, ht⟩ : ∃ t, mtext (q + 2) = t := ⟨_, rfl⟩
      rw [ht] at CM HC4
      clear HN ht
      go_wp2_with fail
      have row2 := ((HR.out.stored (k * 4) (.int .i64 ((k0 : Int) + (k : Int) * 4))).1.stored (k * 4 + 1) (.int .i64 ((k0 : Int) + (k : Int) * 4 + 1))).1
      have grow2 := grown_trans H2.out (grown_trans (grown_setCell wr g (k * 4) (.int .i64 ((k0 : Int) + (k : Int) * 4))) (grown_setCell _ g (k * 4 + 1) (.int .i64 ((k0 : Int) + (k : Int) * 4 + 1))))
      refine (CM.out _).mono ?_
      clear CM
      rintro e w1 ⟨rfl, hb⟩
      have row3 := row_below row2 hb
      have G3 := Lib.hid (grown_trans grow2 (grown_below (r := some g) hb))
      have hrow4 := ((row3.stored (k * 4 + 2) (.string t)).1.stored (k * 4 + 3) (.int .i64 ((k0 : Int) + (k : Int) * 4 + 1 + 1 + 1))).1
      rw [HC4.out] at hrow4
      have R4 : Hid (MOwn _ B (.slice (some ⟨g, 0, none⟩) l.length cap) (mmarked l k0 (k + 1))) := Lib.hid (by unfold MOwn; rw [hlen2]; exact hrow4)
      have G4 := Lib.hid (grown_trans G3.out (grown_trans (grown_setCell w1 g (k * 4 + 2) (.string t)) (grown_setCell _ g (k * 4 + 3) (.int .i64 ((k0 : Int) + (k : Int) * 4 + 1 + 1 + 1)))))
      have f2 := row3.frozenAt (k * 4 + 2)
      have f3 := row3.frozenAt (k * 4 + 3)
      have hex : ∀ j, j < 4 → ∃ u, w1.cell? ⟨g, k * 4 + j, none⟩ = some u := fun j hj => ⟨_, (row3.cellAt _ (by omega)).trans (List.getElem?_eq_getElem (by rw [row3.1]; omega))⟩
      obtain ⟨z2, c2⟩ := hex 2 (by omega)
      obtain ⟨z3, c3⟩ := hex 3 (by omega)
      clear row2 grow2 row3 hrow4 hb hex HC4 HR G3 H1 H2 c0 c1 f0 f1
      go_wp2
      go_roundw
      case rel => exact ⟨k + 1, k0 + (k + 1) * 4, by omega, by go_num, congrArg (Value.int .i64) (by omega), rfl, R4, G4⟩
      case measure => simp [intOf]; omega
    · obtain rfl : k = l.length := by omega
      have HE : Hid (MOwn wr B (.slice (some ⟨g, 0, none⟩) l.length cap) (mmarks k0 l.length)) := Lib.hid (by rw [← mmarked_all]; exact H1.out)
      go_wp2
      go_ret
      exact ⟨congrArg (fun x : Nat => Ending.returned (Value.int .i64 x)) hq, HE.out, H2.out⟩

set_option maxRecDepth 100000 in
set_option maxHeartbeats 1600000 in
theorem heldMsgs_any (v : Value) (k0 n : Nat) (w : World) (hk0 : 1 ≤ k0) (hk1 : k0 + n * 4 ≤ 30000000) (hv : MsgsAt w v (mmarks k0 n)) :
    Calls Tryz.prog 58 #[v, .int .i64 k0] w fun e w' => e = .returned (.int .i64 (k0 + n * 4 : Nat)) ∧ Below w.heap.size w w' := by
  obtain ⟨a, c, rfl, hc1, hc2, hc3⟩ := hv
  have HC := Lib.hid hc3
  have hn := mmarks_length k0 n
  rw [hn] at hc1 ⊢
  unfold maxLen at hc2
  clear hc3
  go_enter Tryz.func58, Tryz.ntmps58
  go_wp2
  go_loopw [1, 5] (fun m i wr => ∃ k : Nat, k ≤ n ∧ i = .int .i64 k ∧ m = .int .i64 ((k0 : Int) + (k : Int) * 4) ∧ Hid (Below w.heap.size w wr)) (fun _ i _ => n - (intOf i).toNat)
  case atStart => exact ⟨0, Nat.zero_le _, rfl, congrArg (Value.int .i64) (by omega), Below.refl _ _⟩
  case round =>
    obtain ⟨k, hk, rfl, rfl, HB⟩ := hrel
    by_cases hlt : k < n
    · obtain ⟨b, o, rfl, hin⟩ : ∃ b o, a = some ⟨b, o, none⟩ ∧ MsgsIn w b o (mmarks k0 n) := by
        rcases HC.out with h | h
        · rw [h] at hn; simp at hn; omega
        · exact h
      obtain ⟨c0, c1, c2, c3⟩ := (hin.below HB.out) k (by omega)
      rw [mmarks_at] at c0 c1 c2 c3
      have c0' : wr.cell? ⟨b, o + k * 4, none⟩ = some (.int .i64 ((k0 : Int) + (k : Int) * 4)) := c0.trans (congrArg (fun x => some (Value.int .i64 x)) (by simp only [mmark]; omega))
      have c1' : wr.cell? ⟨b, o + k * 4 + 1, none⟩ = some (.int .i64 ((k0 : Int) + (k : Int) * 4 + 1)) := c1.trans (congrArg (fun x => some (Value.int .i64 x)) (by simp only [mmark]; omega))
      have c3' : wr.cell? ⟨b, o + k * 4 + 3, none⟩ = some (.int .i64 ((k0 : Int) + (k : Int) * 4 + 1 + 1 + 1)) := c3.trans (congrArg (fun x => some (Value.int .i64 x)) (by simp only [mmark]; omega))
      have c2' : wr.cell? ⟨b, o + k * 4 + 2, none⟩ = some (.string (mtext (k0 + k * 4 + 2))) := c2
      have CM := Lib.hid (fun wx => markText_any (k0 + k * 4 + 2) wx (by omega) (by omega))
      rw [show ((k0 + k * 4 + 2 : Nat) : Int) = (k0 : Int) + (k : Int) * 4 + 1 + 1 by omega] at CM
      obtain ⟨t, ht⟩ : ∃ t, mtext (k0 + k * 4 + 2) = t := ⟨_, rfl⟩
      rw [ht] at CM c2'
      clear c0 c1 c2 c3 hin ht
      go_wp2_with fail
      refine wp_region_held_drew (S := fun wx => wx.cell? ⟨b, o + k * 4 + 2, none⟩ = some (.string t) ∧ wx.cell? ⟨b, o + k * 4 + 3, none⟩ = some (.int .i64 ((k0 : Int) + (k : Int) * 4 + 1 + 1 + 1)) ∧ Hid (Below wr.heap.size wr wx)) (by kernel_rfl) ?_ (fun hHeld => ?_)
      · exact ⟨c2', c3', Lib.hid (Below.refl _ _).drew⟩
      change wpAnyH _ _ _ _ _ 8 #[false, false, false, false, false, false, false, false] _ _
      clear c0' c1' c2' c3'
      refine wpAnyH_take (i := 0) (v := ?_) rfl (by kernel_rfl) (by kernel_rfl) (by kernel_rfl) (fun _ _ _ h => h) (Or.inl ⟨by rfl, ?_⟩) (by assumption) ?_
      rotate_left
      · intro w hSw; (try dsimp only at hSw); go_simp; try with_reducible rfl
      try simp only [Act.put, List.getElem_toArray, List.getElem_cons_succ, List.getElem_cons_zero, List.setIfInBounds_toArray, List.set_cons_zero, List.set_cons_succ]
      refine wpAnyH_take (i := 1) (v := ?_) rfl (by kernel_rfl) (by kernel_rfl) (by kernel_rfl) (fun _ _ _ h => h) (Or.inl ⟨by rfl, ?_⟩) (by assumption) ?_
      rotate_left
      · intro w hSw; (try dsimp only at hSw); go_simp; try with_reducible rfl
      try simp only [Act.put, List.getElem_toArray, List.getElem_cons_succ, List.getElem_cons_zero, List.setIfInBounds_toArray, List.set_cons_zero, List.set_cons_succ]
      refine wpAnyH_take (i := 2) (v := ?_) rfl (by kernel_rfl) (by kernel_rfl) (by kernel_rfl) (fun _ _ _ h => h) (Or.inl ⟨by rfl, ?_⟩) (by assumption) ?_
      rotate_left
      · intro w hSw; (try dsimp only at hSw); go_simp; try with_reducible rfl
      try simp only [Act.put, List.getElem_toArray, List.getElem_cons_succ, List.getElem_cons_zero, List.setIfInBounds_toArray, List.set_cons_zero, List.set_cons_succ]
      refine wpAnyH_take (i := 3) (v := ?_) rfl (by kernel_rfl) (by kernel_rfl) (by kernel_rfl) (fun _ _ _ h => h) (Or.inl ⟨by rfl, ?_⟩) (by assumption) ?_
      rotate_left
      · intro w hSw; (try dsimp only at hSw); go_simp; try with_reducible rfl
      try simp only [Act.put, List.getElem_toArray, List.getElem_cons_succ, List.getElem_cons_zero, List.setIfInBounds_toArray, List.set_cons_zero, List.set_cons_succ]
      refine wpAnyH_take (i := 4) (v := ?_) rfl (by kernel_rfl) (by kernel_rfl) (by kernel_rfl) (fun _ _ _ h => h) (Or.inl ⟨by rfl, ?_⟩) (by assumption) ?_
      rotate_left
      · intro w hSw; (try dsimp only at hSw); go_simp; try with_reducible rfl
      try simp only [Act.put, List.getElem_toArray, List.getElem_cons_succ, List.getElem_cons_zero, List.setIfInBounds_toArray, List.set_cons_zero, List.set_cons_succ]
      refine wpAnyH_take (i := 5) (v := ?_) rfl (by kernel_rfl) (by kernel_rfl) (by kernel_rfl) (fun _ _ _ h => h) (Or.inl ⟨by rfl, ?_⟩) (by assumption) ?_
      rotate_left
      · intro w hSw; (try dsimp only at hSw); go_simp; try with_reducible rfl
      try simp only [Act.put, List.getElem_toArray, List.getElem_cons_succ, List.getElem_cons_zero, List.setIfInBounds_toArray, List.set_cons_zero, List.set_cons_succ]
      refine wpAnyH_ready (rs := [6]) (by kernel_rfl) (by simp) (AllReadyH.cons rfl (fun K hK => ?_) AllReadyH.nil)
      rw [if_pos (by rfl)]
      go_simp; go_at_call 95; refine (CM.out _).mono ?_; rintro e wa ⟨rfl, hb⟩; go_wp2_with fail
      refine hK.out _ _ ?_ (fun hHeld => ?_)
      · exact ⟨(below_cell hb (World.block_lt_of_cell? _ _ hHeld.1)).trans hHeld.1, (below_cell hb (World.block_lt_of_cell? _ _ hHeld.2.1)).trans hHeld.2.1, Lib.hid (below_end hHeld.2.2.out hb)⟩
      clear hK K
      try simp only [Act.put, List.getElem_toArray, List.getElem_cons_succ, List.getElem_cons_zero, List.setIfInBounds_toArray, List.set_cons_zero, List.set_cons_succ]
      refine wpAnyH_take (i := 7) (v := ?_) rfl (by kernel_rfl) (by kernel_rfl) (by kernel_rfl) (fun _ _ _ h => h) (Or.inl ⟨by rfl, ?_⟩) (by assumption) ?_
      rotate_left
      · intro w hSw; (try dsimp only at hSw); go_simp; try with_reducible rfl
      try simp only [Act.put, List.getElem_toArray, List.getElem_cons_succ, List.getElem_cons_zero, List.setIfInBounds_toArray, List.set_cons_zero, List.set_cons_succ]
      refine wpAnyH_done (by kernel_rfl) ?_ _
      have c3 := hHeld.2.1
      have B2 := Lib.hid (below_end HB.out hHeld.2.2.out)
      clear hHeld HB CM
      go_wp2
      go_roundw
      case rel => exact ⟨k + 1, by omega, by go_num, congrArg (Value.int .i64) (by omega), B2⟩
      case measure => simp [intOf]; omega
    · obtain rfl : k = n := by omega
      go_wp2
      go_ret
      exact ⟨congrArg (fun x => Ending.returned (Value.int .i64 x)) (by omega), HB.out⟩

end Go.Proofs.YtmfbffhbgelnnaaGreatDoor

/- The exact laws' measure, copy, look and marks of rings. -/
namespace Go.Proofs.YtmfbffhbgelnnaaGreatDoor
open Go.RowKit

/-- The ring lies boxed in block B. -/
def RBox (w : World) (B : Nat) (T : TypeId) (cap : Int) (v : Value) : Prop := w.heap[B]? = some (.cells #[.int .i64 cap, v] T (0, 0))
theorem RBox.below {w w' : World} {B : Nat} {T : TypeId} {cap : Int} {v : Value} (h : RBox w B T cap v) (hb : Below w.heap.size w w') : RBox w' B T cap v := (hb.block _ (Array.getElem?_eq_some_iff.1 h).1).trans h
theorem RBox.new (w : World) (T : TypeId) (cap : Int) (v : Value) : RBox (w.alloc (.cells #[.int .i64 cap, v] T)) w.heap.size T cap v := heap_alloc_new _ _
theorem RBox.cells {w : World} {B : Nat} {T : TypeId} {cap : Int} {v : Value} (h : RBox w B T cap v) : w.cell? ⟨B, 0, none⟩ = some (.int .i64 cap) ∧ w.cell? ⟨B, 1, none⟩ = some v := by
  unfold RBox at h
  refine ⟨?_, ?_⟩ <;> simp [World.cell?, h]

theorem own_farN {w : World} {B n size g j : Nat} {E : TypeId} {u v : Value} {xs : List Value} (h : w.ownsRow B E size v n xs) (hg : g < B) : (w.setCell ⟨g, j, none⟩ u).ownsRow B E size v n xs :=
  h.kept (grown_setCell w g j u) (by
    cases e : v.ownBlock with
    | none => exact .inl rfl
    | some k => exact .inr (by have := (h.lt k e).1; intro e2; cases e2; omega))

set_option maxRecDepth 100000 in
set_option maxHeartbeats 400000 in
theorem szRing_any (cap : Int) (v : Value) (l : List MsgM) (left : Int) (w : World) (h0 : 0 ≤ left) (h1 : left ≤ 1048576) (hs : ∀ x ∈ l, x.2.2.1.size ≤ maxLen) (hv : MsgsAt w v l) :
    Calls Tryz.prog 26 #[.agg #[.int .i64 cap, v], .int .i64 left] w fun e w' => e = .returned (.int .i64 (szMs l left)) ∧ Below w.heap.size w w' := by
  have CS := Lib.hid (fun wx (h : MsgsAt wx v l) => szMsgs_any v l left wx h0 h1 hs h)
  have HV := Lib.hid hv
  obtain ⟨ua, uc, rfl, _, _, _⟩ := hv
  have H2 := Lib.hid (szMs_two l left h0)
  obtain ⟨r, hr⟩ : ∃ r, szMs l left = r := ⟨_, rfl⟩
  rw [hr] at CS H2 ⊢
  clear hr hs
  go_enter Tryz.func26, Tryz.ntmps26
  go_wp2_with fail
  refine (CS.out _ (HV.out.alloc _)).mono ?_
  rintro e w2 ⟨rfl, hb⟩
  have HB := Lib.hid (((Below.refl _ w).alloc (Nat.le_refl _) _).trans (hb.mono (by simp)))
  clear hb
  rcases H2.out with ⟨h3, h4⟩ | h3
  · have g3 : decide (r < 0) = true := decide_eq_true h3
    subst h4
    clear H2 h3
    go_wp2
    go_ret
    exact ⟨rfl, HB.out⟩
  · have g3 : decide (r < 0) = false := decide_eq_false (by omega)
    clear H2 h3
    go_wp2
    go_ret
    exact ⟨rfl, HB.out⟩

set_option maxRecDepth 100000 in
set_option maxHeartbeats 800000 in
theorem toRing_any (cap : Int) (v : Value) (l : List MsgM) (w : World) (hl : l.length ≤ 2000000) (hv : MsgsAt w v l) :
    Calls Tryz.prog 40 #[.agg #[.int .i64 cap, v]] w fun e w' => ∃ u, e = .returned (.agg #[.int .i64 cap, u]) ∧ MOwn w' w.heap.size u l ∧ Below w.heap.size w w' := by
  have CT := Lib.hid (fun wx (h : MsgsAt wx v l) => toMsgs_any v l wx hl h)
  have HV := Lib.hid hv
  clear hl hv
  go_enter Tryz.func40, Tryz.ntmps40
  go_wp2_with fail
  obtain ⟨w1, hw1⟩ : ∃ w1, w.alloc (.cells #[.int .i64 cap, v] 26) = w1 := ⟨_, rfl⟩
  have hs1 : w1.heap.size = w.heap.size + 1 := by rw [← hw1]; simp
  have hb1 : Below w.heap.size w w1 := by rw [← hw1]; exact (Below.refl _ _).alloc (Nat.le_refl _) _
  rw [hw1]
  obtain ⟨w2, hw2⟩ : ∃ w2, w1.alloc (.cells #[.int .i64 0, .slice none 0 0] 35) = w2 := ⟨_, rfl⟩
  have hs2 : w2.heap.size = w.heap.size + 1 + 1 := by rw [← hw2]; simp [hs1]
  have hb2 : Below w.heap.size w w2 := by rw [← hw2]; exact hb1.alloc (by omega) _
  have r2 : w2.heap[w.heap.size + 1]? = some (.cells #[.int .i64 0, .slice none 0 0] 35 (0, 0)) := by rw [← hw2, ← hs1]; exact heap_alloc_new _ _
  rw [hw2]
  obtain ⟨w3, hw3⟩ : ∃ w3, w2.alloc (.cells #[.int .i64 cap, .slice none 0 0] 35) = w3 := ⟨_, rfl⟩
  have hs3 : w3.heap.size = w.heap.size + 1 + 1 + 1 := by rw [← hw3]; simp [hs2]
  have hb3 : Below w.heap.size w w3 := by rw [← hw3]; exact hb2.alloc (by omega) _
  have k3 : w3.heap[w.heap.size + 1 + 1]? = some (.cells #[.int .i64 cap, .slice none 0 0] 35 (0, 0)) := by rw [← hw3, ← hs2]; exact heap_alloc_new _ _
  have r3 : w3.heap[w.heap.size + 1]? = some (.cells #[.int .i64 0, .slice none 0 0] 35 (0, 0)) := by rw [← hw3]; exact (((Below.refl _ w2).alloc (Nat.le_refl _) _).block _ (by omega)).trans r2
  rw [hw3]
  refine (CT.out _ (HV.out.below hb3)).mono ?_
  rintro e w4 ⟨u, rfl, ho, hb4⟩
  obtain ⟨ua, uc, hu⟩ := own_slice ho
  subst hu
  have r4 : w4.heap[w.heap.size + 1]? = some (.cells #[.int .i64 0, .slice none 0 0] 35 (0, 0)) := (hb4.block _ (by omega)).trans r3
  have k4 : w4.heap[w.heap.size + 1 + 1]? = some (.cells #[.int .i64 cap, .slice none 0 0] 35 (0, 0)) := (hb4.block _ (by omega)).trans k3
  have hb : Below w.heap.size w w4 := hb3.trans (hb4.mono (by omega))
  have ho2 := own_mono ho (A := w.heap.size + 1 + 1 + 1) (by omega)
  have h1 : w4.cell? ⟨w.heap.size + 1 + 1, 0, none⟩ = some (.int .i64 cap) := cell_of_heap k4 0
  have h2 : w4.cell? ⟨w.heap.size + 1 + 1, 1, none⟩ = some (.slice none 0 0) := cell_of_heap k4 1
  have h3 : w4.frozen? ⟨w.heap.size + 1 + 1, 1, none⟩ = false := frozen_of_row _ _ _ _ _ k4
  have h4 : w4.cell? ⟨w.heap.size + 1, 0, none⟩ = some (.int .i64 0) := cell_of_heap r4 0
  have h5 : w4.cell? ⟨w.heap.size + 1, 1, none⟩ = some (.slice none 0 0) := cell_of_heap r4 1
  have h6 : w4.frozen? ⟨w.heap.size + 1, 0, none⟩ = false := frozen_of_row _ _ _ _ _ r4
  have h7 : w4.frozen? ⟨w.heap.size + 1, 1, none⟩ = false := frozen_of_row _ _ _ _ _ r4
  have HE : Hid (MOwn (((w4.setCell ⟨w.heap.size + 1 + 1, 1, none⟩ (.slice ua l.length uc)).setCell ⟨w.heap.size + 1, 0, none⟩ (.int .i64 cap)).setCell ⟨w.heap.size + 1, 1, none⟩ (.slice ua l.length uc)) w.heap.size (.slice ua l.length uc) l) :=
    Lib.hid (own_mono (own_farN (own_farN (own_farN ho2 (by omega)) (by omega)) (by omega)) (by omega))
  have HR : Hid ((((w4.setCell ⟨w.heap.size + 1 + 1, 1, none⟩ (.slice ua l.length uc)).setCell ⟨w.heap.size + 1, 0, none⟩ (.int .i64 cap)).setCell ⟨w.heap.size + 1, 1, none⟩ (.slice ua l.length uc)).heap[w.heap.size + 1]? = some (.cells #[.int .i64 cap, .slice ua l.length uc] 35 (0, 0))) := Lib.hid (by
    have q1 := (heap_setCell_other w4 ⟨w.heap.size + 1 + 1, 1, none⟩ (w.heap.size + 1) (.slice ua l.length uc) (by simp)).trans r4
    have q2 := heap_setCell_same _ _ 0 _ _ (.int .i64 cap) q1
    exact heap_setCell_same _ _ 1 _ _ (.slice ua l.length uc) q2)
  clear r2 k3 r3 r4 k4 ho ho2 hw1 hw2 hw3 hs1 hs2 hs3 hb1 hb2 hb3 hb4
  have HB : Hid (Below w.heap.size w (((w4.setCell ⟨w.heap.size + 1 + 1, 1, none⟩ (.slice ua l.length uc)).setCell ⟨w.heap.size + 1, 0, none⟩ (.int .i64 cap)).setCell ⟨w.heap.size + 1, 1, none⟩ (.slice ua l.length uc))) :=
    Lib.hid (((hb.grown (grown_setCell _ _ _ _) hb.size (fun k h => by cases h; omega)).grown (grown_setCell _ _ _ _) (by simp; exact hb.size) (fun k h => by cases h; omega)).grown (grown_setCell _ _ _ _) (by simp; exact hb.size) (fun k h => by cases h; omega))
  clear hb
  go_wp2
  refine bodyPost_ret (results_cell_row rfl _ _ _ _ _ _ _ rfl HR.out Tryz.underlying35 rfl (by kernel_rfl)) rfl ⟨_, rfl, HE.out, HB.out⟩

set_option maxRecDepth 100000 in
set_option maxHeartbeats 400000 in
theorem eqRing_any (cap : Int) (va vb : Value) (l : List MsgM) (w : World) (hl : l.length ≤ 4000000) (ha : MsgsAt w va l) (hb : MsgsAt w vb l) :
    Calls Tryz.prog 50 #[.agg #[.int .i64 cap, va], .agg #[.int .i64 cap, vb]] w fun e w' => e = .returned (.bool true) ∧ Below w.heap.size w w' := by
  have HA := Lib.hid ha
  have HB := Lib.hid hb
  obtain ⟨ua, uc, rfl, _, _, _⟩ := ha
  obtain ⟨ub, ud, rfl, _, _, _⟩ := hb
  have CE := Lib.hid (fun wx (h1 : MsgsAt wx (.slice ua l.length uc) l) (h2 : MsgsAt wx (.slice ub l.length ud) l) => eqMsgs_any _ _ l wx hl h1 h2)
  have e1 : (cap != cap) = false := by simp
  go_enter Tryz.func50, Tryz.ntmps50
  go_wp2_with fail
  have hb2 : Below w.heap.size w ((w.alloc (.cells #[.int .i64 cap, .slice ua l.length uc] 35)).alloc (.cells #[.int .i64 cap, .slice ub l.length ud] 35)) := ((Below.refl _ _).alloc (Nat.le_refl _) _).alloc (by simp) _
  refine (CE.out _ (HA.out.below hb2) (HB.out.below hb2)).mono ?_
  rintro e w2 ⟨rfl, hb⟩
  have HE := Lib.hid (below_end hb2 hb)
  clear hb2 hb
  go_wp2
  go_ret
  exact ⟨rfl, HE.out⟩

set_option maxRecDepth 100000 in
set_option maxHeartbeats 400000 in
theorem markRing_any (cap : Int) (v : Value) (l : List MsgM) (k0 B : Nat) (w : World) (hk0 : 1 ≤ k0) (hk1 : k0 + l.length * 4 ≤ 30000000) (hown : MOwn w B v l) :
    Calls Tryz.prog 55 #[.agg #[.int .i64 cap, v], .int .i64 k0] w fun e w' =>
      e = .returned (.int .i64 (k0 + l.length * 4 : Nat)) ∧ MOwn w' B v (mmarks k0 l.length) ∧ w.grownBy w' v.ownBlock := by
  have CK := Lib.hid (fun wx (h : MOwn wx B v l) => markMsgs_any v l k0 B wx hk0 hk1 h)
  have HO := Lib.hid hown
  obtain ⟨ua, uc, rfl⟩ := own_slice hown
  obtain ⟨m, hm⟩ : ∃ m, ((k0 + l.length * 4 : Nat) : Int) = m := ⟨_, rfl⟩
  rw [hm] at CK ⊢
  clear hown hm
  go_enter Tryz.func55, Tryz.ntmps55
  go_wp2_with fail
  have ha := (Below.refl w.heap.size w).alloc (Nat.le_refl _) (.cells #[.int .i64 cap, .slice ua l.length uc] 35)
  refine (CK.out _ (row_below HO.out ha)).mono ?_
  rintro e w2 ⟨rfl, ho, hg⟩
  have HE := Lib.hid ho
  have HG := Lib.hid (grown_trans (grown_below ha) hg)
  clear ho hg ha CK
  go_wp2
  go_ret
  exact ⟨rfl, HE.out, HG.out⟩

set_option maxRecDepth 100000 in
set_option maxHeartbeats 400000 in
theorem heldRing_any (cap : Int) (v : Value) (k0 n : Nat) (w : World) (hk0 : 1 ≤ k0) (hk1 : k0 + n * 4 ≤ 30000000) (hv : MsgsAt w v (mmarks k0 n)) :
    Calls Tryz.prog 59 #[.agg #[.int .i64 cap, v], .int .i64 k0] w fun e w' => e = .returned (.int .i64 (k0 + n * 4 : Nat)) ∧ Below w.heap.size w w' := by
  have CH := Lib.hid (fun wx (h : MsgsAt wx v (mmarks k0 n)) => heldMsgs_any v k0 n wx hk0 hk1 h)
  have HV := Lib.hid hv
  obtain ⟨ua, uc, rfl, _, _, _⟩ := hv
  obtain ⟨m, hm⟩ : ∃ m, ((k0 + n * 4 : Nat) : Int) = m := ⟨_, rfl⟩
  have g1 : decide (m < 0) = false := decide_eq_false (by omega)
  rw [hm] at CH ⊢
  clear hm
  go_enter Tryz.func59, Tryz.ntmps59
  go_wp2_with fail
  refine (CH.out _ (HV.out.alloc _)).mono ?_
  rintro e w2 ⟨rfl, hb⟩
  have HB := Lib.hid (((Below.refl _ w).alloc (Nat.le_refl _) _).trans (hb.mono (by simp)))
  clear hb
  go_wp2
  go_ret
  exact ⟨rfl, HB.out⟩

end Go.Proofs.YtmfbffhbgelnnaaGreatDoor

/- The copies of subs that the exact laws make of their arguments. -/
namespace Go.Proofs.YtmfbffhbgelnnaaGreatDoor
open Go.RowKit

theorem scells_one (s : SubM) (a : Option Addr) (n c : Nat) : (#[.string s.fil, .int .i64 s.box.cap, .int .i64 s.box.pol, .slice a n c, .int .i64 s.box.ofr, .int .i64 s.box.rcv, .int .i64 s.box.drp, .int .i64 s.box.mrg, .bool s.box.shut, .bool s.live] : Array Value).all (·.oneCell') = true := by simp [Value.oneCell']

set_option maxRecDepth 100000 in
set_option maxHeartbeats 3200000 in
theorem toSub_any (s : SubM) (v : Value) (w : World) (hl : s.box.q.length ≤ 2000000) (hv : MsgsAt w v s.box.q) :
    Calls Tryz.prog 78 #[sagg s v] w fun e w' => ∃ u, e = .returned (sagg s u) ∧ MOwn w' w.heap.size u s.box.q ∧ Below w.heap.size w w' := by
  have CT := Lib.hid (fun wx (h : MsgsAt wx v s.box.q) => toBox_any s.box v wx hl h)
  have HV := Lib.hid hv
  obtain ⟨ua, uc, rfl, _, _, _⟩ := hv
  clear hl
  go_enter Tryz.func78, Tryz.ntmps78
  go_upto_region 1 with (fail)
  have e1 : (w.alloc (.cells #[.string s.fil, .int .i64 s.box.cap, .int .i64 s.box.pol, .slice ua s.box.q.length uc, .int .i64 s.box.ofr, .int .i64 s.box.rcv, .int .i64 s.box.drp, .int .i64 s.box.mrg, .bool s.box.shut, .bool s.live] 89)).heap.size = w.heap.size + 1 := by simp
  have hb1 : Below w.heap.size w (w.alloc (.cells #[.string s.fil, .int .i64 s.box.cap, .int .i64 s.box.pol, .slice ua s.box.q.length uc, .int .i64 s.box.ofr, .int .i64 s.box.rcv, .int .i64 s.box.drp, .int .i64 s.box.mrg, .bool s.box.shut, .bool s.live] 89)) := (Below.refl _ _).alloc (Nat.le_refl _) _
  have q1 : (w.alloc (.cells #[.string s.fil, .int .i64 s.box.cap, .int .i64 s.box.pol, .slice ua s.box.q.length uc, .int .i64 s.box.ofr, .int .i64 s.box.rcv, .int .i64 s.box.drp, .int .i64 s.box.mrg, .bool s.box.shut, .bool s.live] 89)).heap[w.heap.size]? = some (.cells #[.string s.fil, .int .i64 s.box.cap, .int .i64 s.box.pol, .slice ua s.box.q.length uc, .int .i64 s.box.ofr, .int .i64 s.box.rcv, .int .i64 s.box.drp, .int .i64 s.box.mrg, .bool s.box.shut, .bool s.live] 89 (0, 0)) := heap_alloc_new _ _
  change Code.wp _ _ _ _ ((w.alloc (.cells #[.string s.fil, .int .i64 s.box.cap, .int .i64 s.box.pol, .slice ua s.box.q.length uc, .int .i64 s.box.ofr, .int .i64 s.box.rcv, .int .i64 s.box.drp, .int .i64 s.box.mrg, .bool s.box.shut, .bool s.live] 89)).alloc (.cells #[.string ⟨#[]⟩, .int .i64 0, .int .i64 0, .slice none 0 0, .int .i64 0, .int .i64 0, .int .i64 0, .int .i64 0, .bool false, .bool false] 64))
  generalize w.alloc (.cells #[.string s.fil, .int .i64 s.box.cap, .int .i64 s.box.pol, .slice ua s.box.q.length uc, .int .i64 s.box.ofr, .int .i64 s.box.rcv, .int .i64 s.box.drp, .int .i64 s.box.mrg, .bool s.box.shut, .bool s.live] 89) = w1 at e1 hb1 q1 ⊢
  have e2 : (w1.alloc (.cells #[.string ⟨#[]⟩, .int .i64 0, .int .i64 0, .slice none 0 0, .int .i64 0, .int .i64 0, .int .i64 0, .int .i64 0, .bool false, .bool false] 64)).heap.size = w.heap.size + 1 + 1 := by simp [e1]
  have hq2 := (Below.refl w1.heap.size w1).alloc (Nat.le_refl _) (.cells #[.string ⟨#[]⟩, .int .i64 0, .int .i64 0, .slice none 0 0, .int .i64 0, .int .i64 0, .int .i64 0, .int .i64 0, .bool false, .bool false] 64)
  have hb2 : Below w.heap.size w (w1.alloc (.cells #[.string ⟨#[]⟩, .int .i64 0, .int .i64 0, .slice none 0 0, .int .i64 0, .int .i64 0, .int .i64 0, .int .i64 0, .bool false, .bool false] 64)) := below_end hb1 hq2
  have r2 : (w1.alloc (.cells #[.string ⟨#[]⟩, .int .i64 0, .int .i64 0, .slice none 0 0, .int .i64 0, .int .i64 0, .int .i64 0, .int .i64 0, .bool false, .bool false] 64)).heap[w.heap.size + 1]? = some (.cells #[.string ⟨#[]⟩, .int .i64 0, .int .i64 0, .slice none 0 0, .int .i64 0, .int .i64 0, .int .i64 0, .int .i64 0, .bool false, .bool false] 64 (0, 0)) := by rw [← e1]; exact heap_alloc_new _ _
  have q2 := (hq2.block _ (by omega)).trans q1
  generalize w1.alloc (.cells #[.string ⟨#[]⟩, .int .i64 0, .int .i64 0, .slice none 0 0, .int .i64 0, .int .i64 0, .int .i64 0, .int .i64 0, .bool false, .bool false] 64) = w2 at e2 hb2 r2 q2 ⊢
  clear e1 hb1 q1 hq2
  have x0 : w2.cell? ⟨w.heap.size, 0, none⟩ = some (.string s.fil) := cell_of_heap q2 0
  go_upto_region 3 with (fail)
  have hq3 := (Below.refl w2.heap.size w2).alloc (Nat.le_refl _) (.cells #[.string s.fil, .int .i64 0, .int .i64 0, .slice none 0 0, .int .i64 0, .int .i64 0, .int .i64 0, .int .i64 0, .bool false, .bool false] 64)
  have k3 : (w2.alloc (.cells #[.string s.fil, .int .i64 0, .int .i64 0, .slice none 0 0, .int .i64 0, .int .i64 0, .int .i64 0, .int .i64 0, .bool false, .bool false] 64)).heap[w2.heap.size]? = some (.cells #[.string s.fil, .int .i64 0, .int .i64 0, .slice none 0 0, .int .i64 0, .int .i64 0, .int .i64 0, .int .i64 0, .bool false, .bool false] 64 (0, 0)) := heap_alloc_new _ _
  have hb3 := below_end hb2 hq3
  have r3 := (hq3.block _ (by omega)).trans r2
  have q3 := (hq3.block _ (by omega)).trans q2
  rw [e2] at k3
  try rw [e2]
  change Code.wp _ _ _ _ (w2.alloc (.cells #[.string s.fil, .int .i64 0, .int .i64 0, .slice none 0 0, .int .i64 0, .int .i64 0, .int .i64 0, .int .i64 0, .bool false, .bool false] 64))
  generalize w2.alloc (.cells #[.string s.fil, .int .i64 0, .int .i64 0, .slice none 0 0, .int .i64 0, .int .i64 0, .int .i64 0, .int .i64 0, .bool false, .bool false] 64) = w3 at k3 hb3 r3 q3 ⊢
  clear e2 hb2 r2 q2 hq3 x0
  have x1 : w3.cell? ⟨w.heap.size, 1, none⟩ = some (.int .i64 s.box.cap) := cell_of_heap q3 1
  have x2 : w3.cell? ⟨w.heap.size, 2, none⟩ = some (.int .i64 s.box.pol) := cell_of_heap q3 2
  have x3 : w3.cell? ⟨w.heap.size, 3, none⟩ = some (.slice ua s.box.q.length uc) := cell_of_heap q3 3
  have x4 : w3.cell? ⟨w.heap.size, 4, none⟩ = some (.int .i64 s.box.ofr) := cell_of_heap q3 4
  have x5 : w3.cell? ⟨w.heap.size, 5, none⟩ = some (.int .i64 s.box.rcv) := cell_of_heap q3 5
  have x6 : w3.cell? ⟨w.heap.size, 6, none⟩ = some (.int .i64 s.box.drp) := cell_of_heap q3 6
  have x7 : w3.cell? ⟨w.heap.size, 7, none⟩ = some (.int .i64 s.box.mrg) := cell_of_heap q3 7
  have x8 : w3.cell? ⟨w.heap.size, 8, none⟩ = some (.bool s.box.shut) := cell_of_heap q3 8
  go_wp2_with fail
  refine (CT.out _ (HV.out.below hb3)).mono ?_
  rintro e w4 ⟨u, rfl, ho, hb⟩
  obtain ⟨xa, xc, hu⟩ := own_slice ho
  subst hu
  have s3 : w.heap.size + 1 + 1 < w3.heap.size := (Array.getElem?_eq_some_iff.1 k3).1
  have k4 := (hb.block _ s3).trans k3
  have r4 := (hb.block _ (by omega)).trans r3
  have q4 := (hb.block _ (by omega)).trans q3
  have hb4 := below_end hb3 hb
  have o4 : MOwn w4 (w.heap.size + 1 + 1 + 1) _ _ := own_mono ho s3
  clear ho hb hb3 k3 r3 q3 x1 x2 x3 x4 x5 x6 x7 x8 s3 CT
  go_upto_region 4 with (refine wpList_store_mid rfl 62 (.tmp 10) (.tmp 9) rfl (w.heap.size + 1 + 1) 1 (bcells s.box (.slice xa s.box.q.length xc)) rfl rfl (there_of_heap k4 (by show 1 + 8 ≤ 10; omega)) (by kernel_rfl) (bcells_one _ _ _ _) ?_)
  have g5 := grown_setCells (w.heap.size + 1 + 1) [.int .i64 s.box.cap, .int .i64 s.box.pol, .slice xa s.box.q.length xc, .int .i64 s.box.ofr, .int .i64 s.box.rcv, .int .i64 s.box.drp, .int .i64 s.box.mrg, .bool s.box.shut] 1 w4
  have k5 := heap_setCells (w.heap.size + 1 + 1) 64 [.int .i64 s.box.cap, .int .i64 s.box.pol, .slice xa s.box.q.length xc, .int .i64 s.box.ofr, .int .i64 s.box.rcv, .int .i64 s.box.drp, .int .i64 s.box.mrg, .bool s.box.shut] 1 w4 _ k4
  simp only [setA, List.setIfInBounds_toArray, List.set_cons_succ, List.set_cons_zero] at k5
  have r5 := (g5.block _ (by have := (Array.getElem?_eq_some_iff.1 k4).1; omega) (fun e => by injection e with e; omega)).trans r4
  have q5 := (g5.block _ (by have := (Array.getElem?_eq_some_iff.1 k4).1; omega) (fun e => by injection e with e; omega)).trans q4
  have hb5 := hb4.trans (below_of_grown (n := w.heap.size) g5 (by omega) hb4.size)
  have o5 := own_grownN o4 (by omega) g5
  change Code.wp _ _ _ _ (w4.setCells (w.heap.size + 1 + 1) 1 [.int .i64 s.box.cap, .int .i64 s.box.pol, .slice xa s.box.q.length xc, .int .i64 s.box.ofr, .int .i64 s.box.rcv, .int .i64 s.box.drp, .int .i64 s.box.mrg, .bool s.box.shut])
  generalize w4.setCells (w.heap.size + 1 + 1) 1 [.int .i64 s.box.cap, .int .i64 s.box.pol, .slice xa s.box.q.length xc, .int .i64 s.box.ofr, .int .i64 s.box.rcv, .int .i64 s.box.drp, .int .i64 s.box.mrg, .bool s.box.shut] = w5 at k5 r5 q5 hb5 o5 ⊢
  clear k4 r4 q4 hb4 o4 g5
  have x9 : w5.cell? ⟨w.heap.size, 9, none⟩ = some (.bool s.live) := cell_of_heap q5 9
  have y9 : w5.cell? ⟨w.heap.size + 1 + 1, 9, none⟩ = some (.bool false) := cell_of_heap k5 9
  have f9 : w5.frozen? ⟨w.heap.size + 1 + 1, 9, none⟩ = false := frozen_of_row _ _ _ _ _ k5
  go_upto_region 5 with (fail)
  have g6 := grown_setCell w5 (w.heap.size + 1 + 1) 9 (.bool s.live)
  have k6 : (w5.setCell ⟨w.heap.size + 1 + 1, 9, none⟩ (.bool s.live)).heap[w.heap.size + 1 + 1]? = some (.cells #[.string s.fil, .int .i64 s.box.cap, .int .i64 s.box.pol, .slice xa s.box.q.length xc, .int .i64 s.box.ofr, .int .i64 s.box.rcv, .int .i64 s.box.drp, .int .i64 s.box.mrg, .bool s.box.shut, .bool s.live] 64 (0, 0)) := heap_setCell_same _ _ 9 _ _ (.bool s.live) k5
  have r6 := (g6.block _ (by have := (Array.getElem?_eq_some_iff.1 k5).1; omega) (fun e => by injection e with e; omega)).trans r5
  have hb6 := hb5.trans (below_of_grown (n := w.heap.size) g6 (by omega) hb5.size)
  have o6 := own_grownN o5 (by omega) g6
  generalize w5.setCell ⟨w.heap.size + 1 + 1, 9, none⟩ (.bool s.live) = w6 at k6 r6 hb6 o6 ⊢
  clear k5 r5 q5 hb5 o5 g6 x9 y9 f9
  go_wp2_with (first
    | refine wpList_load_row rfl 64 (.tmp 3) rfl (w.heap.size + 1 + 1) rfl 64 (#[.string s.fil, .int .i64 s.box.cap, .int .i64 s.box.pol, .slice xa s.box.q.length xc, .int .i64 s.box.ofr, .int .i64 s.box.rcv, .int .i64 s.box.drp, .int .i64 s.box.mrg, .bool s.box.shut, .bool s.live]) (0, 0) _ k6 Tryz.underlying64 rfl (by kernel_rfl) ?_
    | refine wpList_store_rowTo rfl 64 (.tmp 2) (.tmp 14) rfl rfl (w.heap.size + 1) (#[.string s.fil, .int .i64 s.box.cap, .int .i64 s.box.pol, .slice xa s.box.q.length xc, .int .i64 s.box.ofr, .int .i64 s.box.rcv, .int .i64 s.box.drp, .int .i64 s.box.mrg, .bool s.box.shut, .bool s.live]) rfl rfl 64 _ r6 (by kernel_rfl) rfl (scells_one _ _ _ _) ?_)
  have G := grown_setRow w6 (w.heap.size + 1) (#[.string s.fil, .int .i64 s.box.cap, .int .i64 s.box.pol, .slice xa s.box.q.length xc, .int .i64 s.box.ofr, .int .i64 s.box.rcv, .int .i64 s.box.drp, .int .i64 s.box.mrg, .bool s.box.shut, .bool s.live])
  have HR := setRow_heap (#[.string s.fil, .int .i64 s.box.cap, .int .i64 s.box.pol, .slice xa s.box.q.length xc, .int .i64 s.box.ofr, .int .i64 s.box.rcv, .int .i64 s.box.drp, .int .i64 s.box.mrg, .bool s.box.shut, .bool s.live]) r6
  have HO := own_mono (own_grownN o6 (by omega) G) (A := w.heap.size) (by omega)
  have HB := hb6.trans (below_of_grown (n := w.heap.size) G (by omega) hb6.size)
  refine bodyPost_ret (results_cell_row rfl _ _ _ _ _ _ _ rfl HR Tryz.underlying64 rfl (by kernel_rfl)) rfl ⟨_, rfl, HO, HB⟩

end Go.Proofs.YtmfbffhbgelnnaaGreatDoor

/- The copies of rows of subs that the exact laws make of their arguments. -/
namespace Go.Proofs.YtmfbffhbgelnnaaGreatDoor
open Go.RowKit

set_option maxRecDepth 100000 in
set_option maxHeartbeats 1600000 in
theorem toSubs_any (v : Value) (l : List SubM) (w : World) (hl : l.length ≤ 2000000) (hs : ∀ s ∈ l, s.box.q.length ≤ 2000000) (hv : SubsAt w v l) :
    Calls Tryz.prog 37 #[v] w fun e w' => ∃ u, e = .returned u ∧ SOwn w' w.heap.size u l ∧ Below w.heap.size w w' := by
  obtain ⟨a, c, rfl, hc1, hc2, hc3⟩ := hv
  have HC := Lib.hid hc3
  have HS := Lib.hid hs
  clear hc3 hs
  obtain ⟨i, hi1, hi2, hi3, hi4⟩ := info_parts (P := Tryz.prog) (e := 64) (z := .agg #[.string ⟨#[]⟩, .int .i64 0, .int .i64 0, .slice none 0 0, .int .i64 0, .int .i64 0, .int .i64 0, .int .i64 0, .bool false, .bool false]) (size := 10) (bytes := 104) (by kernel_rfl)
  go_enter Tryz.func37, Tryz.ntmps37
  go_wp2_with (first | (at_make; refine wpList_make_full _ rfl _ _ _ rfl w.heap.size 64 i (.agg #[.string ⟨#[]⟩, .int .i64 0, .int .i64 0, .slice none 0 0, .int .i64 0, .int .i64 0, .int .i64 0, .int .i64 0, .bool false, .bool false]) 10 (by kernel_rfl) hi1 hi2 hi3 _ _ _ _ l.length rfl rfl rfl rfl (by rw [hi4]; omega) (by unfold maxLen; omega) (Nat.le_refl _) ?_; intro w1 hown hgr))
  have H0 : Hid (SOwn w1 w.heap.size (.slice (some ⟨w.heap.size, 0, none⟩) l.length l.length) (l.take 0 ++ List.replicate (l.length - 0) subZ)) := Lib.hid (by
    simp only [List.take_zero, List.nil_append, Nat.sub_zero]
    refine ⟨List.replicate l.length (.slice none 0 0), by simp, ?_, fun j h1 h2 => ?_, ?_⟩
    · rw [List.length_replicate, ← madeCells_ten]; exact hown
    · simp only [List.getElem_replicate]; exact World.ownsRow_nil _ _ _ _
    · rw [List.pairwise_cons]
      exact ⟨fun a ha => by rw [List.eq_of_mem_replicate ha]; exact .inr (by intro h; cases h), List.pairwise_replicate.2 (.inr (.inl rfl))⟩)
  have H1 := Lib.hid ((Below.refl w.heap.size w).grown hgr (Nat.le_refl _) (fun k h => by cases h))
  clear hown hgr hi1 hi2 hi3 hi4
  obtain ⟨g, hg⟩ : ∃ g, w.heap.size = g := ⟨_, rfl⟩
  have HG := Lib.hid hg
  rw [hg] at H0 H1 ⊢
  clear hg
  go_loopw [4] (fun i wr => ∃ k : Nat, k ≤ l.length ∧ i = .int .i64 k ∧ Hid (SOwn wr g (.slice (some ⟨g, 0, none⟩) l.length l.length) (l.take k ++ List.replicate (l.length - k) subZ)) ∧ Hid (Below g w wr)) (fun i _ => l.length - (intOf i).toNat)
  case atStart => exact ⟨0, Nat.zero_le _, rfl, H0, H1⟩
  case round =>
    obtain ⟨k, hk, rfl, HO, HB⟩ := hrel
    by_cases hlt : k < l.length
    · obtain ⟨b, o, rfl, hin⟩ : ∃ b o, a = some ⟨b, o, none⟩ ∧ ∀ (j : Nat) (hj : j < l.length), SubIn w b (o + j * 10) l[j] := by
        rcases HC.out with h | h
        · subst h; simp at hlt
        · exact h
      obtain ⟨u0, hq, hra⟩ := (hin k hlt).below (show Below w.heap.size w wr by rw [HG.out]; exact HB.out)
      have CT := Lib.hid (fun wx (h : MsgsAt wx u0 l[k].box.q) => toSub_any l[k] u0 wx (HS.out _ (List.getElem_mem hlt)) h)
      have HI := Lib.hid hq
      obtain ⟨ua, uc, rfl, _, _, _⟩ := hq
      obtain ⟨us, hus⟩ := HO.out
      have hlen : (l.take k ++ List.replicate (l.length - k) subZ).length = l.length := by simp; omega
      have HU := Lib.hid hus
      obtain ⟨x, hx⟩ : ∃ x, l[k] = x := ⟨_, rfl⟩
      have HN := Lib.hid (take_next l subZ l.length k rfl hlt)
      rw [hx] at hra CT HI HN
      clear hin hus hx HO
      go_wp2_with (first | refine wpList_load_mid rfl 89 (.tmp 18) rfl b (o + k * 10) rfl (scells x (.slice ua x.box.q.length uc)) _ hra Tryz.underlying89 rfl (by kernel_rfl) ?_)
      refine (CT.out _ HI.out).mono ?_
      rintro e w2 ⟨u, rfl, ho, hb2⟩
      obtain ⟨xa, xc, hxu⟩ := own_slice ho
      subst hxu
      have hgr : g ≤ wr.heap.size := by have := HB.out.size; rw [HG.out] at this; exact this
      have hU2 := HU.out.below hb2
      have hgB : Below g w w2 := HB.out.trans (hb2.mono hgr)
      have hP := hU2.put (x := x) (k := k) hlen.symm (by rw [hlen]; exact hlt) (own_mono ho hgr) (fun y hy b hb => (HU.out.lt y hy b hb).2) (fun b hb => (ho.lt b hb).1)
      rw [HN.out] at hP
      have HP := Lib.hid (show SOwn _ _ _ _ from ⟨_, hP⟩)
      have hrow := hU2.2.1
      rw [hlen] at hrow
      have HT := there_of_own hrow (o := k * 10) (m := 10) (by rw [hrow.1]; omega)
      have HB3 := Lib.hid (hgB.grown (grown_setCells g (scells x (.slice xa x.box.q.length xc)) (k * 10) w2) (HG.out ▸ hgB.size) (fun k h => by cases h; exact Nat.le_refl _))
      clear ho hb2 hU2 hgB hP hrow HN HU HI HB hra CT
      go_upto_region 4 with (first | refine wpList_store_mid rfl 64 (.tmp 21) (.tmp 20) rfl g (k * 10) (#[.string x.fil, .int .i64 x.box.cap, .int .i64 x.box.pol, .slice xa x.box.q.length xc, .int .i64 x.box.ofr, .int .i64 x.box.rcv, .int .i64 x.box.drp, .int .i64 x.box.mrg, .bool x.box.shut, .bool x.live]) rfl rfl HT (by kernel_rfl) (scells_one _ _ _ _) ?_)
      change Code.wp _ _ _ _ (w2.setCells g (k * 10) (scells x (.slice xa x.box.q.length xc)))
      generalize w2.setCells g (k * 10) (scells x (.slice xa x.box.q.length xc)) = w3 at HP HB3 ⊢
      clear HT
      go_wp2
      go_roundw
      case rel => exact ⟨k + 1, by omega, by go_num, HP, HB3⟩
      case measure => simp [intOf]; omega
    · obtain rfl : k = l.length := by omega
      have HE : Hid (SOwn wr w.heap.size (.slice (some ⟨g, 0, none⟩) l.length l.length) l) := Lib.hid (by have := HO.out; simp only [List.take_length, Nat.sub_self, List.replicate_zero, List.append_nil] at this; rw [HG.out]; exact this)
      have HB2 : Hid (Below w.heap.size w wr) := Lib.hid (by rw [HG.out]; exact HB.out)
      go_wp2
      go_ret
      exact ⟨_, rfl, HE.out, HB2.out⟩

end Go.Proofs.YtmfbffhbgelnnaaGreatDoor
