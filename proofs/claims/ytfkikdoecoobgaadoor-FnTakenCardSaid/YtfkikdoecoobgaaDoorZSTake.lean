/- The walk of the reference's TakenFrom (written by gen_take.py). -/
import Derived.Test.YtfkikdoecoobgaaDoorZB5
import Derived.Test.YtfkikdoecoobgaaDoorZB3
import Derived.Test.YtfkikdoecoobgaaDoorZB1
set_option linter.unusedSimpArgs false
set_option linter.unusedVariables false
namespace Go.Proofs.YtfkikdoecoobgaaDoor
open Go.RowKit

set_option maxRecDepth 100000 in
set_option maxHeartbeats 6400000 in
theorem specTaken_any (b : BoxM) (v : Value) (w : World) (hl : b.q.length ≤ 1048576) (hs : ∀ x ∈ b.q, x.2.2.1.size ≤ 1048576) (hv : MsgsAt w v b.q) :
    Calls Tryd.prog 7 #[bagg b v] w fun e w' =>
      ∃ u, e = .returned (.tuple #[bagg (takeM b).1 u, magg (takeM b).2.1, .bool (takeM b).2.2]) ∧ MOwn w' w.heap.size u (takeM b).1.q ∧ Below w.heap.size w w' := by
  have CB := Lib.hid (fun wx (h : MsgsAt wx v b.q) => specBoxOk_any b v wx hs h)
  have CC := Lib.hid (fun wx (h : MsgsAt wx v b.q) => specCopyB_any b v wx (by omega) h)
  have HR0 : Hid (takeM b = if boxB b then match b.q with
    | [] => (b, (0, 0, ⟨#[]⟩, 0), false)
    | x :: l => ({ b with q := l, rcv := b.rcv + 1 }, x, true)
  else (zeroBox, (0, 0, ⟨#[]⟩, 0), false)) := Lib.hid rfl
  have HR1 := Lib.hid (show boxB b = false → takeM b = (zeroBox, (0, 0, ⟨#[]⟩, 0), false) from fun h => by rw [HR0.out, h]; rfl)
  have HR2 := Lib.hid (show boxB b = true → b.q.length = 0 → takeM b = (b, (0, 0, ⟨#[]⟩, 0), false) from fun h h2 => by rw [HR0.out, h, List.length_eq_zero_iff.1 h2]; rfl)
  have HR3 := Lib.hid (show boxB b = true → ∀ h2 : 0 < b.q.length, takeM b = ({ b with q := b.q.drop 1, rcv := b.rcv + 1 }, b.q[0], true) from fun h h2 => by
    rw [HR0.out, h]
    match hq : b.q, h2 with
    | x :: l, _ => simp)
  clear HR0
  have HNB : Hid (boxB b = true → 0 ≤ b.rcv ∧ b.rcv ≤ 100000 ∧ b.q.length ≤ 16) := Lib.hid (fun h => by
    unfold boxB boxN inB at h
    simp only [Bool.and_eq_true, decide_eq_true_eq] at h
    omega)
  have HV := Lib.hid hv
  obtain ⟨ua, uc, rfl, _, _, _⟩ := hv
  clear hs
  obtain ⟨b1, hb1⟩ : ∃ x, boxB b = x := ⟨_, rfl⟩
  obtain ⟨RR, hRR⟩ : ∃ x, takeM b = x := ⟨_, rfl⟩
  rw [hb1] at CB HR1 HR2 HR3 HNB
  rw [hRR] at HR1 HR2 HR3 ⊢
  clear hb1 hRR
  obtain ⟨ii, hi, hz0, hz1, hz2⟩ := msg_info
  go_enter Tryd.func7, Tryd.ntmps7
  go_upto_region 1 with (fail)
  have s1 : (w.alloc (.cells (bcells b (.slice ua b.q.length uc)) 26)).heap.size = w.heap.size + 1 := by simp
  have s2 : ((w.alloc (.cells (bcells b (.slice ua b.q.length uc)) 26)).alloc (.cells (bcells zeroBox (.slice none 0 0)) 26)).heap.size = w.heap.size + 1 + 1 := by simp
  have hb0 : Below w.heap.size w (((w.alloc (.cells (bcells b (.slice ua b.q.length uc)) 26)).alloc (.cells (bcells zeroBox (.slice none 0 0)) 26)).alloc (.cells #[.int .i64 0, .int .i64 0, .string ⟨#[]⟩, .int .i64 0] 29)) := (((Below.refl _ _).alloc (Nat.le_refl _) _).alloc (by simp) _).alloc (by simp; omega) _
  have h0 : Tak3 (((w.alloc (.cells (bcells b (.slice ua b.q.length uc)) 26)).alloc (.cells (bcells zeroBox (.slice none 0 0)) 26)).alloc (.cells #[.int .i64 0, .int .i64 0, .string ⟨#[]⟩, .int .i64 0] 29)) w.heap.size b (.slice ua b.q.length uc) := by
    refine ⟨?_, ?_, ?_⟩
    · rw [Below.heap_alloc _ _ _ (by omega), Below.heap_alloc _ _ _ (by omega)]; exact heap_alloc_new _ _
    · rw [Below.heap_alloc _ _ _ (by omega), ← s1]; exact heap_alloc_new _ _
    · rw [← s2]; exact heap_alloc_new _ _
  have s3 : (((w.alloc (.cells (bcells b (.slice ua b.q.length uc)) 26)).alloc (.cells (bcells zeroBox (.slice none 0 0)) 26)).alloc (.cells #[.int .i64 0, .int .i64 0, .string ⟨#[]⟩, .int .i64 0] 29)).heap.size = w.heap.size + 1 + 1 + 1 := by simp
  clear s1 s2
  change Code.wp _ _ _ _ (((w.alloc (.cells (bcells b (.slice ua b.q.length uc)) 26)).alloc (.cells (bcells zeroBox (.slice none 0 0)) 26)).alloc (.cells #[.int .i64 0, .int .i64 0, .string ⟨#[]⟩, .int .i64 0] 29))
  generalize (((w.alloc (.cells (bcells b (.slice ua b.q.length uc)) 26)).alloc (.cells (bcells zeroBox (.slice none 0 0)) 26)).alloc (.cells #[.int .i64 0, .int .i64 0, .string ⟨#[]⟩, .int .i64 0] 29)) = w0 at hb0 h0 s3 ⊢
  go_wp2_with (first
    | refine wpList_load_row rfl 26 (.tmp 1) rfl w.heap.size rfl 26 (bcells b (.slice ua b.q.length uc)) (0, 0) _ h0.box Tryd.underlying26 rfl (by kernel_rfl) ?_)
  refine (CB.out _ (HV.out.below hb0)).mono ?_
  rintro e w1 ⟨rfl, hb⟩
  have h1 := h0.below hb
  have hb1 : Below w.heap.size w w1 := hb0.trans (hb.mono hb0.size)
  have s1 : w.heap.size + 1 + 1 + 1 ≤ w1.heap.size := by have := hb.size; omega
  clear hb0 h0 s3 hb CB
  cases b1
  · have HX := Lib.hid (HR1.out rfl)
    have HE := tak_end h1 hb1 (show MOwn w1 (w.heap.size + 1 + 1 + 1) (.slice none 0 0) [] from World.ownsRow_nil _ _ _ _) (bcells zeroBox (.slice none 0 0)) (#[.int .i64 0, .int .i64 0, .string ⟨#[]⟩, .int .i64 0])
    go_wp2_with (first | refine wpList_store_rowTo rfl 26 (.tmp 2) (.tmp 9) rfl rfl (w.heap.size + 1) (bcells zeroBox (.slice none 0 0)) rfl rfl 26 _ h1.res (by kernel_rfl) rfl (bcells_one _ _ _ _) ?_ | refine wpList_store_rowTo rfl 29 (.tmp 3) (.tmp 10) rfl rfl (w.heap.size + 1 + 1) (#[.int .i64 0, .int .i64 0, .string ⟨#[]⟩, .int .i64 0]) rfl rfl 29 _ HE.2.2.2.2 (by kernel_rfl) rfl (mcell_one (0, 0, ⟨#[]⟩, 0)) ?_)
    exact bodyPost_ret (results_row_row_tmp rfl _ _ _ _ _ _ _ _ _ _ _ _ rfl HE.1 Tryd.underlying26 rfl (by kernel_rfl) rfl HE.2.1 Tryd.underlying29 rfl (by kernel_rfl)) rfl ⟨_, by rw [HX.out]; rfl, by rw [HX.out]; exact HE.2.2.1, HE.2.2.2.1⟩
  obtain ⟨n1, n2, n3⟩ := HNB.out rfl
  go_wp2_with (first
    | refine wpList_load_row rfl 26 (.tmp 1) rfl w.heap.size rfl 26 (bcells b (.slice ua b.q.length uc)) (0, 0) _ h1.box Tryd.underlying26 rfl (by kernel_rfl) ?_)
  refine (CC.out _ (HV.out.below hb1)).mono ?_
  rintro e w2 ⟨u, rfl, ho, hb⟩
  obtain ⟨xa, xc, hxu⟩ := own_slice ho
  subst hxu
  have h2 := h1.below hb
  have hb2 : Below w.heap.size w w2 := hb1.trans (hb.mono hb1.size)
  have o2 : MOwn w2 (w.heap.size + 1 + 1 + 1) _ _ := own_mono ho s1
  have s2 : w.heap.size + 1 + 1 + 1 ≤ w2.heap.size := Nat.le_trans s1 hb.size
  clear h1 hb1 s1 ho hb CC
  go_upto_region 4 with (fail)
  have q3 := (Below.refl w2.heap.size w2).alloc (Nat.le_refl _) (.cells (bcells b (.slice xa b.q.length xc)) 26)
  have n3b : (w2.alloc (.cells (bcells b (.slice xa b.q.length xc)) 26)).heap[w2.heap.size]? = some (.cells (bcells b (.slice xa b.q.length xc)) 26 (0, 0)) := heap_alloc_new _ _
  generalize w2.alloc (.cells (bcells b (.slice xa b.q.length xc)) 26) = w3 at q3 n3b ⊢
  have h3 := h2.below q3
  have hb3 : Below w.heap.size w w3 := hb2.trans (q3.mono hb2.size)
  have o3 : MOwn w3 (w.heap.size + 1 + 1 + 1) (.slice xa b.q.length xc) b.q := row_below o2 q3
  obtain ⟨G, hG⟩ : ∃ G, w2.heap.size = G := ⟨_, rfl⟩
  rw [hG] at n3b s2 ⊢
  clear hG h2 hb2 o2 q3
  have x2 : w3.cell? ⟨w.heap.size, 2, none⟩ = some (.slice ua b.q.length uc) := cell_of_heap h3.box 2
  by_cases hq : b.q.length = 0
  · have g1 : (b.q.length == 0) = true := by simpa using hq
    have HX := Lib.hid (HR2.out (by trivial) hq)
    clear hq
    go_upto_region 5 with (fail)
    clear g1
    have HE := tak_end h3 hb3 o3 (bcells b (.slice xa b.q.length xc)) (#[.int .i64 0, .int .i64 0, .string ⟨#[]⟩, .int .i64 0])
    go_wp2_with (first | refine wpList_load_row rfl 26 (.tmp 5) rfl G rfl 26 (bcells b (.slice xa b.q.length xc)) (0, 0) _ n3b Tryd.underlying26 rfl (by kernel_rfl) ?_ | refine wpList_store_rowTo rfl 26 (.tmp 2) (.tmp 17) rfl rfl (w.heap.size + 1) (bcells b (.slice xa b.q.length xc)) rfl rfl 26 _ h3.res (by kernel_rfl) rfl (bcells_one _ _ _ _) ?_ | refine wpList_store_rowTo rfl 29 (.tmp 3) (.tmp 18) rfl rfl (w.heap.size + 1 + 1) (#[.int .i64 0, .int .i64 0, .string ⟨#[]⟩, .int .i64 0]) rfl rfl 29 _ HE.2.2.2.2 (by kernel_rfl) rfl (mcell_one (0, 0, ⟨#[]⟩, 0)) ?_)
    exact bodyPost_ret (results_row_row_tmp rfl _ _ _ _ _ _ _ _ _ _ _ _ rfl HE.1 Tryd.underlying26 rfl (by kernel_rfl) rfl HE.2.1 Tryd.underlying29 rfl (by kernel_rfl)) rfl ⟨_, by rw [HX.out]; rfl, by rw [HX.out]; exact HE.2.2.1, HE.2.2.2.1⟩
  have g1 : (b.q.length == 0) = false := by simpa using hq
  have hq0 : 0 < b.q.length := by omega
  have HX := Lib.hid (HR3.out (by trivial) hq0)
  obtain ⟨bb, o, rfl, hin⟩ : ∃ bb o, ua = some ⟨bb, o, none⟩ ∧ MsgsIn w bb o b.q := by
    obtain ⟨_, _, he, _, _, h⟩ := HV.out
    cases he
    rcases h with h | h
    · rw [h] at hq0; simp at hq0
    · exact h
  have HP := Lib.hid (hin 0 hq0)
  have hbb : bb < w.heap.size := World.block_lt_of_cell? _ _ HP.out.1
  obtain ⟨x, hx⟩ : ∃ x, b.q[0] = x := ⟨_, rfl⟩
  rw [hx] at HP HX
  clear hx hin
  obtain ⟨gy, yc, hyv⟩ := Joins.ownsRow_form o3 hq0
  injection hyv with hya hyn hyc
  subst hya hyc
  have hcap : b.q.length ≤ xc := by obtain ⟨_, _, he, h1, _⟩ := own_msgs_at o3; cases he; exact h1
  obtain ⟨q5, hq5⟩ : ∃ q5, b.q.drop 1 = q5 := ⟨_, rfl⟩
  rw [hq5] at HX
  have HQ5 := Lib.hid hq5
  have HQL : Hid (q5.length = b.q.length - 1) := Lib.hid (by rw [← hq5, List.length_drop])
  clear hq5
  have hq2 : (1 : Int) ≤ (b.q.length : Int) := by omega
  have e1 : IntKind.i64.wrap (b.rcv + 1) = b.rcv + 1 := by rw [IntKind.wrap_i64]; omega
  have s3 : w.heap.size + 1 + 1 + 1 ≤ w3.heap.size := by have := h3.lt; omega
  go_upto_region 6 with (fail)
  clear g1 hq x2
  by_cases hxc : xc = 1
  · subst hxc
    have HL1 := Lib.hid hcap
    clear hcap
    have SRC : Hid (SrcAt (w3.alloc (.cells #[] 29)) (.slice (some ⟨gy, 0, none⟩) (b.q.length - 1) (1 - 1)) (b.q.length - 1) (mcells q5)) := Lib.hid (by rw [← HQ5.out]; exact tail_none HL1.out _)
    have HLD : Hid ((mcells q5).length = (b.q.length - 1) * 4) := Lib.hid (by rw [mcells_length, HQL.out])
    have y2 : (w3.alloc (.cells #[] 29)).cell? ⟨G, 2, none⟩ = some (.slice (some ⟨gy, 0, none⟩) b.q.length 1) := cell_of_heap (((Below.refl w3.heap.size w3).alloc (Nat.le_refl _) (.cells #[] 29)).block G (Array.getElem?_eq_some_iff.1 n3b).1 |>.trans n3b) 2
    have EX := Lib.hid (lit_own (wx := w3) (Nat.le_refl w3.heap.size))
    have B3 := Lib.hid ((Below.refl w3.heap.size w3).alloc (Nat.le_refl _) (.cells #[] 29))
    go_upto_region 7 with (at_builtin; go_must (refine wpList_append_src rfl (.tmp 19) (.tmp 22) 24 rfl w3.heap.size 29 ii (.agg #[.int .i64 0, .int .i64 0, .string ⟨#[]⟩, .int .i64 0]) 4 40 Tryd.underlying24 hi hz0 hz1 hz2 rfl (by decide) (.slice (some ⟨w3.heap.size, 0, none⟩) 0 0) (.slice (some ⟨gy, 0, none⟩) (b.q.length - 1) (1 - 1)) 0 (b.q.length - 1) [] (mcells q5) rfl EX.out (by simp [Act.eval]) SRC.out HLD.out (mcells_one _) (by unfold maxLen; omega) (by omega) B3.out.size ?_); intro v9 w9 hr9 hg9 _; rw [Nat.zero_add, List.nil_append] at hr9; obtain ⟨na, nc, hn9⟩ := own_slice hr9; subst hn9; have B9 := Lib.hid (B3.out.grown hg9 B3.out.size (fun i h => (EX.out.lt i h).1)); have n9 : w9.heap[G]? = some (.cells (bcells b (.slice (some ⟨gy, 0, none⟩) b.q.length 1)) 26 (0, 0)) := (B9.out.block _ (Array.getElem?_eq_some_iff.1 n3b).1).trans n3b; have y29 : w9.cell? ⟨G, 2, none⟩ = some (.slice (some ⟨gy, 0, none⟩) b.q.length 1) := cell_of_heap n9 2; have f29 : w9.frozen? ⟨G, 2, none⟩ = false := frozen_of_row _ _ _ _ _ n9)
    have gs := grown_setCell w9 G 2 (.slice na (b.q.length - 1) nc)
    have o9 : MOwn w9 w3.heap.size (.slice na (b.q.length - 1) nc) q5 := by unfold MOwn; rw [HQL.out]; exact hr9
    have h9 := (h3.below B9.out).grown gs (fun k e => by cases e; omega)
    have b9 := (hb3.trans (B9.out.mono hb3.size)).trans (below_of_grown (n := w.heap.size) gs (by omega) (by have h := hb3.size; have h2 := B9.out.size; omega))
    have oa := own_mono (own_kept1 o9 gs (own_off o9 n9)) s3
    have na9 := heap_setCell_same _ _ 2 _ _ (.slice na (b.q.length - 1) nc) n9
    generalize w9.setCell ⟨G, 2, none⟩ (.slice na (b.q.length - 1) nc) = wa at h9 b9 oa na9 ⊢
    clear y29 f29 n9 gs o9 hr9 hg9 B9 B3 EX y2 SRC HLD
    have x4 : wa.cell? ⟨w.heap.size, 4, none⟩ = some (.int .i64 b.rcv) := cell_of_heap h9.box 4
    have y4 : wa.cell? ⟨G, 4, none⟩ = some (.int .i64 b.rcv) := cell_of_heap na9 4
    have f4 : wa.frozen? ⟨G, 4, none⟩ = false := frozen_of_row _ _ _ _ _ na9
    go_upto_region 8 with (fail)
    have gs := grown_setCell wa G 4 (.int .i64 (b.rcv + 1))
    have hx9 := h9.grown gs (fun k e => by cases e; omega)
    have bx9 := b9.trans (below_of_grown (n := w.heap.size) gs (by omega) b9.size)
    have ox9 := own_kept1 oa gs (own_off oa na9)
    have nx9 : (wa.setCell ⟨G, 4, none⟩ (.int .i64 (b.rcv + 1))).heap[G]? = some (.cells (bcells { b with q := q5, rcv := b.rcv + 1 } (.slice na (b.q.length - 1) nc)) 26 (0, 0)) := heap_setCell_same _ _ 4 _ _ (.int .i64 (b.rcv + 1)) na9
    generalize wa.setCell ⟨G, 4, none⟩ (.int .i64 (b.rcv + 1)) = wb at hx9 bx9 ox9 nx9 ⊢
    clear h9 b9 oa na9 x4 y4 f4 gs
    have HPX := HP.out.below bx9
    rw [Nat.zero_mul, Nat.add_zero] at HPX
    obtain ⟨p0, p1, p2, p3⟩ := HPX
    have x2 : wb.cell? ⟨w.heap.size, 2, none⟩ = some (.slice (some ⟨bb, o, none⟩) b.q.length uc) := cell_of_heap hx9.box 2
    have KP : Hid (∀ (wx wy : World) (g : Nat), (wx.heap[G]? = some (.cells (bcells { b with q := q5, rcv := b.rcv + 1 } (.slice na (b.q.length - 1) nc)) 26 (0, 0)) ∧ wx.cell? ⟨w.heap.size, 2, none⟩ = some (.slice (some ⟨bb, o, none⟩) b.q.length uc) ∧ wx.cell? ⟨bb, o, none⟩ = some (.int .i64 x.1) ∧ wx.cell? ⟨bb, o + 1, none⟩ = some (.int .i64 x.2.1) ∧ wx.cell? ⟨bb, o + 2, none⟩ = some (.string x.2.2.1) ∧ wx.cell? ⟨bb, o + 3, none⟩ = some (.int .i64 x.2.2.2)) → wx.grownBy wy (some g) → (g = w.heap.size + 1 ∨ g = w.heap.size + 1 + 1) → wy.heap[G]? = some (.cells (bcells { b with q := q5, rcv := b.rcv + 1 } (.slice na (b.q.length - 1) nc)) 26 (0, 0)) ∧ wy.cell? ⟨w.heap.size, 2, none⟩ = some (.slice (some ⟨bb, o, none⟩) b.q.length uc) ∧ wy.cell? ⟨bb, o, none⟩ = some (.int .i64 x.1) ∧ wy.cell? ⟨bb, o + 1, none⟩ = some (.int .i64 x.2.1) ∧ wy.cell? ⟨bb, o + 2, none⟩ = some (.string x.2.2.1) ∧ wy.cell? ⟨bb, o + 3, none⟩ = some (.int .i64 x.2.2.2)) := Lib.hid (fun wx wy g h hg hr => ⟨(hg.block _ (Array.getElem?_eq_some_iff.1 h.1).1 (fun e => by injection e with e; omega)).trans h.1, cell_off hg (by omega) h.2.1, cell_off hg (by omega) h.2.2.1, cell_off hg (by omega) h.2.2.2.1, cell_off hg (by omega) h.2.2.2.2.1, cell_off hg (by omega) h.2.2.2.2.2⟩)
    have C0 := (show wb.heap[G]? = some (.cells (bcells { b with q := q5, rcv := b.rcv + 1 } (.slice na (b.q.length - 1) nc)) 26 (0, 0)) ∧ wb.cell? ⟨w.heap.size, 2, none⟩ = some (.slice (some ⟨bb, o, none⟩) b.q.length uc) ∧ wb.cell? ⟨bb, o, none⟩ = some (.int .i64 x.1) ∧ wb.cell? ⟨bb, o + 1, none⟩ = some (.int .i64 x.2.1) ∧ wb.cell? ⟨bb, o + 2, none⟩ = some (.string x.2.2.1) ∧ wb.cell? ⟨bb, o + 3, none⟩ = some (.int .i64 x.2.2.2) from ⟨nx9, x2, p0, p1, p2, p3⟩)
    have hd := (Below.refl wb.heap.size wb).drew
    have hx8 := hx9.below hd
    have bx8 : Below w.heap.size w wb.drew := bx9.trans (hd.mono bx9.size)
    have ox8 : MOwn wb.drew (w.heap.size + 1 + 1 + 1) (.slice na (b.q.length - 1) nc) q5 := row_below ox9 hd
    clear hx9 bx9 ox9 nx9 x2 p0 p1 p2 p3 hd
    refine wp_region_held_drew (S := fun wx => wx.heap[G]? = some (.cells (bcells { b with q := q5, rcv := b.rcv + 1 } (.slice na (b.q.length - 1) nc)) 26 (0, 0)) ∧ wx.cell? ⟨w.heap.size, 2, none⟩ = some (.slice (some ⟨bb, o, none⟩) b.q.length uc) ∧ wx.cell? ⟨bb, o, none⟩ = some (.int .i64 x.1) ∧ wx.cell? ⟨bb, o + 1, none⟩ = some (.int .i64 x.2.1) ∧ wx.cell? ⟨bb, o + 2, none⟩ = some (.string x.2.2.1) ∧ wx.cell? ⟨bb, o + 3, none⟩ = some (.int .i64 x.2.2.2)) (by kernel_rfl) ?_ (fun hHeld => ?_)
    · exact C0
    change wpAnyH _ _ _ _ _ 8 #[false, false, false, false, false, false, false, false] _ _
    clear C0
    generalize wb.drew = wd at hx8 bx8 ox8 hHeld ⊢
    refine wpAnyH_take (i := 0) (v := bagg { b with q := q5, rcv := b.rcv + 1 } (.slice na (b.q.length - 1) nc)) rfl (by kernel_rfl) (by kernel_rfl) (by kernel_rfl) (fun _ _ _ h => h) (yieldsIf_load_mid rfl 26 (.tmp 5) rfl G 0 rfl [.int .i64 b.cap, .int .i64 b.pol, (.slice na (b.q.length - 1) nc), .int .i64 b.ofr, .int .i64 (b.rcv + 1), .int .i64 b.drp, .int .i64 b.mrg, .bool b.shut] _ (fun wx h => range_of_heap h.1) Tryd.underlying26 rfl (by kernel_rfl)) (by assumption) ?_
    try simp only [Act.put, List.getElem_toArray, List.getElem_cons_succ, List.getElem_cons_zero, List.setIfInBounds_toArray, List.set_cons_zero, List.set_cons_succ]
    refine wpAnyH_take (i := 1) (v := ?_) rfl (by kernel_rfl) (by kernel_rfl) (by kernel_rfl) (fun _ _ _ h => h) (Or.inl ⟨by rfl, ?_⟩) (by assumption) ?_
    rotate_left
    · intro w hSw; (try dsimp only at hSw); go_simp; try with_reducible rfl
    try simp only [Act.put, List.getElem_toArray, List.getElem_cons_succ, List.getElem_cons_zero, List.setIfInBounds_toArray, List.set_cons_zero, List.set_cons_succ]
    refine wpAnyH_take (i := 2) (v := ?_) rfl (by kernel_rfl) (by kernel_rfl) (by kernel_rfl) (fun _ _ _ h => h) (Or.inl ⟨by rfl, ?_⟩) (by assumption) ?_
    rotate_left
    · intro w hSw; (try dsimp only at hSw); go_simp; try with_reducible rfl
    try simp only [Act.put, List.getElem_toArray, List.getElem_cons_succ, List.getElem_cons_zero, List.setIfInBounds_toArray, List.set_cons_zero, List.set_cons_succ]
    refine wpAnyH_take (i := 3) (v := ?_) rfl (by kernel_rfl) (by kernel_rfl) (by kernel_rfl) (fun _ _ _ h => h) (Or.inl ⟨by rfl, ?_⟩) (by assumption) ?_
    rotate_left
    · intro w hSw; (try dsimp only at hSw); go_simp; try with_reducible rfl
    try simp only [Act.put, List.getElem_toArray, List.getElem_cons_succ, List.getElem_cons_zero, List.setIfInBounds_toArray, List.set_cons_zero, List.set_cons_succ]
    refine wpAnyH_take (i := 4) (v := ?_) rfl (by kernel_rfl) (by kernel_rfl) (by kernel_rfl) (fun _ _ _ h => h) (Or.inl ⟨by rfl, ?_⟩) (by assumption) ?_
    rotate_left
    · intro w hSw; (try dsimp only at hSw); go_simp; try with_reducible rfl
    try simp only [Act.put, List.getElem_toArray, List.getElem_cons_succ, List.getElem_cons_zero, List.setIfInBounds_toArray, List.set_cons_zero, List.set_cons_succ]
    have HE := tak_end hx8 bx8 ox8 (bcells { b with q := q5, rcv := b.rcv + 1 } (.slice na (b.q.length - 1) nc)) (#[.int .i64 x.1, .int .i64 x.2.1, .string x.2.2.1, .int .i64 x.2.2.2])
    refine wpAnyH_ready (rs := [5]) (by kernel_rfl) (by simp) (AllReadyH.cons rfl (fun K hK => ?_) AllReadyH.nil)
    rw [if_pos (by rfl)]
    refine wp_store_row 26 (.tmp 2) (.tmp 29) rfl (w.heap.size + 1) (bcells { b with q := q5, rcv := b.rcv + 1 } (.slice na (b.q.length - 1) nc)) rfl rfl 26 _ hx8.res (by kernel_rfl) rfl (bcells_one _ _ _ _) ?_
    refine hK.out _ _ ?_ (fun hHeld => ?_)
    · exact KP.out _ _ _ hHeld (grown_setRow _ _ _) (.inl rfl)
    clear hK K
    try simp only [Act.put, List.getElem_toArray, List.getElem_cons_succ, List.getElem_cons_zero, List.setIfInBounds_toArray, List.set_cons_zero, List.set_cons_succ]
    refine wpAnyH_ready (rs := [6]) (by kernel_rfl) (by simp) (AllReadyH.cons rfl (fun K hK => ?_) AllReadyH.nil)
    rw [if_pos (by rfl)]
    refine wp_store_row 29 (.tmp 3) (.tmp 33) rfl (w.heap.size + 1 + 1) (#[.int .i64 x.1, .int .i64 x.2.1, .string x.2.2.1, .int .i64 x.2.2.2]) rfl rfl 29 _ HE.2.2.2.2 (by kernel_rfl) rfl (mcell_one x) ?_
    refine hK.out _ _ ?_ (fun hHeld => ?_)
    · exact KP.out _ _ _ hHeld (grown_setRow _ _ _) (.inr rfl)
    clear hK K
    try simp only [Act.put, List.getElem_toArray, List.getElem_cons_succ, List.getElem_cons_zero, List.setIfInBounds_toArray, List.set_cons_zero, List.set_cons_succ]
    refine wpAnyH_take (i := 7) (v := ?_) rfl (by kernel_rfl) (by kernel_rfl) (by kernel_rfl) (fun _ _ _ h => h) (Or.inl ⟨by rfl, ?_⟩) (by assumption) ?_
    rotate_left
    · intro w hSw; (try dsimp only at hSw); go_simp; try with_reducible rfl
    try simp only [Act.put, List.getElem_toArray, List.getElem_cons_succ, List.getElem_cons_zero, List.setIfInBounds_toArray, List.set_cons_zero, List.set_cons_succ]
    refine wpAnyH_done (by kernel_rfl) ?_ _
    clear hHeld KP
    go_wp2
    exact bodyPost_ret (results_row_row_tmp rfl _ _ _ _ _ _ _ _ _ _ _ _ rfl HE.1 Tryd.underlying26 rfl (by kernel_rfl) rfl HE.2.1 Tryd.underlying29 rfl (by kernel_rfl)) rfl ⟨_, by rw [HX.out]; rfl, by rw [HX.out]; exact HE.2.2.1, HE.2.2.2.1⟩
  have SRC : Hid (SrcAt (w3.alloc (.cells #[] 29)) (.slice (some ⟨gy, 4, none⟩) (b.q.length - 1) (xc - 1)) (b.q.length - 1) (mcells q5)) := Lib.hid (by rw [← HQ5.out]; exact (tail_src o3 (xc - 1)).below ((Below.refl _ _).alloc (Nat.le_refl _) _))
  have HLD : Hid ((mcells q5).length = (b.q.length - 1) * 4) := Lib.hid (by rw [mcells_length, HQL.out])
  have y2 : (w3.alloc (.cells #[] 29)).cell? ⟨G, 2, none⟩ = some (.slice (some ⟨gy, 0, none⟩) b.q.length xc) := cell_of_heap (((Below.refl w3.heap.size w3).alloc (Nat.le_refl _) (.cells #[] 29)).block G (Array.getElem?_eq_some_iff.1 n3b).1 |>.trans n3b) 2
  have EX := Lib.hid (lit_own (wx := w3) (Nat.le_refl w3.heap.size))
  have B3 := Lib.hid ((Below.refl w3.heap.size w3).alloc (Nat.le_refl _) (.cells #[] 29))
  go_upto_region 7 with (at_builtin; go_must (refine wpList_append_src rfl (.tmp 19) (.tmp 22) 24 rfl w3.heap.size 29 ii (.agg #[.int .i64 0, .int .i64 0, .string ⟨#[]⟩, .int .i64 0]) 4 40 Tryd.underlying24 hi hz0 hz1 hz2 rfl (by decide) (.slice (some ⟨w3.heap.size, 0, none⟩) 0 0) (.slice (some ⟨gy, 4, none⟩) (b.q.length - 1) (xc - 1)) 0 (b.q.length - 1) [] (mcells q5) rfl EX.out (by simp [Act.eval]) SRC.out HLD.out (mcells_one _) (by unfold maxLen; omega) (by omega) B3.out.size ?_); intro v9 w9 hr9 hg9 _; rw [Nat.zero_add, List.nil_append] at hr9; obtain ⟨na, nc, hn9⟩ := own_slice hr9; subst hn9; have B9 := Lib.hid (B3.out.grown hg9 B3.out.size (fun i h => (EX.out.lt i h).1)); have n9 : w9.heap[G]? = some (.cells (bcells b (.slice (some ⟨gy, 0, none⟩) b.q.length xc)) 26 (0, 0)) := (B9.out.block _ (Array.getElem?_eq_some_iff.1 n3b).1).trans n3b; have y29 : w9.cell? ⟨G, 2, none⟩ = some (.slice (some ⟨gy, 0, none⟩) b.q.length xc) := cell_of_heap n9 2; have f29 : w9.frozen? ⟨G, 2, none⟩ = false := frozen_of_row _ _ _ _ _ n9)
  have gs := grown_setCell w9 G 2 (.slice na (b.q.length - 1) nc)
  have o9 : MOwn w9 w3.heap.size (.slice na (b.q.length - 1) nc) q5 := by unfold MOwn; rw [HQL.out]; exact hr9
  have h9 := (h3.below B9.out).grown gs (fun k e => by cases e; omega)
  have b9 := (hb3.trans (B9.out.mono hb3.size)).trans (below_of_grown (n := w.heap.size) gs (by omega) (by have h := hb3.size; have h2 := B9.out.size; omega))
  have oa := own_mono (own_kept1 o9 gs (own_off o9 n9)) s3
  have na9 := heap_setCell_same _ _ 2 _ _ (.slice na (b.q.length - 1) nc) n9
  generalize w9.setCell ⟨G, 2, none⟩ (.slice na (b.q.length - 1) nc) = wa at h9 b9 oa na9 ⊢
  clear y29 f29 n9 gs o9 hr9 hg9 B9 B3 EX y2 SRC HLD
  have x4 : wa.cell? ⟨w.heap.size, 4, none⟩ = some (.int .i64 b.rcv) := cell_of_heap h9.box 4
  have y4 : wa.cell? ⟨G, 4, none⟩ = some (.int .i64 b.rcv) := cell_of_heap na9 4
  have f4 : wa.frozen? ⟨G, 4, none⟩ = false := frozen_of_row _ _ _ _ _ na9
  go_upto_region 8 with (fail)
  have gs := grown_setCell wa G 4 (.int .i64 (b.rcv + 1))
  have hx9 := h9.grown gs (fun k e => by cases e; omega)
  have bx9 := b9.trans (below_of_grown (n := w.heap.size) gs (by omega) b9.size)
  have ox9 := own_kept1 oa gs (own_off oa na9)
  have nx9 : (wa.setCell ⟨G, 4, none⟩ (.int .i64 (b.rcv + 1))).heap[G]? = some (.cells (bcells { b with q := q5, rcv := b.rcv + 1 } (.slice na (b.q.length - 1) nc)) 26 (0, 0)) := heap_setCell_same _ _ 4 _ _ (.int .i64 (b.rcv + 1)) na9
  generalize wa.setCell ⟨G, 4, none⟩ (.int .i64 (b.rcv + 1)) = wb at hx9 bx9 ox9 nx9 ⊢
  clear h9 b9 oa na9 x4 y4 f4 gs
  have HPX := HP.out.below bx9
  rw [Nat.zero_mul, Nat.add_zero] at HPX
  obtain ⟨p0, p1, p2, p3⟩ := HPX
  have x2 : wb.cell? ⟨w.heap.size, 2, none⟩ = some (.slice (some ⟨bb, o, none⟩) b.q.length uc) := cell_of_heap hx9.box 2
  have KP : Hid (∀ (wx wy : World) (g : Nat), (wx.heap[G]? = some (.cells (bcells { b with q := q5, rcv := b.rcv + 1 } (.slice na (b.q.length - 1) nc)) 26 (0, 0)) ∧ wx.cell? ⟨w.heap.size, 2, none⟩ = some (.slice (some ⟨bb, o, none⟩) b.q.length uc) ∧ wx.cell? ⟨bb, o, none⟩ = some (.int .i64 x.1) ∧ wx.cell? ⟨bb, o + 1, none⟩ = some (.int .i64 x.2.1) ∧ wx.cell? ⟨bb, o + 2, none⟩ = some (.string x.2.2.1) ∧ wx.cell? ⟨bb, o + 3, none⟩ = some (.int .i64 x.2.2.2)) → wx.grownBy wy (some g) → (g = w.heap.size + 1 ∨ g = w.heap.size + 1 + 1) → wy.heap[G]? = some (.cells (bcells { b with q := q5, rcv := b.rcv + 1 } (.slice na (b.q.length - 1) nc)) 26 (0, 0)) ∧ wy.cell? ⟨w.heap.size, 2, none⟩ = some (.slice (some ⟨bb, o, none⟩) b.q.length uc) ∧ wy.cell? ⟨bb, o, none⟩ = some (.int .i64 x.1) ∧ wy.cell? ⟨bb, o + 1, none⟩ = some (.int .i64 x.2.1) ∧ wy.cell? ⟨bb, o + 2, none⟩ = some (.string x.2.2.1) ∧ wy.cell? ⟨bb, o + 3, none⟩ = some (.int .i64 x.2.2.2)) := Lib.hid (fun wx wy g h hg hr => ⟨(hg.block _ (Array.getElem?_eq_some_iff.1 h.1).1 (fun e => by injection e with e; omega)).trans h.1, cell_off hg (by omega) h.2.1, cell_off hg (by omega) h.2.2.1, cell_off hg (by omega) h.2.2.2.1, cell_off hg (by omega) h.2.2.2.2.1, cell_off hg (by omega) h.2.2.2.2.2⟩)
  have C0 := (show wb.heap[G]? = some (.cells (bcells { b with q := q5, rcv := b.rcv + 1 } (.slice na (b.q.length - 1) nc)) 26 (0, 0)) ∧ wb.cell? ⟨w.heap.size, 2, none⟩ = some (.slice (some ⟨bb, o, none⟩) b.q.length uc) ∧ wb.cell? ⟨bb, o, none⟩ = some (.int .i64 x.1) ∧ wb.cell? ⟨bb, o + 1, none⟩ = some (.int .i64 x.2.1) ∧ wb.cell? ⟨bb, o + 2, none⟩ = some (.string x.2.2.1) ∧ wb.cell? ⟨bb, o + 3, none⟩ = some (.int .i64 x.2.2.2) from ⟨nx9, x2, p0, p1, p2, p3⟩)
  have hd := (Below.refl wb.heap.size wb).drew
  have hx8 := hx9.below hd
  have bx8 : Below w.heap.size w wb.drew := bx9.trans (hd.mono bx9.size)
  have ox8 : MOwn wb.drew (w.heap.size + 1 + 1 + 1) (.slice na (b.q.length - 1) nc) q5 := row_below ox9 hd
  clear hx9 bx9 ox9 nx9 x2 p0 p1 p2 p3 hd
  refine wp_region_held_drew (S := fun wx => wx.heap[G]? = some (.cells (bcells { b with q := q5, rcv := b.rcv + 1 } (.slice na (b.q.length - 1) nc)) 26 (0, 0)) ∧ wx.cell? ⟨w.heap.size, 2, none⟩ = some (.slice (some ⟨bb, o, none⟩) b.q.length uc) ∧ wx.cell? ⟨bb, o, none⟩ = some (.int .i64 x.1) ∧ wx.cell? ⟨bb, o + 1, none⟩ = some (.int .i64 x.2.1) ∧ wx.cell? ⟨bb, o + 2, none⟩ = some (.string x.2.2.1) ∧ wx.cell? ⟨bb, o + 3, none⟩ = some (.int .i64 x.2.2.2)) (by kernel_rfl) ?_ (fun hHeld => ?_)
  · exact C0
  change wpAnyH _ _ _ _ _ 8 #[false, false, false, false, false, false, false, false] _ _
  clear C0
  generalize wb.drew = wd at hx8 bx8 ox8 hHeld ⊢
  refine wpAnyH_take (i := 0) (v := bagg { b with q := q5, rcv := b.rcv + 1 } (.slice na (b.q.length - 1) nc)) rfl (by kernel_rfl) (by kernel_rfl) (by kernel_rfl) (fun _ _ _ h => h) (yieldsIf_load_mid rfl 26 (.tmp 5) rfl G 0 rfl [.int .i64 b.cap, .int .i64 b.pol, (.slice na (b.q.length - 1) nc), .int .i64 b.ofr, .int .i64 (b.rcv + 1), .int .i64 b.drp, .int .i64 b.mrg, .bool b.shut] _ (fun wx h => range_of_heap h.1) Tryd.underlying26 rfl (by kernel_rfl)) (by assumption) ?_
  try simp only [Act.put, List.getElem_toArray, List.getElem_cons_succ, List.getElem_cons_zero, List.setIfInBounds_toArray, List.set_cons_zero, List.set_cons_succ]
  refine wpAnyH_take (i := 1) (v := ?_) rfl (by kernel_rfl) (by kernel_rfl) (by kernel_rfl) (fun _ _ _ h => h) (Or.inl ⟨by rfl, ?_⟩) (by assumption) ?_
  rotate_left
  · intro w hSw; (try dsimp only at hSw); go_simp; try with_reducible rfl
  try simp only [Act.put, List.getElem_toArray, List.getElem_cons_succ, List.getElem_cons_zero, List.setIfInBounds_toArray, List.set_cons_zero, List.set_cons_succ]
  refine wpAnyH_take (i := 2) (v := ?_) rfl (by kernel_rfl) (by kernel_rfl) (by kernel_rfl) (fun _ _ _ h => h) (Or.inl ⟨by rfl, ?_⟩) (by assumption) ?_
  rotate_left
  · intro w hSw; (try dsimp only at hSw); go_simp; try with_reducible rfl
  try simp only [Act.put, List.getElem_toArray, List.getElem_cons_succ, List.getElem_cons_zero, List.setIfInBounds_toArray, List.set_cons_zero, List.set_cons_succ]
  refine wpAnyH_take (i := 3) (v := ?_) rfl (by kernel_rfl) (by kernel_rfl) (by kernel_rfl) (fun _ _ _ h => h) (Or.inl ⟨by rfl, ?_⟩) (by assumption) ?_
  rotate_left
  · intro w hSw; (try dsimp only at hSw); go_simp; try with_reducible rfl
  try simp only [Act.put, List.getElem_toArray, List.getElem_cons_succ, List.getElem_cons_zero, List.setIfInBounds_toArray, List.set_cons_zero, List.set_cons_succ]
  refine wpAnyH_take (i := 4) (v := ?_) rfl (by kernel_rfl) (by kernel_rfl) (by kernel_rfl) (fun _ _ _ h => h) (Or.inl ⟨by rfl, ?_⟩) (by assumption) ?_
  rotate_left
  · intro w hSw; (try dsimp only at hSw); go_simp; try with_reducible rfl
  try simp only [Act.put, List.getElem_toArray, List.getElem_cons_succ, List.getElem_cons_zero, List.setIfInBounds_toArray, List.set_cons_zero, List.set_cons_succ]
  have HE := tak_end hx8 bx8 ox8 (bcells { b with q := q5, rcv := b.rcv + 1 } (.slice na (b.q.length - 1) nc)) (#[.int .i64 x.1, .int .i64 x.2.1, .string x.2.2.1, .int .i64 x.2.2.2])
  refine wpAnyH_ready (rs := [5]) (by kernel_rfl) (by simp) (AllReadyH.cons rfl (fun K hK => ?_) AllReadyH.nil)
  rw [if_pos (by rfl)]
  refine wp_store_row 26 (.tmp 2) (.tmp 29) rfl (w.heap.size + 1) (bcells { b with q := q5, rcv := b.rcv + 1 } (.slice na (b.q.length - 1) nc)) rfl rfl 26 _ hx8.res (by kernel_rfl) rfl (bcells_one _ _ _ _) ?_
  refine hK.out _ _ ?_ (fun hHeld => ?_)
  · exact KP.out _ _ _ hHeld (grown_setRow _ _ _) (.inl rfl)
  clear hK K
  try simp only [Act.put, List.getElem_toArray, List.getElem_cons_succ, List.getElem_cons_zero, List.setIfInBounds_toArray, List.set_cons_zero, List.set_cons_succ]
  refine wpAnyH_ready (rs := [6]) (by kernel_rfl) (by simp) (AllReadyH.cons rfl (fun K hK => ?_) AllReadyH.nil)
  rw [if_pos (by rfl)]
  refine wp_store_row 29 (.tmp 3) (.tmp 33) rfl (w.heap.size + 1 + 1) (#[.int .i64 x.1, .int .i64 x.2.1, .string x.2.2.1, .int .i64 x.2.2.2]) rfl rfl 29 _ HE.2.2.2.2 (by kernel_rfl) rfl (mcell_one x) ?_
  refine hK.out _ _ ?_ (fun hHeld => ?_)
  · exact KP.out _ _ _ hHeld (grown_setRow _ _ _) (.inr rfl)
  clear hK K
  try simp only [Act.put, List.getElem_toArray, List.getElem_cons_succ, List.getElem_cons_zero, List.setIfInBounds_toArray, List.set_cons_zero, List.set_cons_succ]
  refine wpAnyH_take (i := 7) (v := ?_) rfl (by kernel_rfl) (by kernel_rfl) (by kernel_rfl) (fun _ _ _ h => h) (Or.inl ⟨by rfl, ?_⟩) (by assumption) ?_
  rotate_left
  · intro w hSw; (try dsimp only at hSw); go_simp; try with_reducible rfl
  try simp only [Act.put, List.getElem_toArray, List.getElem_cons_succ, List.getElem_cons_zero, List.setIfInBounds_toArray, List.set_cons_zero, List.set_cons_succ]
  refine wpAnyH_done (by kernel_rfl) ?_ _
  clear hHeld KP
  go_wp2
  exact bodyPost_ret (results_row_row_tmp rfl _ _ _ _ _ _ _ _ _ _ _ _ rfl HE.1 Tryd.underlying26 rfl (by kernel_rfl) rfl HE.2.1 Tryd.underlying29 rfl (by kernel_rfl)) rfl ⟨_, by rw [HX.out]; rfl, by rw [HX.out]; exact HE.2.2.1, HE.2.2.2.1⟩

end Go.Proofs.YtfkikdoecoobgaaDoor
