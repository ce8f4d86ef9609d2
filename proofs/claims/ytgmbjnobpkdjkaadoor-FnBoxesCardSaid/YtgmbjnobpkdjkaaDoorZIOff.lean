/- The walk of impl.OfferedTo. -/
import Derived.Test.YtgmbjnobpkdjkaaDoorZIBoxO
import Derived.Test.YtgmbjnobpkdjkaaDoorZIQueued
set_option linter.unusedSimpArgs false
set_option linter.unusedVariables false
namespace Go.Proofs.YtgmbjnobpkdjkaaDoor
open Go.RowKit

theorem cnt_off (b : BoxM) (x : MsgM) (sq : Option Nat) : cntM { b with q := (offQ b x sq).1.q } (offQ b x sq).2 = (offQ b x sq).1 := by
  cases sq with
  | some i => rfl
  | none =>
    by_cases h1 : (b.q.length : Int) = b.cap
    · by_cases h2 : b.pol = 1
      · rw [show offQ b x none = (b, 3) by unfold offQ; rw [if_pos h1, if_pos h2]]; rfl
      · by_cases h3 : b.pol = 3
        · rw [show offQ b x none = ({ b with ofr := b.ofr + 1, drp := b.drp + 1 }, 4) by unfold offQ; rw [if_pos h1, if_neg h2, if_pos h3]]; rfl
        · rw [show offQ b x none = ({ b with q := b.q.drop 1 ++ [x], ofr := b.ofr + 1, drp := b.drp + 1 }, 5) by unfold offQ; rw [if_pos h1, if_neg h2, if_neg h3]]; rfl
    · rw [show offQ b x none = ({ b with q := b.q ++ [x], ofr := b.ofr + 1 }, 0) by unfold offQ; rw [if_neg h1]]; rfl

set_option maxRecDepth 100000 in
set_option maxHeartbeats 6400000 in
theorem implOffered_any (b : BoxM) (v : Value) (x : MsgM) (m : Int) (w : World) (hl : b.q.length ≤ 1048576) (hs : ∀ x ∈ b.q, x.2.2.1.size ≤ 1048576) (hx : x.2.2.1.size ≤ 1048576) (hv : MsgsAt w v b.q) (hm : w.cell? ⟨0, 0, none⟩ = some (.int .i64 m)) :
    Calls Tryd.prog 9 #[bagg b v, magg x] w fun e w' =>
      ∃ V u pre post, e = .returned (.tuple #[bagg (offerM b x).1 u, .int .i64 (offerM b x).2]) ∧ MOwn w' w.heap.size V (pre ++ (offerM b x).1.q ++ post) ∧ PartOf V pre.length (offerM b x).1.q.length u ∧ Below w.heap.size w w' := by
  have CB := Lib.hid (fun wx (h : MsgsAt wx v b.q) hm => implBoxOk_any b v m wx hl hs h hm)
  have CC := Lib.hid (fun wx (h : MsgsAt wx v b.q) => ownBox_any b v wx (by omega) h)
  have CM := Lib.hid (fun wx hm => implMsgOk_any x m wx hx hm)
  have HR : Hid (offerM b x = if boxB b then
    if !(msgB x) || decide (100000 ≤ b.ofr) then (b, (6 : Int))
    else if b.shut then (b, (1 : Int))
    else offQ b x (sameQ b x.2.2.1)
  else (zeroBox, (6 : Int))) := Lib.hid (by unfold offerM; cases sameQ b x.2.2.1 <;> rfl)
  have HNB : Hid (boxB b = true → 0 ≤ b.ofr ∧ b.ofr ≤ 100000 ∧ 0 ≤ b.drp ∧ b.drp ≤ 100000 ∧ 0 ≤ b.mrg ∧ b.mrg ≤ 100000 ∧ b.q.length ≤ 16 ∧ (1 : Int) ≤ b.cap ∧ 1 ≤ b.pol ∧ b.pol ≤ 4 ∧ (b.q.length : Int) ≤ b.cap) := Lib.hid (fun h => by
    unfold boxB boxN inB at h
    simp only [Bool.and_eq_true, decide_eq_true_eq] at h
    omega)
  have HCO := Lib.hid (cnt_off b x (sameQ b x.2.2.1))
  have HV := Lib.hid hv
  have HM := Lib.hid hm
  have HMX := Lib.hid (fun wx (h : Below w.heap.size w wx) => (h.cell (World.block_lt_of_cell? _ _ HM.out)).trans HM.out)
  obtain ⟨ua, uc, rfl, _, _, _⟩ := hv
  clear hs hx hm
  obtain ⟨b1, hb1⟩ : ∃ z, boxB b = z := ⟨_, rfl⟩
  obtain ⟨b2, hb2⟩ : ∃ z, msgB x = z := ⟨_, rfl⟩
  obtain ⟨RR, hRR⟩ : ∃ z, offerM b x = z := ⟨_, rfl⟩
  rw [hb1] at CB HR HNB
  rw [hb2] at CM HR
  rw [hRR] at HR ⊢
  clear hb1 hb2 hRR
  go_enter Tryd.func9, Tryd.ntmps9
  go_upto_region 1 with (fail)
  have s1 : (w.alloc (.cells (bcells b (.slice ua b.q.length uc)) 30)).heap.size = w.heap.size + 1 := by simp
  have s2 : ((w.alloc (.cells (bcells b (.slice ua b.q.length uc)) 30)).alloc (.cells #[.int .i64 x.1, .int .i64 x.2.1, .string x.2.2.1, .int .i64 x.2.2.2] 35)).heap.size = w.heap.size + 1 + 1 := by simp
  have hb0 : Below w.heap.size w (((w.alloc (.cells (bcells b (.slice ua b.q.length uc)) 30)).alloc (.cells #[.int .i64 x.1, .int .i64 x.2.1, .string x.2.2.1, .int .i64 x.2.2.2] 35)).alloc (.cells (bcells zeroBox (.slice none 0 0)) 30)) := (((Below.refl _ _).alloc (Nat.le_refl _) _).alloc (by simp) _).alloc (by simp; omega) _
  have h0 : Off3 (((w.alloc (.cells (bcells b (.slice ua b.q.length uc)) 30)).alloc (.cells #[.int .i64 x.1, .int .i64 x.2.1, .string x.2.2.1, .int .i64 x.2.2.2] 35)).alloc (.cells (bcells zeroBox (.slice none 0 0)) 30)) w.heap.size b (.slice ua b.q.length uc) x := by
    refine ⟨?_, ?_, ?_⟩
    · rw [Below.heap_alloc _ _ _ (by omega), Below.heap_alloc _ _ _ (by omega)]; exact heap_alloc_new _ _
    · rw [Below.heap_alloc _ _ _ (by omega), ← s1]; exact heap_alloc_new _ _
    · rw [← s2]; exact heap_alloc_new _ _
  have s3 : (((w.alloc (.cells (bcells b (.slice ua b.q.length uc)) 30)).alloc (.cells #[.int .i64 x.1, .int .i64 x.2.1, .string x.2.2.1, .int .i64 x.2.2.2] 35)).alloc (.cells (bcells zeroBox (.slice none 0 0)) 30)).heap.size = w.heap.size + 1 + 1 + 1 := by simp
  clear s1 s2
  change Code.wp _ _ _ _ (((w.alloc (.cells (bcells b (.slice ua b.q.length uc)) 30)).alloc (.cells #[.int .i64 x.1, .int .i64 x.2.1, .string x.2.2.1, .int .i64 x.2.2.2] 35)).alloc (.cells (bcells zeroBox (.slice none 0 0)) 30))
  generalize (((w.alloc (.cells (bcells b (.slice ua b.q.length uc)) 30)).alloc (.cells #[.int .i64 x.1, .int .i64 x.2.1, .string x.2.2.1, .int .i64 x.2.2.2] 35)).alloc (.cells (bcells zeroBox (.slice none 0 0)) 30)) = w0 at hb0 h0 s3 ⊢
  go_wp2_with (first
    | refine wpList_load_row rfl 30 (.tmp 2) rfl w.heap.size rfl 30 (bcells b (.slice ua b.q.length uc)) (0, 0) _ h0.box Tryd.underlying30 rfl (by kernel_rfl) ?_)
  refine (CB.out _ (HV.out.below hb0) (HMX.out _ hb0)).mono ?_
  rintro e w1 ⟨rfl, hb⟩
  have h1 := h0.below hb
  have hb1 : Below w.heap.size w w1 := hb0.trans (hb.mono hb0.size)
  have s1 : w.heap.size + 1 + 1 + 1 ≤ w1.heap.size := by have := hb.size; omega
  clear hb0 h0 s3 hb CB
  cases b1
  · have HE := Lib.hid (show RR = (zeroBox, (6 : Int)) by rw [HR.out]; rfl)
    go_wp2_with (first
      | refine wpList_store_rowTo rfl 30 (.tmp 4) (.tmp 12) rfl rfl (w.heap.size + 1 + 1) (bcells zeroBox (.slice none 0 0)) rfl rfl 30 _ h1.res (by kernel_rfl) rfl (bcells_one _ _ _ _) ?_)
    have G := grown_setRow w1 (w.heap.size + 1 + 1) (bcells zeroBox (.slice none 0 0))
    exact bodyPost_ret (results_row_tmp rfl _ _ _ _ _ _ _ rfl (setRow_heap (bcells zeroBox (.slice none 0 0)) h1.res) Tryd.underlying30 rfl (by kernel_rfl)) rfl ⟨.slice none 0 0, .slice none 0 0, [], [], by rw [HE.out]; rfl, by rw [HE.out]; exact World.ownsRow_nil _ _ _ _, by rw [HE.out]; exact .inl ⟨rfl, rfl, rfl⟩, hb1.trans (below_of_grown G (by omega) hb1.size)⟩
  obtain ⟨n1, n2, n3, n4, n5, n6, n7, n8, n9, n10, n11⟩ := HNB.out rfl
  go_wp2_with (first
    | refine wpList_load_row rfl 30 (.tmp 2) rfl w.heap.size rfl 30 (bcells b (.slice ua b.q.length uc)) (0, 0) _ h1.box Tryd.underlying30 rfl (by kernel_rfl) ?_)
  refine (CC.out _ (HV.out.below hb1)).mono ?_
  rintro e w2 ⟨u, rfl, ho, hb⟩
  obtain ⟨xa, xc, hxu⟩ := own_slice ho
  subst hxu
  have h2 := h1.below hb
  have hb2 : Below w.heap.size w w2 := hb1.trans (hb.mono hb1.size)
  have o2 := own_mono ho s1
  have s2 : w.heap.size + 1 + 1 + 1 ≤ w2.heap.size := Nat.le_trans s1 hb.size
  clear h1 hb1 s1 ho hb CC
  go_upto_region 4 with (fail)
  have S3 : OffS w (w2.alloc (.cells (bcells b (.slice xa b.q.length xc)) 30)) w2.heap.size b (.slice ua b.q.length uc) x b (.slice xa b.q.length xc) := ⟨h2.below ((Below.refl _ _).alloc (Nat.le_refl _) _), heap_alloc_new _ _, row_below o2 ((Below.refl _ _).alloc (Nat.le_refl _) _), s2, hb2.alloc hb2.size _⟩
  generalize (w2.alloc (.cells (bcells b (.slice xa b.q.length xc)) 30)) = w3 at S3 ⊢
  obtain ⟨G, hG⟩ : ∃ G, w2.heap.size = G := ⟨_, rfl⟩
  rw [hG] at S3 ⊢
  clear hG h2 hb2 o2 s2
  go_wp2_with (first
    | refine wpList_load_row rfl 35 (.tmp 3) rfl (w.heap.size + 1) rfl 35 #[.int .i64 x.1, .int .i64 x.2.1, .string x.2.2.1, .int .i64 x.2.2.2] (0, 0) _ S3.three.msg Tryd.underlying35 rfl (by kernel_rfl) ?_)
  refine (CM.out _ (HMX.out _ S3.since)).mono ?_
  rintro e w4 ⟨rfl, hb⟩
  have S4 := S3.below hb
  clear S3 hb CM
  have HWH := Lib.hid (fun (hx : OffS w w4 G b (.slice ua b.q.length uc) x b (.slice xa b.q.length xc)) => PartOf.whole (own_mono hx.row (A := w.heap.size) (by omega)))
  cases b2
  · have HE := Lib.hid (show RR = (b, (6 : Int)) by rw [HR.out]; rfl)
    go_wp2_with (first
      | refine wpList_load_row rfl 30 (.tmp 6) rfl G rfl 30 (bcells (b) (.slice xa b.q.length xc)) (0, 0) _ S4.new Tryd.underlying30 rfl (by kernel_rfl) ?_
      | refine wpList_store_rowTo rfl 30 (.tmp 4) _ rfl rfl (w.heap.size + 1 + 1) (bcells (b) (.slice xa b.q.length xc)) rfl rfl 30 _ S4.three.res (by kernel_rfl) rfl (bcells_one _ _ _ _) ?_)
    have HX := off_end S4 (bcells (b) (.slice xa b.q.length xc))
    exact bodyPost_ret (results_row_tmp rfl _ _ _ _ _ _ _ rfl HX.1 Tryd.underlying30 rfl (by kernel_rfl)) rfl ⟨.slice xa b.q.length xc, .slice xa b.q.length xc, [], [], by rw [HE.out]; rfl, by rw [HE.out, List.nil_append, List.append_nil]; exact HX.2.1, by rw [HE.out]; exact HWH.out S4, HX.2.2⟩
  have x3 : w4.cell? ⟨G, 3, none⟩ = some (.int .i64 b.ofr) := cell_of_heap S4.new 3
  by_cases hof : 100000 ≤ b.ofr
  · have g1 : (b.ofr == 100000) = true := by simp; omega
    have HE := Lib.hid (show RR = (b, (6 : Int)) by rw [HR.out, decide_eq_true hof]; rfl)
    go_wp2_with (first
      | refine wpList_load_row rfl 30 (.tmp 6) rfl G rfl 30 (bcells (b) (.slice xa b.q.length xc)) (0, 0) _ S4.new Tryd.underlying30 rfl (by kernel_rfl) ?_
      | refine wpList_store_rowTo rfl 30 (.tmp 4) _ rfl rfl (w.heap.size + 1 + 1) (bcells (b) (.slice xa b.q.length xc)) rfl rfl 30 _ S4.three.res (by kernel_rfl) rfl (bcells_one _ _ _ _) ?_)
    have HX := off_end S4 (bcells (b) (.slice xa b.q.length xc))
    exact bodyPost_ret (results_row_tmp rfl _ _ _ _ _ _ _ rfl HX.1 Tryd.underlying30 rfl (by kernel_rfl)) rfl ⟨.slice xa b.q.length xc, .slice xa b.q.length xc, [], [], by rw [HE.out]; rfl, by rw [HE.out, List.nil_append, List.append_nil]; exact HX.2.1, by rw [HE.out]; exact HWH.out S4, HX.2.2⟩
  have g1 : (b.ofr == 100000) = false := by simp; omega
  have HR2 := Lib.hid (show RR = if b.shut then (b, (1 : Int)) else offQ b x (sameQ b x.2.2.1) by rw [HR.out, decide_eq_false hof]; rfl)
  clear HR hof
  have x7 : w4.cell? ⟨G, 7, none⟩ = some (.bool b.shut) := cell_of_heap S4.new 7
  by_cases hsh : b.shut = true
  · rw [hsh] at x7
    have HE := Lib.hid (show RR = (b, (1 : Int)) by rw [HR2.out, if_pos hsh])
    clear hsh
    go_wp2_with (first
      | refine wpList_load_row rfl 30 (.tmp 6) rfl G rfl 30 (bcells (b) (.slice xa b.q.length xc)) (0, 0) _ S4.new Tryd.underlying30 rfl (by kernel_rfl) ?_
      | refine wpList_store_rowTo rfl 30 (.tmp 4) _ rfl rfl (w.heap.size + 1 + 1) (bcells (b) (.slice xa b.q.length xc)) rfl rfl 30 _ S4.three.res (by kernel_rfl) rfl (bcells_one _ _ _ _) ?_)
    have HX := off_end S4 (bcells (b) (.slice xa b.q.length xc))
    exact bodyPost_ret (results_row_tmp rfl _ _ _ _ _ _ _ rfl HX.1 Tryd.underlying30 rfl (by kernel_rfl)) rfl ⟨.slice xa b.q.length xc, .slice xa b.q.length xc, [], [], by rw [HE.out]; rfl, by rw [HE.out, List.nil_append, List.append_nil]; exact HX.2.1, by rw [HE.out]; exact HWH.out S4, HX.2.2⟩
  have hsf : b.shut = false := by simpa using hsh
  rw [hsf] at x7
  clear hsf
  have HE := Lib.hid (show RR = offQ b x (sameQ b x.2.2.1) by rw [HR2.out, if_neg hsh])
  clear HR2 hsh HWH
  have CQ := Lib.hid (queued_any b (.slice xa b.q.length xc) x (w.heap.size + 1 + 1 + 1) w4 n7 ⟨n9, n10⟩ ⟨n11, n8⟩ S4.row (Nat.le_of_lt (Nat.lt_of_le_of_lt S4.far S4.ltG)))
  go_wp2_with (first
    | refine wpList_load_row rfl 30 (.tmp 6) rfl G rfl 30 (bcells (b) (.slice xa b.q.length xc)) (0, 0) _ S4.new Tryd.underlying30 rfl (by kernel_rfl) ?_
    | refine wpList_load_row rfl 35 (.tmp 3) rfl (w.heap.size + 1) rfl 35 #[.int .i64 x.1, .int .i64 x.2.1, .string x.2.2.1, .int .i64 x.2.2.2] (0, 0) _ S4.three.msg Tryd.underlying35 rfl (by kernel_rfl) ?_)
  refine CQ.out.mono ?_
  rintro e w5 ⟨V, u, pre, post, rfl, hO, hPt, hg⟩
  obtain ⟨h53, h5n, h5b⟩ := S4.app hg
  have hfar := S4.far
  clear x3 x7 g1 CQ S4 hg
  generalize offQ b x (sameQ b x.2.2.1) = Q at HE HCO hO hPt ⊢
  obtain ⟨N, hN⟩ : ∃ N, Q.1.q.length = N := ⟨_, rfl⟩
  rw [hN] at hPt
  have HN := Lib.hid hN
  clear hN
  obtain ⟨ea, ec, heu⟩ := hPt.slice
  subst heu
  have HPT := Lib.hid hPt
  clear hPt
  have y2 : w5.cell? ⟨G, 2, none⟩ = some (.slice xa b.q.length xc) := cell_of_heap h5n 2
  have f2 : w5.frozen? ⟨G, 2, none⟩ = false := frozen_of_row _ _ _ _ _ h5n
  go_upto_region 10 with (fail)
  have hg6 := grown_setCell w5 G 2 (.slice ea N ec)
  have O6 := Lib.hid (own_kept1 hO hg6 (own_off hO h5n))
  have N6 : (w5.setCell ⟨G, 2, none⟩ (.slice ea N ec)).heap[G]? = some (.cells (bcells { b with q := Q.1.q } (.slice ea N ec)) 30 (0, 0)) := heap_setCell_same _ _ 2 _ _ (.slice ea N ec) h5n
  have T6 := h53.grown hg6 (fun k e => by cases e; omega)
  have B6 := h5b.trans (below_of_grown hg6 (by omega) h5b.size)
  generalize w5.setCell ⟨G, 2, none⟩ (.slice ea N ec) = w6 at O6 N6 T6 B6 ⊢
  clear y2 f2 h53 h5n h5b hO hg6
  have CK := Lib.hid (counted_any { b with q := Q.1.q } ea N ec Q.2 w6 ⟨n1, n2, n3, n4, n5, n6⟩)
  rw [HCO.out] at CK
  go_wp2_with (first
    | refine wpList_load_row rfl 30 (.tmp 6) rfl G rfl 30 (bcells { b with q := Q.1.q } (.slice ea N ec)) (0, 0) _ N6 Tryd.underlying30 rfl (by kernel_rfl) ?_)
  refine CK.out.mono ?_
  rintro e w7 ⟨rfl, hb⟩
  have T7 := T6.below hb
  have O7 := Lib.hid (row_below O6.out hb)
  have B7 := below_end B6 hb
  clear T6 O6 B6 N6 hb CK
  go_wp2_with (first
    | refine wpList_store_rowTo rfl 30 (.tmp 4) _ rfl rfl (w.heap.size + 1 + 1) (bcells Q.1 (.slice ea N ec)) rfl rfl 30 _ T7.res (by kernel_rfl) rfl (bcells_one _ _ _ _) ?_)
  have hg8 := grown_setRow w7 (w.heap.size + 1 + 1) (bcells Q.1 (.slice ea N ec))
  have O8 := own_mono (own_grownN O7.out (by omega) hg8) (A := w.heap.size) (by omega)
  have R8 := setRow_heap (bcells Q.1 (.slice ea N ec)) T7.res
  have B8 := B7.trans (below_of_grown hg8 (by omega) B7.size)
  exact bodyPost_ret (results_row_tmp rfl _ _ _ _ _ _ _ rfl R8 Tryd.underlying30 rfl (by kernel_rfl)) rfl ⟨V, .slice ea N ec, pre, post, by rw [HE.out]; rfl, by rw [HE.out]; exact O8, by rw [HE.out, HN.out]; exact HPT.out, B8⟩

end Go.Proofs.YtgmbjnobpkdjkaaDoor
