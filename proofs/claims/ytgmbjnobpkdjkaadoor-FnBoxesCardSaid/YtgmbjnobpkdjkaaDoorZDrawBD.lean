/- The walks of the reference's draws for the laws of boxes. -/
import Derived.Test.YtgmbjnobpkdjkaaDoorZDrawBA
import Derived.Test.YtgmbjnobpkdjkaaDoorZB1
set_option linter.unusedSimpArgs false
set_option linter.unusedVariables false
namespace Go.Proofs.YtgmbjnobpkdjkaaDoor
open Go.RowKit

set_option maxRecDepth 100000 in
set_option maxHeartbeats 3200000 in
theorem drawBoxOk_any {a : Option Addr} {len cap : Nat} {w : World} (hlen : len ≤ 4096) (hc : CodeAt w.heap.size a len w) :
    Calls Tryd.prog 15 #[.slice a len cap] w fun e w' => ∃ b u, e = .returned (bagg b u) ∧ MOwn w' w.heap.size u b.q ∧ ShortQ 10 b.q ∧ Below w.heap.size w w' := by
  have HC := Lib.hid hc
  clear hc
  go_enter Tryd.func15, Tryd.ntmps15
  go_upto_region 1 with (fail)
  have X0 := BBox.new w 30 zeroBox (.slice none 0 0)
  have B0 := (Below.refl w.heap.size w).alloc (Nat.le_refl _) (.cells (bcells zeroBox (.slice none 0 0)) 30)
  have s0 : (w.alloc (.cells (bcells zeroBox (.slice none 0 0)) 30)).heap.size = w.heap.size + 1 := by simp
  change Code.wp _ _ _ _ (w.alloc (.cells (bcells zeroBox (.slice none 0 0)) 30))
  generalize w.alloc (.cells (bcells zeroBox (.slice none 0 0)) 30) = w0 at X0 B0 s0 ⊢
  go_wp2_with fail
  refine (curNew_any a len cap w0 hlen ((HC.out.below B0.block).mono B0.size)).mono ?_
  rintro e w1 ⟨rfl, h1, b1⟩
  have X1 := X0.below b1
  have B1 := below_end B0 b1
  obtain ⟨g, hgg⟩ : ∃ g, w0.heap.size = g := ⟨_, rfl⟩
  rw [hgg] at h1 s0 ⊢
  have hg1 := h1.lt
  have hwg : w.heap.size + 1 ≤ g := by omega
  clear X0 B0 b1 hgg HC s0
  go_wp2_with fail
  refine (draw7A_any h1).mono ?_
  rintro e w2 ⟨b, u, rfl, ho, hs, h2, g2⟩
  obtain ⟨ua, uc, hu⟩ := own_slice ho
  subst hu
  have X2 := X1.grown g2 (by omega)
  have B2 := B1.grown g2 B1.size (fun k e => by cases e; omega)
  have O2 := own_mono ho (A := w.heap.size + 1) (by omega)
  clear X1 B1 h1 g2 ho h2
  go_wp2_with (first
    | refine wpList_store_rowTo rfl 30 (.tmp 2) _ rfl rfl w.heap.size (bcells b (.slice ua b.q.length uc)) rfl rfl 30 _ X2 (by kernel_rfl) rfl (bcells_one _ _ _ _) ?_)
  have G := grown_setRow w2 w.heap.size (bcells b (.slice ua b.q.length uc))
  have HX := setRow_heap (bcells b (.slice ua b.q.length uc)) X2
  exact bodyPost_ret (results_cell_row rfl _ _ _ _ _ _ _ rfl HX Tryd.underlying30 rfl (by kernel_rfl)) rfl ⟨b, _, rfl, own_mono (own_grownN O2 (by omega) G) (A := w.heap.size) (by omega), hs, B2.trans (below_of_grown G (Nat.le_refl _) B2.size)⟩

set_option maxRecDepth 100000 in
set_option maxHeartbeats 3200000 in
theorem drawOffered_any {a : Option Addr} {len cap : Nat} {w : World} (hlen : len ≤ 4096) (hc : CodeAt w.heap.size a len w) :
    Calls Tryd.prog 14 #[.slice a len cap] w fun e w' => ∃ b u, ∃ x : MsgM, e = .returned (.tuple #[bagg b u, magg x]) ∧ MOwn w' w.heap.size u b.q ∧ ShortQ 10 b.q ∧ ShortM x ∧ Below w.heap.size w w' := by
  have HC := Lib.hid hc
  clear hc
  go_enter Tryd.func14, Tryd.ntmps14
  go_upto_region 1 with (fail)
  have s00 : (w.alloc (.cells (bcells zeroBox (.slice none 0 0)) 30)).heap.size = w.heap.size + 1 := by simp
  have X0 : BBox ((w.alloc (.cells (bcells zeroBox (.slice none 0 0)) 30)).alloc (.cells #[.int .i64 0, .int .i64 0, .string ⟨#[]⟩, .int .i64 0] 35)) w.heap.size 30 zeroBox (.slice none 0 0) := (BBox.new w 30 zeroBox (.slice none 0 0)).below ((Below.refl _ _).alloc (Nat.le_refl _) _)
  have S0 : ((w.alloc (.cells (bcells zeroBox (.slice none 0 0)) 30)).alloc (.cells #[.int .i64 0, .int .i64 0, .string ⟨#[]⟩, .int .i64 0] 35)).heap[w.heap.size + 1]? = some (.cells #[.int .i64 0, .int .i64 0, .string ⟨#[]⟩, .int .i64 0] 35 (0, 0)) := by rw [← s00]; exact heap_alloc_new _ _
  have B0 : Below w.heap.size w ((w.alloc (.cells (bcells zeroBox (.slice none 0 0)) 30)).alloc (.cells #[.int .i64 0, .int .i64 0, .string ⟨#[]⟩, .int .i64 0] 35)) := ((Below.refl _ _).alloc (Nat.le_refl _) _).alloc (by simp) _
  have s0 : ((w.alloc (.cells (bcells zeroBox (.slice none 0 0)) 30)).alloc (.cells #[.int .i64 0, .int .i64 0, .string ⟨#[]⟩, .int .i64 0] 35)).heap.size = w.heap.size + 1 + 1 := by simp
  change Code.wp _ _ _ _ ((w.alloc (.cells (bcells zeroBox (.slice none 0 0)) 30)).alloc (.cells #[.int .i64 0, .int .i64 0, .string ⟨#[]⟩, .int .i64 0] 35))
  generalize ((w.alloc (.cells (bcells zeroBox (.slice none 0 0)) 30)).alloc (.cells #[.int .i64 0, .int .i64 0, .string ⟨#[]⟩, .int .i64 0] 35)) = w0 at X0 S0 B0 s0 ⊢
  clear s00
  go_wp2_with fail
  refine (curNew_any a len cap w0 hlen ((HC.out.below B0.block).mono B0.size)).mono ?_
  rintro e w1 ⟨rfl, h1, b1⟩
  have X1 := X0.below b1
  have S1 := (b1.block _ (by omega)).trans S0
  have B1 := below_end B0 b1
  obtain ⟨g, hgg⟩ : ∃ g, w0.heap.size = g := ⟨_, rfl⟩
  rw [hgg] at h1 s0 ⊢
  have hg1 := h1.lt
  have hwg : w.heap.size + 1 + 1 ≤ g := by omega
  clear X0 S0 B0 b1 hgg HC s0
  go_wp2_with fail
  refine (draw7A_any h1).mono ?_
  rintro e w2 ⟨b, u, rfl, ho, hs, h2, g2⟩
  obtain ⟨ua, uc, hu⟩ := own_slice ho
  subst hu
  have X2 := X1.grown g2 (by omega)
  have S2 := (g2.block (w.heap.size + 1) (by omega) (fun e => by injection e with e; omega)).trans S1
  have B2 := B1.grown g2 B1.size (fun k e => by cases e; omega)
  have hs2 : w1.heap.size ≤ w2.heap.size := g2.size
  have O2 := own_mono ho (A := g + 1) (by omega)
  clear X1 S1 B1 h1 g2 ho
  go_upto_region 3 with (fail)
  have hb3 : Below w2.heap.size w2 (w2.alloc (.cells (bcells b (.slice ua b.q.length uc)) 30)) := (Below.refl _ _).alloc (Nat.le_refl _) _
  have Y3 := BBox.new w2 30 b (.slice ua b.q.length uc)
  have X3 := X2.below hb3
  have S3 := (hb3.block _ (by omega)).trans S2
  have B3 := below_end B2 hb3
  have O3 := row_below O2 hb3
  have H3 := h2.after hb3
  obtain ⟨M, hM⟩ : ∃ M, w2.heap.size = M := ⟨_, rfl⟩
  rw [hM] at Y3 hs2 ⊢
  generalize w2.alloc (.cells (bcells b (.slice ua b.q.length uc)) 30) = w3 at Y3 X3 S3 B3 O3 H3 ⊢
  clear hM hb3 X2 S2 B2 O2 h2
  have hb4 := (Below.refl w3.heap.size w3).drew
  have X4 := X3.below hb4
  have Y4 := Y3.below hb4
  have S4 := (hb4.block (w.heap.size + 1) (by have := Y3.lt; omega)).trans S3
  have B4 := below_end B3 hb4
  have O4 := row_below O3 hb4
  have H4 := H3.after hb4
  clear X3 Y3 S3 B3 O3 H3 hb4
  refine wp_region_held_drew (S := fun wx => BBox wx M 30 b (.slice ua b.q.length uc)) (by kernel_rfl) ?_ (fun hHeld => ?_)
  · exact Y4
  change wpAnyH _ _ _ _ _ 5 #[false, false, false, false, false] _ _
  generalize w3.drew = w4 at X4 Y4 S4 B4 O4 H4 hHeld ⊢
  refine wpAnyH_take (i := 0) (v := bagg b (.slice ua b.q.length uc)) rfl (by kernel_rfl) (by kernel_rfl) (by kernel_rfl) (fun _ _ _ h => h) (yieldsIf_load_mid rfl 30 (.tmp 5) rfl M 0 rfl [.int .i64 b.cap, .int .i64 b.pol, (.slice ua b.q.length uc), .int .i64 b.ofr, .int .i64 b.rcv, .int .i64 b.drp, .int .i64 b.mrg, .bool b.shut] _ (fun wx h => range_of_heap h) Tryd.underlying30 rfl (by kernel_rfl)) (by assumption) ?_
  try simp only [Act.put, List.getElem_toArray, List.getElem_cons_succ, List.getElem_cons_zero, List.setIfInBounds_toArray, List.set_cons_zero, List.set_cons_succ]
  refine wpAnyH_take (i := 1) (v := ?_) rfl (by kernel_rfl) (by kernel_rfl) (by kernel_rfl) (fun _ _ _ h => h) (Or.inl ⟨by rfl, ?_⟩) (by assumption) ?_
  rotate_left
  · intro w hSw; (try dsimp only at hSw); go_simp; try with_reducible rfl
  try simp only [Act.put, List.getElem_toArray, List.getElem_cons_succ, List.getElem_cons_zero, List.setIfInBounds_toArray, List.set_cons_zero, List.set_cons_succ]
  refine wpAnyH_ready (rs := [2]) (by kernel_rfl) (by simp) (AllReadyH.cons rfl (fun K hK => ?_) AllReadyH.nil)
  rw [if_pos (by rfl)]
  go_simp; go_at_call 31; refine (draw4A_any H4).mono ?_; rintro e w5 ⟨x, rfl, hx, h5, g5⟩; have X5 := X4.grown g5 (by omega); have Y5 := Y4.grown g5 (by omega); have S5 := (g5.block (w.heap.size + 1) (by have := Y4.lt; omega) (fun e => by injection e with e; omega)).trans S4; have B5 := B4.grown g5 B4.size (fun k e => by cases e; omega); have O5 := own_thrown O4 (show g < g + 1 by omega) g5; clear X4 Y4 S4 B4 O4 H4 h5 g5; go_wp2_with fail
  refine hK.out _ _ ?_ (fun hHeld => ?_)
  · exact Y5
  clear hK K
  try simp only [Act.put, List.getElem_toArray, List.getElem_cons_succ, List.getElem_cons_zero, List.setIfInBounds_toArray, List.set_cons_zero, List.set_cons_succ]
  have G6 := grown_setRow w5 w.heap.size (bcells b (.slice ua b.q.length uc))
  have X6 := setRow_heap (bcells b (.slice ua b.q.length uc)) X5
  have Y6 := Y5.grown G6 (by omega)
  have S6 := (G6.block (w.heap.size + 1) (by have := Y5.lt; omega) (fun e => by injection e with e; omega)).trans S5
  have B6 := B5.trans (below_of_grown G6 (Nat.le_refl _) B5.size)
  have O6 := own_grownN O5 (show w.heap.size < g + 1 by omega) G6
  refine wpAnyH_ready (rs := [3]) (by kernel_rfl) (by simp) (AllReadyH.cons rfl (fun K hK => ?_) AllReadyH.nil)
  rw [if_pos (by rfl)]
  refine wp_store_row 30 (.tmp 2) (.tmp 10) rfl w.heap.size (bcells b (.slice ua b.q.length uc)) rfl rfl 30 _ X5 (by kernel_rfl) rfl (bcells_one _ _ _ _) ?_
  refine hK.out _ _ ?_ (fun hHeld => ?_)
  · exact Y6
  clear hK K
  try simp only [Act.put, List.getElem_toArray, List.getElem_cons_succ, List.getElem_cons_zero, List.setIfInBounds_toArray, List.set_cons_zero, List.set_cons_succ]
  generalize w5.setRow w.heap.size (bcells b (.slice ua b.q.length uc)) = w6 at X6 Y6 S6 B6 O6 hHeld ⊢
  clear X5 Y5 S5 B5 O5 G6
  have G7 := grown_setRow w6 (w.heap.size + 1) #[.int .i64 x.1, .int .i64 x.2.1, .string x.2.2.1, .int .i64 x.2.2.2]
  have S7 := setRow_heap #[.int .i64 x.1, .int .i64 x.2.1, .string x.2.2.1, .int .i64 x.2.2.2] S6
  have Y7 := Y6.grown G7 (by omega)
  have X7 := (G7.block w.heap.size (by have := Y6.lt; omega) (fun e => by injection e with e; omega)).trans X6
  have B7 := B6.trans (below_of_grown G7 (by omega) B6.size)
  have O7 := own_grownN O6 (show w.heap.size + 1 < g + 1 by omega) G7
  refine wpAnyH_ready (rs := [4]) (by kernel_rfl) (by simp) (AllReadyH.cons rfl (fun K hK => ?_) AllReadyH.nil)
  rw [if_pos (by rfl)]
  refine wp_store_row 35 (.tmp 3) (.tmp 12) rfl (w.heap.size + 1) #[.int .i64 x.1, .int .i64 x.2.1, .string x.2.2.1, .int .i64 x.2.2.2] rfl rfl 35 _ S6 (by kernel_rfl) rfl (by simp [Value.oneCell']) ?_
  refine hK.out _ _ ?_ (fun hHeld => ?_)
  · exact Y7
  clear hK K
  try simp only [Act.put, List.getElem_toArray, List.getElem_cons_succ, List.getElem_cons_zero, List.setIfInBounds_toArray, List.set_cons_zero, List.set_cons_succ]
  refine wpAnyH_done (by kernel_rfl) ?_ _
  generalize w6.setRow (w.heap.size + 1) #[.int .i64 x.1, .int .i64 x.2.1, .string x.2.2.1, .int .i64 x.2.2.2] = w7 at X7 S7 B7 O7 ⊢
  clear hHeld X6 Y6 S6 B6 O6 G7 Y7
  go_wp2
  exact bodyPost_ret (results_row_row rfl _ _ _ _ _ _ _ _ _ _ _ _ rfl X7 Tryd.underlying30 rfl (by kernel_rfl) rfl S7 Tryd.underlying35 rfl (by kernel_rfl)) rfl ⟨b, _, x, rfl, own_mono O7 (by omega), hs, hx, B7⟩

end Go.Proofs.YtgmbjnobpkdjkaaDoor
