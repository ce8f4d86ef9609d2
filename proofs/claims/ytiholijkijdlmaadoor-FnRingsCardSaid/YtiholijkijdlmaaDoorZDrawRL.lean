/- The walk of the reference's draw for the law of LatestOf. -/
import Derived.Test.YtiholijkijdlmaaDoorZDrawRD
set_option linter.unusedSimpArgs false
set_option linter.unusedVariables false
namespace Go.Proofs.YtiholijkijdlmaaDoor
open Go.RowKit

set_option maxRecDepth 100000 in
set_option maxHeartbeats 3200000 in
theorem drawLatest_any {a : Option Addr} {len cap : Nat} {w : World} (hlen : len ≤ 4096) (hc : CodeAt w.heap.size a len w) :
    Calls Tryd.prog 8 #[.slice a len cap] w fun e w' => ∃ q u l, ∃ n : Int, ∃ f : ByteArray, e = .returned (.tuple #[.agg #[.int .i64 q, u], .int .i64 n, .string f]) ∧ MOwn w' w.heap.size u l ∧ ShortL 6 l ∧ n ≤ 9 ∧ f.size ≤ 13 ∧ Below w.heap.size w w' := by
  have HC := Lib.hid hc
  clear hc
  go_enter Tryd.func8, Tryd.ntmps8
  go_wp2_with fail
  have b0 : Below w.heap.size w (w.alloc (.cells #[.int .i64 0, .slice none 0 0] 26)) := (Below.refl _ _).alloc (Nat.le_refl _) _
  have s0 : (w.alloc (.cells #[.int .i64 0, .slice none 0 0] 26)).heap.size = w.heap.size + 1 := by simp
  have X0 : RB (w.alloc (.cells #[.int .i64 0, .slice none 0 0] 26)) w.heap.size 0 (.slice none 0 0) := RB.new w 0 (.slice none 0 0)
  generalize w.alloc (.cells #[.int .i64 0, .slice none 0 0] 26) = w0 at b0 s0 X0 ⊢
  refine (curNew_any a len cap w0 hlen (by rw [s0]; exact (HC.out.below b0.block).mono (by omega))).mono ?_
  rintro e w1 ⟨rfl, h1, b1⟩
  have H1 := Lib.hid h1
  have X1 := Lib.hid (X0.below b1)
  have B1 := Lib.hid (b0.trans (b1.mono b0.size))
  have hg : w0.heap.size < w1.heap.size := h1.lt
  obtain ⟨g, hgg⟩ : ∃ g, w0.heap.size = g := ⟨_, rfl⟩
  rw [hgg] at H1 hg s0 ⊢
  have hgs : w.heap.size < g := by omega
  clear h1 b1 b0 X0 hgg HC s0
  go_wp2_with fail
  refine (draw5A_any H1.out).mono ?_
  rintro e w2 ⟨q, u, l, rfl, ho, hs, h2, g2⟩
  obtain ⟨xa, xc, hxu⟩ := own_slice ho
  subst hxu
  have O2 := Lib.hid ho
  have H2 := Lib.hid h2
  have X2 := Lib.hid (X1.out.grown g2 (by omega))
  have B2 := Lib.hid (B1.out.grown g2 B1.out.size (fun k e => by cases e; omega))
  have hg2 : w1.heap.size ≤ w2.heap.size := g2.size
  clear h2 g2 ho H1 X1 B1
  go_wp2_with fail
  have hb := (Below.refl w2.heap.size w2).alloc (Nat.le_refl _) (.cells #[.int .i64 q, .slice xa l.length xc] 26)
  have Y3 := Lib.hid (RB.new w2 q (.slice xa l.length xc))
  have O3 := Lib.hid (row_below O2.out hb)
  have H3 := Lib.hid (H2.out.after hb)
  have X3 := Lib.hid (X2.out.below hb)
  have B3 := Lib.hid (B2.out.trans (hb.mono B2.out.size))
  clear hb O2 H2 X2 B2
  generalize w2.alloc (.cells #[.int .i64 q, .slice xa l.length xc] 26) = w3 at Y3 O3 H3 X3 B3 ⊢
  obtain ⟨M, hM⟩ : ∃ M, w2.heap.size = M := ⟨_, rfl⟩
  rw [hM] at Y3 hg2 ⊢
  clear hM
  refine (curFrom7_any H3.out).mono ?_
  rintro e w4 ⟨n, rfl, hn, h4, g4⟩
  have H4 := Lib.hid h4
  have X4 := Lib.hid (X3.out.grown g4 (by omega))
  have Y4 := Lib.hid (Y3.out.grown g4 (by omega))
  have O4 := Lib.hid (show MOwn w4 w1.heap.size (.slice xa l.length xc) l from own_thrown O3.out hg g4)
  have B4 := Lib.hid (B3.out.grown g4 B3.out.size (fun k e => by cases e; omega))
  clear h4 g4 H3 X3 Y3 O3 B3
  go_wp2_with fail
  refine (curOnce_any 10 (by omega) H4.out).mono ?_
  rintro e w5 ⟨b, rfl, h5, g5⟩
  have H5 := Lib.hid h5
  have X5 := Lib.hid (X4.out.grown g5 (by omega))
  have Y5 := Lib.hid (Y4.out.grown g5 (by omega))
  have O5 := Lib.hid (show MOwn w5 w1.heap.size (.slice xa l.length xc) l from own_thrown O4.out hg g5)
  have B5 := Lib.hid (B4.out.grown g5 B4.out.size (fun k e => by cases e; omega))
  clear h5 g5 H4 X4 Y4 O4 B4
  have d0 := Y5.out.c0
  have d1 := Y5.out.c1
  cases b
  · go_wp2_with fail
    refine wp_region_held_drew (S := fun wx => wx.cell? ⟨M, 0, none⟩ = some (.int .i64 q) ∧ wx.cell? ⟨M, 1, none⟩ = some (.slice xa l.length xc)) (by kernel_rfl) ?_ (fun hHeld => ?_)
    · exact ⟨d0, d1⟩
    change wpAnyH _ _ _ _ _ 7 #[false, false, false, false, false, false, false] _ _
    refine wpAnyH_take (i := 0) (v := ?_) rfl (by kernel_rfl) (by kernel_rfl) (by kernel_rfl) (fun _ _ _ h => h) (Or.inl ⟨by rfl, ?_⟩) (by assumption) ?_
    rotate_left
    · intro w hSw; (try dsimp only at hSw); go_simp; try with_reducible rfl
    try simp only [Act.put, List.getElem_toArray, List.getElem_cons_succ, List.getElem_cons_zero, List.setIfInBounds_toArray, List.set_cons_zero, List.set_cons_succ]
    refine wpAnyH_take (i := 1) (v := ?_) rfl (by kernel_rfl) (by kernel_rfl) (by kernel_rfl) (fun _ _ _ h => h) (Or.inl ⟨by rfl, ?_⟩) (by assumption) ?_
    rotate_left
    · intro w hSw; (try dsimp only at hSw); go_simp; try with_reducible rfl
    try simp only [Act.put, List.getElem_toArray, List.getElem_cons_succ, List.getElem_cons_zero, List.setIfInBounds_toArray, List.set_cons_zero, List.set_cons_succ]
    refine wpAnyH_take (i := 2) (v := ?_) rfl (by kernel_rfl) (by kernel_rfl) (by kernel_rfl) (fun _ _ _ h => h) (Or.inl ⟨by rfl, ?_⟩) (by assumption) ?_
    rotate_left
    · intro w hSw; (try dsimp only at hSw); go_simp; try with_reducible rfl
    try simp only [Act.put, List.getElem_toArray, List.getElem_cons_succ, List.getElem_cons_zero, List.setIfInBounds_toArray, List.set_cons_zero, List.set_cons_succ]
    refine wpAnyH_ready (rs := [3]) (by kernel_rfl) (by simp) (AllReadyH.cons rfl (fun K hK => ?_) AllReadyH.nil)
    rw [if_pos (by rfl)]
    go_simp; go_at_call 32; refine (drawFilter_any (H5.out.after (Below.refl _ _).drew)).mono ?_; rintro e w6 ⟨f, rfl, hf, h6, g5⟩; have g6 : w5.grownBy w6 (some g) := grown_trans (grown_below (Below.refl _ _).drew) g5; have X6 := Lib.hid (X5.out.grown g6 (by omega)); have Y6 := Lib.hid (Y5.out.grown g6 (by omega)); have O6 := Lib.hid (show MOwn w6 w1.heap.size (.slice xa l.length xc) l from own_thrown O5.out hg g6); have B6 := Lib.hid (B5.out.grown g6 B5.out.size (fun k e => by cases e; omega)); clear h6 g5 g6 H5 X5 Y5 O5 B5 d0 d1; go_wp2_with fail
    refine hK.out _ _ ?_ (fun hHeld => ?_)
    · exact ⟨Y6.out.c0, Y6.out.c1⟩
    clear hK K
    try simp only [Act.put, List.getElem_toArray, List.getElem_cons_succ, List.getElem_cons_zero, List.setIfInBounds_toArray, List.set_cons_zero, List.set_cons_succ]
    have HG6 := Lib.hid (grown_trans (grown_setCell w6 w.heap.size 0 (.int .i64 q)) (grown_setCell _ w.heap.size 1 (.slice xa l.length xc)))
    have e0 := X6.out.c0
    have e1 := X6.out.c1
    have f0 := X6.out.fr 0
    have f1 := X6.out.fr 1
    have X7 := Lib.hid ((X6.out.set0 q).set1 (.slice xa l.length xc))
    have O7 := Lib.hid (own_offR (own_offR (j := 0) (x := .int .i64 q) O6.out X6.out) (j := 1) (x := .slice xa l.length xc) (X6.out.set0 q))
    have B7 := Lib.hid (B6.out.grown HG6.out B6.out.size (fun k e => by cases e; exact Nat.le_refl _))
    refine wpAnyH_ready (rs := [4]) (by kernel_rfl) (by simp) (AllReadyH.cons rfl (fun K hK => ?_) AllReadyH.nil)
    rw [if_pos (by rfl)]
    go_simp
    refine hK.out _ _ ?_ (fun hHeld => ?_)
    · exact ⟨cell_far HG6.out (by omega) hHeld.1, cell_far HG6.out (by omega) hHeld.2⟩
    clear hK K
    try simp only [Act.put, List.getElem_toArray, List.getElem_cons_succ, List.getElem_cons_zero, List.setIfInBounds_toArray, List.set_cons_zero, List.set_cons_succ]
    clear e0 e1 f0 f1 X6 O6 B6
    refine wpAnyH_take (i := 5) (v := ?_) rfl (by kernel_rfl) (by kernel_rfl) (by kernel_rfl) (fun _ _ _ h => h) (Or.inl ⟨by rfl, ?_⟩) (by assumption) ?_
    rotate_left
    · intro w hSw; (try dsimp only at hSw); go_simp; try with_reducible rfl
    try simp only [Act.put, List.getElem_toArray, List.getElem_cons_succ, List.getElem_cons_zero, List.setIfInBounds_toArray, List.set_cons_zero, List.set_cons_succ]
    refine wpAnyH_take (i := 6) (v := ?_) rfl (by kernel_rfl) (by kernel_rfl) (by kernel_rfl) (fun _ _ _ h => h) (Or.inl ⟨by rfl, ?_⟩) (by assumption) ?_
    rotate_left
    · intro w hSw; (try dsimp only at hSw); go_simp; try with_reducible rfl
    try simp only [Act.put, List.getElem_toArray, List.getElem_cons_succ, List.getElem_cons_zero, List.setIfInBounds_toArray, List.set_cons_zero, List.set_cons_succ]
    refine wpAnyH_done (by kernel_rfl) ?_ _
    clear hHeld HG6
    go_wp2
    exact bodyPost_ret (results_row_tmp2 rfl _ _ _ _ _ _ _ rfl X7.out Tryd.underlying26 rfl (by kernel_rfl)) rfl ⟨q, _, l, n, f, rfl, own_mono O7.out (by omega), hs, hn, by omega, B7.out⟩
  · go_wp2_with fail
    refine wp_region_held_drew (S := fun wx => wx.cell? ⟨M, 0, none⟩ = some (.int .i64 q) ∧ wx.cell? ⟨M, 1, none⟩ = some (.slice xa l.length xc)) (by kernel_rfl) ?_ (fun hHeld => ?_)
    · exact ⟨d0, d1⟩
    change wpAnyH _ _ _ _ _ 7 #[false, false, false, false, false, false, false] _ _
    refine wpAnyH_take (i := 0) (v := ?_) rfl (by kernel_rfl) (by kernel_rfl) (by kernel_rfl) (fun _ _ _ h => h) (Or.inl ⟨by rfl, ?_⟩) (by assumption) ?_
    rotate_left
    · intro w hSw; (try dsimp only at hSw); go_simp; try with_reducible rfl
    try simp only [Act.put, List.getElem_toArray, List.getElem_cons_succ, List.getElem_cons_zero, List.setIfInBounds_toArray, List.set_cons_zero, List.set_cons_succ]
    refine wpAnyH_take (i := 1) (v := ?_) rfl (by kernel_rfl) (by kernel_rfl) (by kernel_rfl) (fun _ _ _ h => h) (Or.inl ⟨by rfl, ?_⟩) (by assumption) ?_
    rotate_left
    · intro w hSw; (try dsimp only at hSw); go_simp; try with_reducible rfl
    try simp only [Act.put, List.getElem_toArray, List.getElem_cons_succ, List.getElem_cons_zero, List.setIfInBounds_toArray, List.set_cons_zero, List.set_cons_succ]
    refine wpAnyH_take (i := 2) (v := ?_) rfl (by kernel_rfl) (by kernel_rfl) (by kernel_rfl) (fun _ _ _ h => h) (Or.inl ⟨by rfl, ?_⟩) (by assumption) ?_
    rotate_left
    · intro w hSw; (try dsimp only at hSw); go_simp; try with_reducible rfl
    try simp only [Act.put, List.getElem_toArray, List.getElem_cons_succ, List.getElem_cons_zero, List.setIfInBounds_toArray, List.set_cons_zero, List.set_cons_succ]
    refine wpAnyH_ready (rs := [3]) (by kernel_rfl) (by simp) (AllReadyH.cons rfl (fun K hK => ?_) AllReadyH.nil)
    rw [if_pos (by rfl)]
    go_simp; go_at_call 31; refine (drawName_any (H5.out.after (Below.refl _ _).drew)).mono ?_; rintro e w6 ⟨f, rfl, hf, h6, g5⟩; have g6 : w5.grownBy w6 (some g) := grown_trans (grown_below (Below.refl _ _).drew) g5; have X6 := Lib.hid (X5.out.grown g6 (by omega)); have Y6 := Lib.hid (Y5.out.grown g6 (by omega)); have O6 := Lib.hid (show MOwn w6 w1.heap.size (.slice xa l.length xc) l from own_thrown O5.out hg g6); have B6 := Lib.hid (B5.out.grown g6 B5.out.size (fun k e => by cases e; omega)); clear h6 g5 g6 H5 X5 Y5 O5 B5 d0 d1; go_wp2_with fail
    refine hK.out _ _ ?_ (fun hHeld => ?_)
    · exact ⟨Y6.out.c0, Y6.out.c1⟩
    clear hK K
    try simp only [Act.put, List.getElem_toArray, List.getElem_cons_succ, List.getElem_cons_zero, List.setIfInBounds_toArray, List.set_cons_zero, List.set_cons_succ]
    have HG6 := Lib.hid (grown_trans (grown_setCell w6 w.heap.size 0 (.int .i64 q)) (grown_setCell _ w.heap.size 1 (.slice xa l.length xc)))
    have e0 := X6.out.c0
    have e1 := X6.out.c1
    have f0 := X6.out.fr 0
    have f1 := X6.out.fr 1
    have X7 := Lib.hid ((X6.out.set0 q).set1 (.slice xa l.length xc))
    have O7 := Lib.hid (own_offR (own_offR (j := 0) (x := .int .i64 q) O6.out X6.out) (j := 1) (x := .slice xa l.length xc) (X6.out.set0 q))
    have B7 := Lib.hid (B6.out.grown HG6.out B6.out.size (fun k e => by cases e; exact Nat.le_refl _))
    refine wpAnyH_ready (rs := [4]) (by kernel_rfl) (by simp) (AllReadyH.cons rfl (fun K hK => ?_) AllReadyH.nil)
    rw [if_pos (by rfl)]
    go_simp
    refine hK.out _ _ ?_ (fun hHeld => ?_)
    · exact ⟨cell_far HG6.out (by omega) hHeld.1, cell_far HG6.out (by omega) hHeld.2⟩
    clear hK K
    try simp only [Act.put, List.getElem_toArray, List.getElem_cons_succ, List.getElem_cons_zero, List.setIfInBounds_toArray, List.set_cons_zero, List.set_cons_succ]
    clear e0 e1 f0 f1 X6 O6 B6
    refine wpAnyH_take (i := 5) (v := ?_) rfl (by kernel_rfl) (by kernel_rfl) (by kernel_rfl) (fun _ _ _ h => h) (Or.inl ⟨by rfl, ?_⟩) (by assumption) ?_
    rotate_left
    · intro w hSw; (try dsimp only at hSw); go_simp; try with_reducible rfl
    try simp only [Act.put, List.getElem_toArray, List.getElem_cons_succ, List.getElem_cons_zero, List.setIfInBounds_toArray, List.set_cons_zero, List.set_cons_succ]
    refine wpAnyH_take (i := 6) (v := ?_) rfl (by kernel_rfl) (by kernel_rfl) (by kernel_rfl) (fun _ _ _ h => h) (Or.inl ⟨by rfl, ?_⟩) (by assumption) ?_
    rotate_left
    · intro w hSw; (try dsimp only at hSw); go_simp; try with_reducible rfl
    try simp only [Act.put, List.getElem_toArray, List.getElem_cons_succ, List.getElem_cons_zero, List.setIfInBounds_toArray, List.set_cons_zero, List.set_cons_succ]
    refine wpAnyH_done (by kernel_rfl) ?_ _
    clear hHeld HG6
    go_wp2
    exact bodyPost_ret (results_row_tmp2 rfl _ _ _ _ _ _ _ rfl X7.out Tryd.underlying26 rfl (by kernel_rfl)) rfl ⟨q, _, l, n, f, rfl, own_mono O7.out (by omega), hs, hn, by omega, B7.out⟩

end Go.Proofs.YtiholijkijdlmaaDoor
