/- The walk of the reference's draw for the law of Kept. -/
import Derived.Test.YtgkfnmbjlfmcmaaGreatDoorZDrawKA
import Derived.Laws.Rows
set_option linter.unusedSimpArgs false
set_option linter.unusedVariables false
namespace Go.Proofs.YtgkfnmbjlfmcmaaGreatDoor
open Go.RowKit

theorem results_tmp_row {P : Program} {fn : Func} {p u : Tmp} {ty2 : TypeId} (h : fn.results = #[.tmp p, .cell u ty2]) (tmps : Array Value) (w : World)
    (g2 : Nat) (t2 : TypeId) (cs2 : Array Value) (fr2 : Nat × Nat) (d2 : TypeDesc)
    (hp2 : tmps.getD u undef = .pointer (some ⟨g2, 0, none⟩)) (hg2 : w.heap[g2]? = some (.cells cs2 t2 fr2))
    (hu2 : P.underlying ty2 = some d2) (hd2 : (match d2 with | .struct _ | .array _ _ => true | _ => false) = true) (hi2 : (P.info? ty2).map (·.size) = some cs2.size) :
    (results fn tmps).run P w = .ok (.tuple #[tmps.getD p undef, .agg cs2]) w := by
  have hp2' : tmps[u]?.getD undef = .pointer (some ⟨g2, 0, none⟩) := by simpa [Array.getD_eq_getD_getElem?] using hp2
  simp [results, h, hp2', asAddr, run_loadVar_row w g2 t2 ty2 cs2 fr2 d2 hg2 hu2 hd2 hi2, Result.andThen]

theorem mput_grown2 (w : World) (B : Nat) (x : MsgM) : w.grownBy (mput w B x) (some B) :=
  grown_trans (grown_trans (grown_trans (grown_setCell _ _ _ _) (grown_setCell _ _ _ _)) (grown_setCell _ _ _ _)) (grown_setCell _ _ _ _)

set_option maxRecDepth 100000 in
set_option maxHeartbeats 3200000 in
theorem drawKept_any {a : Option Addr} {len cap : Nat} {w : World} (hlen : len ≤ 4096) (hc : CodeAt w.heap.size a len w) :
    Calls Tryz.prog 5 #[.slice a len cap] w fun e w' => ∃ u l, ∃ x : MsgM, e = .returned (.tuple #[u, magg x]) ∧ MOwn w' w.heap.size u l ∧ l.length ≤ 25 ∧ (∀ x ∈ l, ShortM x) ∧ ShortM x ∧ Below w.heap.size w w' := by
  have HC := Lib.hid hc
  clear hc
  go_enter Tryz.func5, Tryz.ntmps5
  go_wp2_with fail
  have b0 : Below w.heap.size w (w.alloc (.cells #[.int .i64 0, .int .i64 0, .string ⟨#[]⟩, .int .i64 0] 26)) := (Below.refl _ _).alloc (Nat.le_refl _) _
  have s0 : (w.alloc (.cells #[.int .i64 0, .int .i64 0, .string ⟨#[]⟩, .int .i64 0] 26)).heap.size = w.heap.size + 1 := by simp
  have S0 : MBox (w.alloc (.cells #[.int .i64 0, .int .i64 0, .string ⟨#[]⟩, .int .i64 0] 26)) w.heap.size 26 (0, 0, ⟨#[]⟩, 0) := MBox.new w 26 (0, 0, ⟨#[]⟩, 0)
  generalize w.alloc (.cells #[.int .i64 0, .int .i64 0, .string ⟨#[]⟩, .int .i64 0] 26) = w0 at b0 s0 S0 ⊢
  refine (curNew_any a len cap w0 hlen (by rw [s0]; exact (HC.out.below b0.block).mono (by omega))).mono ?_
  rintro e w1 ⟨rfl, h1, b1⟩
  have H1 := Lib.hid h1
  have S1 := Lib.hid (S0.below b1)
  have B1 := Lib.hid (b0.trans (b1.mono b0.size))
  have hg : w0.heap.size < w1.heap.size := h1.lt
  obtain ⟨g, hgg⟩ : ∃ g, w0.heap.size = g := ⟨_, rfl⟩
  rw [hgg] at H1 hg s0 ⊢
  have hgs : w.heap.size < g := by omega
  have hsz : w.heap.size ≤ w1.heap.size := by omega
  clear h1 b1 b0 S0 hgg HC s0
  go_wp2_with fail
  refine (draw6A_any H1.out).mono ?_
  rintro e w2 ⟨u, l, rfl, ho, hlm, hs, h2, g2⟩
  obtain ⟨xa, xc, hxu⟩ := own_slice ho
  subst hxu
  have O2 := Lib.hid ho
  have LS := Lib.hid hs
  have H2 := Lib.hid h2
  have S2 := Lib.hid (S1.out.grown g2 (by omega))
  have B2 := Lib.hid (B1.out.grown g2 B1.out.size (fun k e => by cases e; omega))
  have hg2 : w1.heap.size ≤ w2.heap.size := g2.size
  clear h2 g2 ho H1 S1 B1 hs
  go_wp2_with fail
  refine (draw4A_any H2.out).mono ?_
  rintro e w3 ⟨x, rfl, hx, h3, g3⟩
  have H3 := Lib.hid h3
  have S3 := Lib.hid (S2.out.grown g3 (by omega))
  have O3 : Hid (MOwn w3 w1.heap.size (.slice xa l.length xc) l) := Lib.hid (own_thrown O2.out hg g3)
  have B3 := Lib.hid (B2.out.grown g3 B2.out.size (fun k e => by cases e; omega))
  have hg3 : w1.heap.size ≤ w3.heap.size := Nat.le_trans hg2 g3.size
  clear h3 g3 O2 H2 S2 B2 hg2
  go_wp2_with fail
  have hb := (Below.refl w3.heap.size w3).alloc (Nat.le_refl _) (.cells #[.int .i64 x.1, .int .i64 x.2.1, .string x.2.2.1, .int .i64 x.2.2.2] 26)
  have Y4 := Lib.hid (MBox.new w3 26 x)
  have HGL : Hid (∀ i, (Value.slice xa l.length xc).ownBlock = some i → i < w3.heap.size) := Lib.hid (fun i e => (O3.out.lt i e).2)
  have O4 : Hid (MOwn (w3.alloc (.cells #[.int .i64 x.1, .int .i64 x.2.1, .string x.2.2.1, .int .i64 x.2.2.2] 26)) w1.heap.size (.slice xa l.length xc) l) := Lib.hid (row_below O3.out hb)
  have H4 := Lib.hid (H3.out.after hb)
  have S4 := Lib.hid (S3.out.below hb)
  have B4 := Lib.hid (B3.out.trans (hb.mono B3.out.size))
  clear hb O3 H3 S3 B3
  generalize w3.alloc (.cells #[.int .i64 x.1, .int .i64 x.2.1, .string x.2.2.1, .int .i64 x.2.2.2] 26) = w4 at Y4 O4 H4 S4 B4 ⊢
  obtain ⟨M, hM⟩ : ∃ M, w3.heap.size = M := ⟨_, rfl⟩
  rw [hM] at Y4 hg3 HGL ⊢
  clear hM
  refine (curOnce_any 2 (by omega) H4.out).mono ?_
  rintro e w5 ⟨b, rfl, h5, g5⟩
  have H5 := Lib.hid h5
  have S5 := Lib.hid (S4.out.grown g5 (by omega))
  have Y5x := Lib.hid (Y4.out.grown g5 (by omega))
  have O5 : Hid (MOwn w5 w1.heap.size (.slice xa l.length xc) l) := Lib.hid (own_thrown O4.out hg g5)
  have B5 := Lib.hid (B4.out.grown g5 B4.out.size (fun k e => by cases e; omega))
  clear h5 g5 H4 S4 Y4 O4 B4
  cases b
  · obtain ⟨y, hyx⟩ : ∃ y, x = y := ⟨_, rfl⟩
    have YS : Hid (ShortM y) := Lib.hid (by rw [← hyx]; exact hx)
    have Y5 : Hid (MBox w5 M 26 y) := Lib.hid (by rw [← hyx]; exact Y5x.out)
    clear Y5x hyx HGL H5
    have hy := YS.out
    obtain ⟨y1, y2, y3, y4⟩ := y
    have d := Y5.out.cells
    dsimp only at d
    go_wp2_with fail
    refine wp_region_held_drew (S := fun wx => wx.cell? ⟨M, 0, none⟩ = some (.int .i64 y1) ∧ wx.cell? ⟨M, 1, none⟩ = some (.int .i64 y2) ∧ wx.cell? ⟨M, 2, none⟩ = some (.string y3) ∧ wx.cell? ⟨M, 3, none⟩ = some (.int .i64 y4)) (by kernel_rfl) ?_ (fun hHeld => ?_)
    · exact d
    change wpAnyH _ _ _ _ _ 4 #[false, false, false, false] _ _
    clear d
    have S6 := Lib.hid (S5.out.below (Below.refl _ _).drew)
    have O6 := Lib.hid (row_below O5.out (Below.refl _ _).drew)
    have B6 := Lib.hid B5.out.drew
    clear S5 O5 B5 Y5
    generalize w5.drew = w6 at S6 O6 B6 hHeld ⊢
    refine wpAnyH_take (i := 0) (v := ?_) rfl (by kernel_rfl) (by kernel_rfl) (by kernel_rfl) (fun _ _ _ h => h) (Or.inl ⟨by rfl, ?_⟩) (by assumption) ?_
    rotate_left
    · intro w hSw; (try dsimp only at hSw); go_simp; try with_reducible rfl
    try simp only [Act.put, List.getElem_toArray, List.getElem_cons_succ, List.getElem_cons_zero, List.setIfInBounds_toArray, List.set_cons_zero, List.set_cons_succ]
    refine wpAnyH_take (i := 1) (v := ?_) rfl (by kernel_rfl) (by kernel_rfl) (by kernel_rfl) (fun _ _ _ h => h) (Or.inl ⟨by rfl, ?_⟩) (by assumption) ?_
    rotate_left
    · intro w hSw; (try dsimp only at hSw); go_simp; try with_reducible rfl
    try simp only [Act.put, List.getElem_toArray, List.getElem_cons_succ, List.getElem_cons_zero, List.setIfInBounds_toArray, List.set_cons_zero, List.set_cons_succ]
    refine wpAnyH_take (i := 2) (v := ?_) rfl (by kernel_rfl) (by kernel_rfl) (by kernel_rfl) (fun _ _ _ h => h) (Or.inl ⟨by rfl, ?_⟩) (by assumption) ?_
    rotate_left
    · intro w hSw; (try dsimp only at hSw); go_simp; try with_reducible rfl
    try simp only [Act.put, List.getElem_toArray, List.getElem_cons_succ, List.getElem_cons_zero, List.setIfInBounds_toArray, List.set_cons_zero, List.set_cons_succ]
    obtain ⟨a0, a1, a2, a3⟩ := S6.out.cells
    have z0 := S6.out.frozen 0 (by omega)
    have z1 := S6.out.frozen 1 (by omega)
    have z2 := S6.out.frozen 2 (by omega)
    have z3 := S6.out.frozen 3 (by omega)
    have S8 := Lib.hid (S6.out.put (y1, y2, y3, y4))
    have HP := Lib.hid (mput_grown2 w6 w.heap.size (y1, y2, y3, y4))
    have O8 := Lib.hid (World.ownsRow.kept O6.out HP.out (.inr (fun e => by have := (O6.out.lt _ e).1; omega)))
    have B8 := Lib.hid (B6.out.grown HP.out B6.out.size (fun k e => by cases e; omega))
    have HPK := Lib.hid (show ∀ b o v, b ≠ w.heap.size → w6.cell? ⟨b, o, none⟩ = some v → (mput w6 w.heap.size (y1, y2, y3, y4)).cell? ⟨b, o, none⟩ = some v from fun b o v hb h => (World.cell?_of_block (HP.out.block b (World.block_lt_of_cell? _ _ h) (fun e => hb (by cases e; rfl)))).trans h)
    unfold mput at S8 HP O8 B8 HPK
    dsimp only at S8 HP O8 B8 HPK a0 a1 a2 a3
    refine wpAnyH_ready (rs := [3]) (by kernel_rfl) (by simp) (AllReadyH.cons rfl (fun K hK => ?_) AllReadyH.nil)
    rw [if_pos (by rfl)]
    go_simp
    refine hK.out _ _ ?_ (fun hHeld => ?_)
    · exact ⟨HPK.out _ _ _ (by omega) hHeld.1, HPK.out _ _ _ (by omega) hHeld.2.1, HPK.out _ _ _ (by omega) hHeld.2.2.1, HPK.out _ _ _ (by omega) hHeld.2.2.2⟩
    clear hK K
    try simp only [Act.put, List.getElem_toArray, List.getElem_cons_succ, List.getElem_cons_zero, List.setIfInBounds_toArray, List.set_cons_zero, List.set_cons_succ]
    refine wpAnyH_done (by kernel_rfl) ?_ _
    clear hHeld a0 a1 a2 a3 z0 z1 z2 z3 S6 O6 B6 HPK HP
    go_wp2
    exact bodyPost_ret (results_tmp_row rfl _ _ _ _ _ _ _ rfl S8.out Tryz.underlying26 rfl (by kernel_rfl)) rfl ⟨_, l, (y1, y2, y3, y4), rfl, own_mono O8.out hsz, hlm, LS.out, hy, B8.out⟩
  by_cases hl0 : 0 < l.length
  · go_wp2_with fail
    refine (curBelow_any l.length (by omega) H5.out).mono ?_
    rintro e w6 ⟨r, hr, rfl, h6, g6⟩
    have hrl : r < l.length := by rcases hr with h | h <;> omega
    have S6 := Lib.hid (S5.out.grown g6 (by omega))
    have Y6 := Lib.hid (Y5x.out.grown g6 (by omega))
    have O6 : Hid (MOwn w6 w1.heap.size (.slice xa l.length xc) l) := Lib.hid (own_thrown O5.out hg g6)
    have B6 := Lib.hid (B5.out.grown g6 B5.out.size (fun k e => by cases e; omega))
    clear h6 g6 H5 S5 Y5x O5 B5 hr
    obtain ⟨gl, cl, hfm⟩ := Joins.ownsRow_form O6.out hl0
    cases hfm
    have hgl : gl < M := HGL.out gl rfl
    have hcell := O6.out.cellAt (r * 4 + 2) (by omega)
    rw [(mcells_at l r hrl).2.2.1] at hcell
    have YS : Hid (ShortM (x.1, x.2.1, l[r].2.2.1, x.2.2.2)) := Lib.hid (show l[r].2.2.1.size ≤ 13 from LS.out _ (List.getElem_mem hrl))
    obtain ⟨tp, htp⟩ : ∃ tp, l[r].2.2.1 = tp := ⟨_, rfl⟩
    rw [htp] at hcell YS
    clear htp
    have HG := Lib.hid (grown_setCell w6 M 2 (.string tp))
    have Y5 : Hid (MBox (w6.setCell ⟨M, 2, none⟩ (.string tp)) M 26 (x.1, x.2.1, tp, x.2.2.2)) := Lib.hid (heap_setCell_same _ _ 2 _ _ (.string tp) Y6.out)
    have S5 := Lib.hid (S6.out.grown HG.out (by omega))
    have O5 : Hid (MOwn (w6.setCell ⟨M, 2, none⟩ (.string tp)) w1.heap.size (.slice (some ⟨gl, 0, none⟩) l.length xc) l) := Lib.hid (World.ownsRow.kept O6.out HG.out (.inr (fun e => by have e3 : gl = M := Option.some.inj e; omega)))
    have B5 := Lib.hid (B6.out.grown HG.out B6.out.size (fun k e => by cases e; omega))
    have q2 := Y6.out.cells.2.2.1
    have f2 := Y6.out.frozen 2 (by omega)
    clear HG S6 O6 B6 Y6
    go_wp2_with fail
    clear q2 f2 hcell hgl HGL
    generalize w6.setCell ⟨M, 2, none⟩ (.string tp) = w5 at Y5 S5 O5 B5 ⊢
    obtain ⟨y, hyx⟩ : ∃ y : MsgM, (x.1, x.2.1, tp, x.2.2.2) = y := ⟨_, rfl⟩
    rw [hyx] at Y5 YS
    clear hyx
    have hy := YS.out
    obtain ⟨y1, y2, y3, y4⟩ := y
    have d := Y5.out.cells
    dsimp only at d
    go_wp2_with fail
    refine wp_region_held_drew (S := fun wx => wx.cell? ⟨M, 0, none⟩ = some (.int .i64 y1) ∧ wx.cell? ⟨M, 1, none⟩ = some (.int .i64 y2) ∧ wx.cell? ⟨M, 2, none⟩ = some (.string y3) ∧ wx.cell? ⟨M, 3, none⟩ = some (.int .i64 y4)) (by kernel_rfl) ?_ (fun hHeld => ?_)
    · exact d
    change wpAnyH _ _ _ _ _ 4 #[false, false, false, false] _ _
    clear d
    have S6 := Lib.hid (S5.out.below (Below.refl _ _).drew)
    have O6 := Lib.hid (row_below O5.out (Below.refl _ _).drew)
    have B6 := Lib.hid B5.out.drew
    clear S5 O5 B5 Y5
    generalize w5.drew = w6 at S6 O6 B6 hHeld ⊢
    refine wpAnyH_take (i := 0) (v := ?_) rfl (by kernel_rfl) (by kernel_rfl) (by kernel_rfl) (fun _ _ _ h => h) (Or.inl ⟨by rfl, ?_⟩) (by assumption) ?_
    rotate_left
    · intro w hSw; (try dsimp only at hSw); go_simp; try with_reducible rfl
    try simp only [Act.put, List.getElem_toArray, List.getElem_cons_succ, List.getElem_cons_zero, List.setIfInBounds_toArray, List.set_cons_zero, List.set_cons_succ]
    refine wpAnyH_take (i := 1) (v := ?_) rfl (by kernel_rfl) (by kernel_rfl) (by kernel_rfl) (fun _ _ _ h => h) (Or.inl ⟨by rfl, ?_⟩) (by assumption) ?_
    rotate_left
    · intro w hSw; (try dsimp only at hSw); go_simp; try with_reducible rfl
    try simp only [Act.put, List.getElem_toArray, List.getElem_cons_succ, List.getElem_cons_zero, List.setIfInBounds_toArray, List.set_cons_zero, List.set_cons_succ]
    refine wpAnyH_take (i := 2) (v := ?_) rfl (by kernel_rfl) (by kernel_rfl) (by kernel_rfl) (fun _ _ _ h => h) (Or.inl ⟨by rfl, ?_⟩) (by assumption) ?_
    rotate_left
    · intro w hSw; (try dsimp only at hSw); go_simp; try with_reducible rfl
    try simp only [Act.put, List.getElem_toArray, List.getElem_cons_succ, List.getElem_cons_zero, List.setIfInBounds_toArray, List.set_cons_zero, List.set_cons_succ]
    obtain ⟨a0, a1, a2, a3⟩ := S6.out.cells
    have z0 := S6.out.frozen 0 (by omega)
    have z1 := S6.out.frozen 1 (by omega)
    have z2 := S6.out.frozen 2 (by omega)
    have z3 := S6.out.frozen 3 (by omega)
    have S8 := Lib.hid (S6.out.put (y1, y2, y3, y4))
    have HP := Lib.hid (mput_grown2 w6 w.heap.size (y1, y2, y3, y4))
    have O8 := Lib.hid (World.ownsRow.kept O6.out HP.out (.inr (fun e => by have := (O6.out.lt _ e).1; omega)))
    have B8 := Lib.hid (B6.out.grown HP.out B6.out.size (fun k e => by cases e; omega))
    have HPK := Lib.hid (show ∀ b o v, b ≠ w.heap.size → w6.cell? ⟨b, o, none⟩ = some v → (mput w6 w.heap.size (y1, y2, y3, y4)).cell? ⟨b, o, none⟩ = some v from fun b o v hb h => (World.cell?_of_block (HP.out.block b (World.block_lt_of_cell? _ _ h) (fun e => hb (by cases e; rfl)))).trans h)
    unfold mput at S8 HP O8 B8 HPK
    dsimp only at S8 HP O8 B8 HPK a0 a1 a2 a3
    refine wpAnyH_ready (rs := [3]) (by kernel_rfl) (by simp) (AllReadyH.cons rfl (fun K hK => ?_) AllReadyH.nil)
    rw [if_pos (by rfl)]
    go_simp
    refine hK.out _ _ ?_ (fun hHeld => ?_)
    · exact ⟨HPK.out _ _ _ (by omega) hHeld.1, HPK.out _ _ _ (by omega) hHeld.2.1, HPK.out _ _ _ (by omega) hHeld.2.2.1, HPK.out _ _ _ (by omega) hHeld.2.2.2⟩
    clear hK K
    try simp only [Act.put, List.getElem_toArray, List.getElem_cons_succ, List.getElem_cons_zero, List.setIfInBounds_toArray, List.set_cons_zero, List.set_cons_succ]
    refine wpAnyH_done (by kernel_rfl) ?_ _
    clear hHeld a0 a1 a2 a3 z0 z1 z2 z3 S6 O6 B6 HPK HP
    go_wp2
    exact bodyPost_ret (results_tmp_row rfl _ _ _ _ _ _ _ rfl S8.out Tryz.underlying26 rfl (by kernel_rfl)) rfl ⟨_, l, (y1, y2, y3, y4), rfl, own_mono O8.out hsz, hlm, LS.out, hy, B8.out⟩
  · have gd1 : decide (0 < l.length) = false := decide_eq_false hl0
    have gd2 : decide ((0 : Int) < (l.length : Int)) = false := decide_eq_false (by omega)
    obtain ⟨y, hyx⟩ : ∃ y, x = y := ⟨_, rfl⟩
    have YS : Hid (ShortM y) := Lib.hid (by rw [← hyx]; exact hx)
    have Y5 : Hid (MBox w5 M 26 y) := Lib.hid (by rw [← hyx]; exact Y5x.out)
    clear Y5x hyx HGL H5
    have hy := YS.out
    obtain ⟨y1, y2, y3, y4⟩ := y
    have d := Y5.out.cells
    dsimp only at d
    go_wp2_with fail
    refine wp_region_held_drew (S := fun wx => wx.cell? ⟨M, 0, none⟩ = some (.int .i64 y1) ∧ wx.cell? ⟨M, 1, none⟩ = some (.int .i64 y2) ∧ wx.cell? ⟨M, 2, none⟩ = some (.string y3) ∧ wx.cell? ⟨M, 3, none⟩ = some (.int .i64 y4)) (by kernel_rfl) ?_ (fun hHeld => ?_)
    · exact d
    change wpAnyH _ _ _ _ _ 4 #[false, false, false, false] _ _
    clear d
    have S6 := Lib.hid (S5.out.below (Below.refl _ _).drew)
    have O6 := Lib.hid (row_below O5.out (Below.refl _ _).drew)
    have B6 := Lib.hid B5.out.drew
    clear S5 O5 B5 Y5
    generalize w5.drew = w6 at S6 O6 B6 hHeld ⊢
    refine wpAnyH_take (i := 0) (v := ?_) rfl (by kernel_rfl) (by kernel_rfl) (by kernel_rfl) (fun _ _ _ h => h) (Or.inl ⟨by rfl, ?_⟩) (by assumption) ?_
    rotate_left
    · intro w hSw; (try dsimp only at hSw); go_simp; try with_reducible rfl
    try simp only [Act.put, List.getElem_toArray, List.getElem_cons_succ, List.getElem_cons_zero, List.setIfInBounds_toArray, List.set_cons_zero, List.set_cons_succ]
    refine wpAnyH_take (i := 1) (v := ?_) rfl (by kernel_rfl) (by kernel_rfl) (by kernel_rfl) (fun _ _ _ h => h) (Or.inl ⟨by rfl, ?_⟩) (by assumption) ?_
    rotate_left
    · intro w hSw; (try dsimp only at hSw); go_simp; try with_reducible rfl
    try simp only [Act.put, List.getElem_toArray, List.getElem_cons_succ, List.getElem_cons_zero, List.setIfInBounds_toArray, List.set_cons_zero, List.set_cons_succ]
    refine wpAnyH_take (i := 2) (v := ?_) rfl (by kernel_rfl) (by kernel_rfl) (by kernel_rfl) (fun _ _ _ h => h) (Or.inl ⟨by rfl, ?_⟩) (by assumption) ?_
    rotate_left
    · intro w hSw; (try dsimp only at hSw); go_simp; try with_reducible rfl
    try simp only [Act.put, List.getElem_toArray, List.getElem_cons_succ, List.getElem_cons_zero, List.setIfInBounds_toArray, List.set_cons_zero, List.set_cons_succ]
    obtain ⟨a0, a1, a2, a3⟩ := S6.out.cells
    have z0 := S6.out.frozen 0 (by omega)
    have z1 := S6.out.frozen 1 (by omega)
    have z2 := S6.out.frozen 2 (by omega)
    have z3 := S6.out.frozen 3 (by omega)
    have S8 := Lib.hid (S6.out.put (y1, y2, y3, y4))
    have HP := Lib.hid (mput_grown2 w6 w.heap.size (y1, y2, y3, y4))
    have O8 := Lib.hid (World.ownsRow.kept O6.out HP.out (.inr (fun e => by have := (O6.out.lt _ e).1; omega)))
    have B8 := Lib.hid (B6.out.grown HP.out B6.out.size (fun k e => by cases e; omega))
    have HPK := Lib.hid (show ∀ b o v, b ≠ w.heap.size → w6.cell? ⟨b, o, none⟩ = some v → (mput w6 w.heap.size (y1, y2, y3, y4)).cell? ⟨b, o, none⟩ = some v from fun b o v hb h => (World.cell?_of_block (HP.out.block b (World.block_lt_of_cell? _ _ h) (fun e => hb (by cases e; rfl)))).trans h)
    unfold mput at S8 HP O8 B8 HPK
    dsimp only at S8 HP O8 B8 HPK a0 a1 a2 a3
    refine wpAnyH_ready (rs := [3]) (by kernel_rfl) (by simp) (AllReadyH.cons rfl (fun K hK => ?_) AllReadyH.nil)
    rw [if_pos (by rfl)]
    go_simp
    refine hK.out _ _ ?_ (fun hHeld => ?_)
    · exact ⟨HPK.out _ _ _ (by omega) hHeld.1, HPK.out _ _ _ (by omega) hHeld.2.1, HPK.out _ _ _ (by omega) hHeld.2.2.1, HPK.out _ _ _ (by omega) hHeld.2.2.2⟩
    clear hK K
    try simp only [Act.put, List.getElem_toArray, List.getElem_cons_succ, List.getElem_cons_zero, List.setIfInBounds_toArray, List.set_cons_zero, List.set_cons_succ]
    refine wpAnyH_done (by kernel_rfl) ?_ _
    clear hHeld a0 a1 a2 a3 z0 z1 z2 z3 S6 O6 B6 HPK HP
    go_wp2
    exact bodyPost_ret (results_tmp_row rfl _ _ _ _ _ _ _ rfl S8.out Tryz.underlying26 rfl (by kernel_rfl)) rfl ⟨_, l, (y1, y2, y3, y4), rfl, own_mono O8.out hsz, hlm, LS.out, hy, B8.out⟩

end Go.Proofs.YtgkfnmbjlfmcmaaGreatDoor
