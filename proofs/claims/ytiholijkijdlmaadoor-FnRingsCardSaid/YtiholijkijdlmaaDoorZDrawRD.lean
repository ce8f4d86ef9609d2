/- The walks of the reference's draws for the laws of rings. -/
import Derived.Test.YtiholijkijdlmaaDoorZB5
import Derived.Test.YtiholijkijdlmaaDoorZB4
import Derived.Test.YtiholijkijdlmaaDoorZB2
set_option linter.unusedSimpArgs false
set_option linter.unusedVariables false
namespace Go.Proofs.YtiholijkijdlmaaDoor
open Go.RowKit

theorem results_row_row {P : Program} {fn : Func} {p u : Tmp} {ty ty2 : TypeId} (h : fn.results = #[.cell p ty, .cell u ty2]) (tmps : Array Value) (w : World) (g : Nat) (t : TypeId) (cs : Array Value) (fr : Nat × Nat) (d : TypeDesc)
    (g2 : Nat) (t2 : TypeId) (cs2 : Array Value) (fr2 : Nat × Nat) (d2 : TypeDesc) (hp : tmps.getD p undef = .pointer (some ⟨g, 0, none⟩)) (hg : w.heap[g]? = some (.cells cs t fr))
    (hu : P.underlying ty = some d) (hd : (match d with | .struct _ | .array _ _ => true | _ => false) = true) (hi : (P.info? ty).map (·.size) = some cs.size)
    (hp2 : tmps.getD u undef = .pointer (some ⟨g2, 0, none⟩)) (hg2 : w.heap[g2]? = some (.cells cs2 t2 fr2))
    (hu2 : P.underlying ty2 = some d2) (hd2 : (match d2 with | .struct _ | .array _ _ => true | _ => false) = true) (hi2 : (P.info? ty2).map (·.size) = some cs2.size) :
    (results fn tmps).run P w = .ok (.tuple #[.agg cs, .agg cs2]) w := by
  have hp' : tmps[p]?.getD undef = .pointer (some ⟨g, 0, none⟩) := by simpa [Array.getD_eq_getD_getElem?] using hp
  have hp2' : tmps[u]?.getD undef = .pointer (some ⟨g2, 0, none⟩) := by simpa [Array.getD_eq_getD_getElem?] using hp2
  simp [results, h, hp', hp2', asAddr, run_loadVar_row w g t ty cs fr d hg hu hd hi, run_loadVar_row w g2 t2 ty2 cs2 fr2 d2 hg2 hu2 hd2 hi2, Result.andThen]

theorem results_row_tmp2 {P : Program} {fn : Func} {p u u2 : Tmp} {ty : TypeId} (h : fn.results = #[.cell p ty, .tmp u, .tmp u2]) (tmps : Array Value) (w : World) (g : Nat) (t : TypeId) (cs : Array Value) (fr : Nat × Nat) (d : TypeDesc)
    (hp : tmps.getD p undef = .pointer (some ⟨g, 0, none⟩)) (hg : w.heap[g]? = some (.cells cs t fr))
    (hu : P.underlying ty = some d) (hd : (match d with | .struct _ | .array _ _ => true | _ => false) = true) (hi : (P.info? ty).map (·.size) = some cs.size) :
    (results fn tmps).run P w = .ok (.tuple #[.agg cs, tmps.getD u undef, tmps.getD u2 undef]) w := by
  have hp' : tmps[p]?.getD undef = .pointer (some ⟨g, 0, none⟩) := by simpa [Array.getD_eq_getD_getElem?] using hp
  simp [results, h, hp', asAddr, run_loadVar_row w g t ty cs fr d hg hu hd hi, Result.andThen]

theorem cell_far {w w' : World} {R b o : Nat} {v : Value} (hg : w.grownBy w' (some R)) (hne : b ≠ R) (h : w.cell? ⟨b, o, none⟩ = some v) : w'.cell? ⟨b, o, none⟩ = some v :=
  (World.cell?_of_block (hg.block b (World.block_lt_of_cell? _ _ h) (fun e => hne (by cases e; rfl)))).trans h

theorem mput_grown (w : World) (B : Nat) (x : MsgM) : w.grownBy (mput w B x) (some B) :=
  grown_trans (grown_trans (grown_trans (grown_setCell _ _ _ _) (grown_setCell _ _ _ _)) (grown_setCell _ _ _ _)) (grown_setCell _ _ _ _)

theorem own_ne_below {w : World} {B n size k : Nat} {E : TypeId} {v : Value} {xs : List Value} (h : w.ownsRow B E size v n xs) (hk : k < B) : v.ownBlock ≠ some k := fun e => by have := (h.lt k e).1; omega

theorem curFrom7_any {g : Nat} {a : Option Addr} {len cap : Nat} {w : World} (h : Curs g a len cap w) :
    Calls Tryd.prog 30 #[.pointer (some ⟨g, 0, none⟩), .int .i64 (-1), .int .i64 7] w fun e w' => ∃ x : Int, e = .returned (.int .i64 x) ∧ x ≤ 9 ∧ Curs g a len cap w' ∧ w.grownBy w' (some g) := by
  have HH := Lib.hid h
  clear h
  go_enter Tryd.func30, Tryd.ntmps30
  go_wp2_with fail
  refine (curBelow_any 9 (by omega) HH.out).mono ?_
  rintro e w1 ⟨r, hr, rfl, h1, g1⟩
  have H1 := Lib.hid h1
  have G1 := Lib.hid g1
  have hr9 : r ≤ 9 := by unfold BelowN at hr; omega
  have hw : IntKind.i64.wrap (-1 + (r : Int)) = -1 + (r : Int) := by rw [IntKind.wrap_i64]; omega
  clear h1 g1 HH
  go_wp2
  go_ret
  exact ⟨_, rfl, by omega, H1.out, G1.out⟩

set_option maxRecDepth 100000 in
set_option maxHeartbeats 3200000 in
theorem drawRecorded_any {a : Option Addr} {len cap : Nat} {w : World} (hlen : len ≤ 4096) (hc : CodeAt w.heap.size a len w) :
    Calls Tryd.prog 5 #[.slice a len cap] w fun e w' => ∃ q u l, ∃ x : MsgM, e = .returned (.tuple #[.agg #[.int .i64 q, u], magg x]) ∧ MOwn w' w.heap.size u l ∧ ShortL 6 l ∧ ShortM x ∧ Below w.heap.size w w' := by
  have HC := Lib.hid hc
  clear hc
  go_enter Tryd.func5, Tryd.ntmps5
  go_wp2_with fail
  have b0 : Below w.heap.size w ((w.alloc (.cells #[.int .i64 0, .slice none 0 0] 26)).alloc (.cells #[.int .i64 0, .int .i64 0, .string ⟨#[]⟩, .int .i64 0] 28)) := ((Below.refl _ _).alloc (Nat.le_refl _) _).alloc (by simp) _
  have s0 : ((w.alloc (.cells #[.int .i64 0, .slice none 0 0] 26)).alloc (.cells #[.int .i64 0, .int .i64 0, .string ⟨#[]⟩, .int .i64 0] 28)).heap.size = w.heap.size + 1 + 1 := by simp
  have X0 : RB ((w.alloc (.cells #[.int .i64 0, .slice none 0 0] 26)).alloc (.cells #[.int .i64 0, .int .i64 0, .string ⟨#[]⟩, .int .i64 0] 28)) w.heap.size 0 (.slice none 0 0) := (RB.new w 0 (.slice none 0 0)).below ((Below.refl (w.alloc (.cells #[.int .i64 0, .slice none 0 0] 26)).heap.size (w.alloc (.cells #[.int .i64 0, .slice none 0 0] 26))).alloc (Nat.le_refl _) (.cells #[.int .i64 0, .int .i64 0, .string ⟨#[]⟩, .int .i64 0] 28))
  have S0 : MBox ((w.alloc (.cells #[.int .i64 0, .slice none 0 0] 26)).alloc (.cells #[.int .i64 0, .int .i64 0, .string ⟨#[]⟩, .int .i64 0] 28)) (w.heap.size + 1) 28 (0, 0, ⟨#[]⟩, 0) := by
    have h := MBox.new (w.alloc (.cells #[.int .i64 0, .slice none 0 0] 26)) 28 (0, 0, ⟨#[]⟩, 0)
    rw [World.size_alloc] at h; exact h
  generalize (w.alloc (.cells #[.int .i64 0, .slice none 0 0] 26)).alloc (.cells #[.int .i64 0, .int .i64 0, .string ⟨#[]⟩, .int .i64 0] 28) = w0 at b0 s0 X0 S0 ⊢
  refine (curNew_any a len cap w0 hlen (by rw [s0]; exact (HC.out.below b0.block).mono (by omega))).mono ?_
  rintro e w1 ⟨rfl, h1, b1⟩
  have H1 := Lib.hid h1
  have X1 := Lib.hid (X0.below b1)
  have S1 := Lib.hid (S0.below b1)
  have B1 := Lib.hid (b0.trans (b1.mono b0.size))
  have hg : w0.heap.size < w1.heap.size := h1.lt
  obtain ⟨g, hgg⟩ : ∃ g, w0.heap.size = g := ⟨_, rfl⟩
  rw [hgg] at H1 hg s0 ⊢
  have hgs : w.heap.size + 1 < g := by omega
  clear h1 b1 b0 X0 S0 hgg HC s0
  go_wp2_with fail
  refine (draw5A_any H1.out).mono ?_
  rintro e w2 ⟨q, u, l, rfl, ho, hs, h2, g2⟩
  obtain ⟨xa, xc, hxu⟩ := own_slice ho
  subst hxu
  have O2 := Lib.hid ho
  have H2 := Lib.hid h2
  have X2 := Lib.hid (X1.out.grown g2 (by omega))
  have S2 := Lib.hid (S1.out.grown g2 (by omega))
  have B2 := Lib.hid (B1.out.grown g2 B1.out.size (fun k e => by cases e; omega))
  have hg2 : w1.heap.size ≤ w2.heap.size := g2.size
  clear h2 g2 ho H1 X1 S1 B1
  go_wp2_with fail
  have hb := (Below.refl w2.heap.size w2).alloc (Nat.le_refl _) (.cells #[.int .i64 q, .slice xa l.length xc] 26)
  have Y3 := Lib.hid (RB.new w2 q (.slice xa l.length xc))
  have O3 := Lib.hid (row_below O2.out hb)
  have H3 := Lib.hid (H2.out.after hb)
  have X3 := Lib.hid (X2.out.below hb)
  have S3 := Lib.hid (S2.out.below hb)
  have B3 := Lib.hid (B2.out.trans (hb.mono B2.out.size))
  clear hb O2 H2 X2 S2 B2
  generalize w2.alloc (.cells #[.int .i64 q, .slice xa l.length xc] 26) = w3 at Y3 O3 H3 X3 S3 B3 ⊢
  obtain ⟨M, hM⟩ : ∃ M, w2.heap.size = M := ⟨_, rfl⟩
  rw [hM] at Y3 hg2 ⊢
  clear hM
  refine (curOnce_any 4 (by omega) H3.out).mono ?_
  rintro e w4 ⟨b, rfl, h4, g4⟩
  have H4 := Lib.hid h4
  have X4 := Lib.hid (X3.out.grown g4 (by omega))
  have Y4 := Lib.hid (Y3.out.grown g4 (by omega))
  have S4 := Lib.hid (S3.out.grown g4 (by omega))
  have O4 := Lib.hid (show MOwn w4 w1.heap.size (.slice xa l.length xc) l from own_thrown O3.out hg g4)
  have B4 := Lib.hid (B3.out.grown g4 B3.out.size (fun k e => by cases e; omega))
  clear h4 g4 H3 X3 Y3 S3 O3 B3
  have d0 := Y4.out.c0
  have d1 := Y4.out.c1
  cases b
  · go_wp2_with fail
    refine wp_region_held_drew (S := fun wx => wx.cell? ⟨M, 0, none⟩ = some (.int .i64 q) ∧ wx.cell? ⟨M, 1, none⟩ = some (.slice xa l.length xc)) (by kernel_rfl) ?_ (fun hHeld => ?_)
    · exact ⟨d0, d1⟩
    change wpAnyH _ _ _ _ _ 8 #[false, false, false, false, false, false, false, false] _ _
    refine wpAnyH_take (i := 0) (v := ?_) rfl (by kernel_rfl) (by kernel_rfl) (by kernel_rfl) (fun _ _ _ h => h) (Or.inl ⟨by rfl, ?_⟩) (by assumption) ?_
    rotate_left
    · intro w hSw; (try dsimp only at hSw); go_simp; try with_reducible rfl
    try simp only [Act.put, List.getElem_toArray, List.getElem_cons_succ, List.getElem_cons_zero, List.setIfInBounds_toArray, List.set_cons_zero, List.set_cons_succ]
    refine wpAnyH_take (i := 1) (v := ?_) rfl (by kernel_rfl) (by kernel_rfl) (by kernel_rfl) (fun _ _ _ h => h) (Or.inl ⟨by rfl, ?_⟩) (by assumption) ?_
    rotate_left
    · intro w hSw; (try dsimp only at hSw); go_simp; try with_reducible rfl
    try simp only [Act.put, List.getElem_toArray, List.getElem_cons_succ, List.getElem_cons_zero, List.setIfInBounds_toArray, List.set_cons_zero, List.set_cons_succ]
    refine wpAnyH_take (i := 2) (v := ?_) rfl (by kernel_rfl) (by kernel_rfl) (by kernel_rfl) (fun _ _ _ h => h) (Or.inl ⟨by rfl, ?_⟩) (by assumption) ?_
    rotate_left
    · intro w hSw; (try dsimp only at hSw); go_simp; try with_reducible rfl
    try simp only [Act.put, List.getElem_toArray, List.getElem_cons_succ, List.getElem_cons_zero, List.setIfInBounds_toArray, List.set_cons_zero, List.set_cons_succ]
    refine wpAnyH_ready (rs := [3]) (by kernel_rfl) (by simp) (AllReadyH.cons rfl (fun K hK => ?_) AllReadyH.nil)
    rw [if_pos (by rfl)]
    go_simp; go_at_call 23; refine (curBelow_any 9 (by omega) (H4.out.after (Below.refl _ _).drew)).mono ?_; rintro e w5 ⟨r, hr, rfl, h5, g5⟩; have g5' : w4.grownBy w5 (some g) := grown_trans (grown_below (Below.refl _ _).drew) g5; have H5 := Lib.hid h5; have X5 := Lib.hid (X4.out.grown g5' (by omega)); have Y5 := Lib.hid (Y4.out.grown g5' (by omega)); have S5 := Lib.hid (S4.out.grown g5' (by omega)); have O5 := Lib.hid (show MOwn w5 w1.heap.size (.slice xa l.length xc) l from own_thrown O4.out hg g5'); have B5 := Lib.hid (B4.out.grown g5' B4.out.size (fun k e => by cases e; omega)); clear h5 g5 g5' H4 X4 Y4 S4 O4 B4 d0 d1; go_wp2_with fail
    refine hK.out _ _ ?_ (fun hHeld => ?_)
    · exact ⟨Y5.out.c0, Y5.out.c1⟩
    clear hK K
    try simp only [Act.put, List.getElem_toArray, List.getElem_cons_succ, List.getElem_cons_zero, List.setIfInBounds_toArray, List.set_cons_zero, List.set_cons_succ]
    refine wpAnyH_take (i := 4) (v := ?_) rfl (by kernel_rfl) (by kernel_rfl) (by kernel_rfl) (fun _ _ _ h => h) (Or.inl ⟨by rfl, ?_⟩) (by assumption) ?_
    rotate_left
    · intro w hSw; (try dsimp only at hSw); go_simp; try with_reducible rfl
    try simp only [Act.put, List.getElem_toArray, List.getElem_cons_succ, List.getElem_cons_zero, List.setIfInBounds_toArray, List.set_cons_zero, List.set_cons_succ]
    refine wpAnyH_ready (rs := [5]) (by kernel_rfl) (by simp) (AllReadyH.cons rfl (fun K hK => ?_) AllReadyH.nil)
    rw [if_pos (by rfl)]
    go_simp; go_at_call 22; refine (draw4_any _ H5.out).mono ?_; rintro e w6 ⟨x, rfl, hx, h6, g6⟩; have X6 := Lib.hid (X5.out.grown g6 (by omega)); have Y6 := Lib.hid (Y5.out.grown g6 (by omega)); have S6 := Lib.hid (S5.out.grown g6 (by omega)); have O6 := Lib.hid (show MOwn w6 w1.heap.size (.slice xa l.length xc) l from own_thrown O5.out hg g6); have B6 := Lib.hid (B5.out.grown g6 B5.out.size (fun k e => by cases e; omega)); clear h6 g6 H5 X5 Y5 S5 O5 B5; go_wp2_with fail
    refine hK.out _ _ ?_ (fun hHeld => ?_)
    · exact ⟨Y6.out.c0, Y6.out.c1⟩
    clear hK K
    try simp only [Act.put, List.getElem_toArray, List.getElem_cons_succ, List.getElem_cons_zero, List.setIfInBounds_toArray, List.set_cons_zero, List.set_cons_succ]
    have HG6 := Lib.hid (grown_trans (grown_setCell w6 w.heap.size 0 (.int .i64 q)) (grown_setCell _ w.heap.size 1 (.slice xa l.length xc)))
    have e0 := X6.out.c0
    have e1 := X6.out.c1
    have f0 := X6.out.fr 0
    have f1 := X6.out.fr 1
    have X7 := Lib.hid ((X6.out.set0 q).set1 (.slice xa l.length xc))
    have S7 := Lib.hid (S6.out.grown HG6.out (by omega))
    have O7 := Lib.hid (own_offR (own_offR (j := 0) (x := .int .i64 q) O6.out X6.out) (j := 1) (x := .slice xa l.length xc) (X6.out.set0 q))
    have B7 := Lib.hid (B6.out.grown HG6.out B6.out.size (fun k e => by cases e; exact Nat.le_refl _))
    refine wpAnyH_ready (rs := [6]) (by kernel_rfl) (by simp) (AllReadyH.cons rfl (fun K hK => ?_) AllReadyH.nil)
    rw [if_pos (by rfl)]
    go_simp
    refine hK.out _ _ ?_ (fun hHeld => ?_)
    · exact ⟨cell_far HG6.out (by omega) hHeld.1, cell_far HG6.out (by omega) hHeld.2⟩
    clear hK K
    try simp only [Act.put, List.getElem_toArray, List.getElem_cons_succ, List.getElem_cons_zero, List.setIfInBounds_toArray, List.set_cons_zero, List.set_cons_succ]
    clear e0 e1 f0 f1 X6 S6 O6 B6
    generalize (w6.setCell ⟨w.heap.size, 0, none⟩ (.int .i64 q)).setCell ⟨w.heap.size, 1, none⟩ (.slice xa l.length xc) = w7 at X7 S7 O7 B7 hHeld HG6 ⊢
    obtain ⟨y0, y1, y2, y3⟩ := S7.out.cells
    have z0 := S7.out.frozen 0 (by omega)
    have z1 := S7.out.frozen 1 (by omega)
    have z2 := S7.out.frozen 2 (by omega)
    have z3 := S7.out.frozen 3 (by omega)
    have S8 := Lib.hid (S7.out.put x)
    have HP := Lib.hid (mput_grown w7 (w.heap.size + 1) x)
    have X8 := Lib.hid (X7.out.grown HP.out (by omega))
    have O8 := Lib.hid (World.ownsRow.kept O7.out HP.out (.inr (own_ne_below O7.out (by omega))))
    have B8 := Lib.hid (B7.out.grown HP.out B7.out.size (fun k e => by cases e; omega))
    have HPK := Lib.hid (show ∀ b o v, b ≠ w.heap.size + 1 → w7.cell? ⟨b, o, none⟩ = some v → (mput w7 (w.heap.size + 1) x).cell? ⟨b, o, none⟩ = some v from fun b o v hb h => cell_far HP.out hb h)
    unfold mput at S8 HP X8 O8 B8 HPK
    dsimp only at S8 HP X8 O8 B8 HPK y0 y1 y2 y3
    refine wpAnyH_ready (rs := [7]) (by kernel_rfl) (by simp) (AllReadyH.cons rfl (fun K hK => ?_) AllReadyH.nil)
    rw [if_pos (by rfl)]
    go_simp
    refine hK.out _ _ ?_ (fun hHeld => ?_)
    · exact ⟨HPK.out _ _ _ (by omega) hHeld.1, HPK.out _ _ _ (by omega) hHeld.2⟩
    clear hK K
    try simp only [Act.put, List.getElem_toArray, List.getElem_cons_succ, List.getElem_cons_zero, List.setIfInBounds_toArray, List.set_cons_zero, List.set_cons_succ]
    refine wpAnyH_done (by kernel_rfl) ?_ _
    clear hHeld y0 y1 y2 y3 z0 z1 z2 z3 HG6 X7 S7 O7 B7 HPK HP
    go_wp2
    exact bodyPost_ret (results_row_row rfl _ _ _ _ _ _ _ _ _ _ _ _ rfl X8.out Tryd.underlying26 rfl (by kernel_rfl) rfl S8.out Tryd.underlying28 rfl (by kernel_rfl)) rfl ⟨q, _, l, x, rfl, own_mono O8.out (by omega), hs, hx, B8.out⟩
  · go_wp2_with fail
    refine wp_region_held_drew (S := fun wx => wx.cell? ⟨M, 0, none⟩ = some (.int .i64 q) ∧ wx.cell? ⟨M, 1, none⟩ = some (.slice xa l.length xc)) (by kernel_rfl) ?_ (fun hHeld => ?_)
    · exact ⟨d0, d1⟩
    change wpAnyH _ _ _ _ _ 5 #[false, false, false, false, false] _ _
    refine wpAnyH_take (i := 0) (v := ?_) rfl (by kernel_rfl) (by kernel_rfl) (by kernel_rfl) (fun _ _ _ h => h) (Or.inl ⟨by rfl, ?_⟩) (by assumption) ?_
    rotate_left
    · intro w hSw; (try dsimp only at hSw); go_simp; try with_reducible rfl
    try simp only [Act.put, List.getElem_toArray, List.getElem_cons_succ, List.getElem_cons_zero, List.setIfInBounds_toArray, List.set_cons_zero, List.set_cons_succ]
    refine wpAnyH_take (i := 1) (v := ?_) rfl (by kernel_rfl) (by kernel_rfl) (by kernel_rfl) (fun _ _ _ h => h) (Or.inl ⟨by rfl, ?_⟩) (by assumption) ?_
    rotate_left
    · intro w hSw; (try dsimp only at hSw); go_simp; try with_reducible rfl
    try simp only [Act.put, List.getElem_toArray, List.getElem_cons_succ, List.getElem_cons_zero, List.setIfInBounds_toArray, List.set_cons_zero, List.set_cons_succ]
    refine wpAnyH_ready (rs := [2]) (by kernel_rfl) (by simp) (AllReadyH.cons rfl (fun K hK => ?_) AllReadyH.nil)
    rw [if_pos (by rfl)]
    go_simp; go_at_call 21; refine (draw4A_any (H4.out.after (Below.refl _ _).drew)).mono ?_; rintro e w6 ⟨x, rfl, hx, h6, g5⟩; have g6 : w4.grownBy w6 (some g) := grown_trans (grown_below (Below.refl _ _).drew) g5; have X6 := Lib.hid (X4.out.grown g6 (by omega)); have Y6 := Lib.hid (Y4.out.grown g6 (by omega)); have S6 := Lib.hid (S4.out.grown g6 (by omega)); have O6 := Lib.hid (show MOwn w6 w1.heap.size (.slice xa l.length xc) l from own_thrown O4.out hg g6); have B6 := Lib.hid (B4.out.grown g6 B4.out.size (fun k e => by cases e; omega)); clear h6 g5 g6 H4 X4 Y4 S4 O4 B4 d0 d1; go_wp2_with fail
    refine hK.out _ _ ?_ (fun hHeld => ?_)
    · exact ⟨Y6.out.c0, Y6.out.c1⟩
    clear hK K
    try simp only [Act.put, List.getElem_toArray, List.getElem_cons_succ, List.getElem_cons_zero, List.setIfInBounds_toArray, List.set_cons_zero, List.set_cons_succ]
    have HG6 := Lib.hid (grown_trans (grown_setCell w6 w.heap.size 0 (.int .i64 q)) (grown_setCell _ w.heap.size 1 (.slice xa l.length xc)))
    have e0 := X6.out.c0
    have e1 := X6.out.c1
    have f0 := X6.out.fr 0
    have f1 := X6.out.fr 1
    have X7 := Lib.hid ((X6.out.set0 q).set1 (.slice xa l.length xc))
    have S7 := Lib.hid (S6.out.grown HG6.out (by omega))
    have O7 := Lib.hid (own_offR (own_offR (j := 0) (x := .int .i64 q) O6.out X6.out) (j := 1) (x := .slice xa l.length xc) (X6.out.set0 q))
    have B7 := Lib.hid (B6.out.grown HG6.out B6.out.size (fun k e => by cases e; exact Nat.le_refl _))
    refine wpAnyH_ready (rs := [3]) (by kernel_rfl) (by simp) (AllReadyH.cons rfl (fun K hK => ?_) AllReadyH.nil)
    rw [if_pos (by rfl)]
    go_simp
    refine hK.out _ _ ?_ (fun hHeld => ?_)
    · exact ⟨cell_far HG6.out (by omega) hHeld.1, cell_far HG6.out (by omega) hHeld.2⟩
    clear hK K
    try simp only [Act.put, List.getElem_toArray, List.getElem_cons_succ, List.getElem_cons_zero, List.setIfInBounds_toArray, List.set_cons_zero, List.set_cons_succ]
    clear e0 e1 f0 f1 X6 S6 O6 B6
    generalize (w6.setCell ⟨w.heap.size, 0, none⟩ (.int .i64 q)).setCell ⟨w.heap.size, 1, none⟩ (.slice xa l.length xc) = w7 at X7 S7 O7 B7 hHeld HG6 ⊢
    obtain ⟨y0, y1, y2, y3⟩ := S7.out.cells
    have z0 := S7.out.frozen 0 (by omega)
    have z1 := S7.out.frozen 1 (by omega)
    have z2 := S7.out.frozen 2 (by omega)
    have z3 := S7.out.frozen 3 (by omega)
    have S8 := Lib.hid (S7.out.put x)
    have HP := Lib.hid (mput_grown w7 (w.heap.size + 1) x)
    have X8 := Lib.hid (X7.out.grown HP.out (by omega))
    have O8 := Lib.hid (World.ownsRow.kept O7.out HP.out (.inr (own_ne_below O7.out (by omega))))
    have B8 := Lib.hid (B7.out.grown HP.out B7.out.size (fun k e => by cases e; omega))
    have HPK := Lib.hid (show ∀ b o v, b ≠ w.heap.size + 1 → w7.cell? ⟨b, o, none⟩ = some v → (mput w7 (w.heap.size + 1) x).cell? ⟨b, o, none⟩ = some v from fun b o v hb h => cell_far HP.out hb h)
    unfold mput at S8 HP X8 O8 B8 HPK
    dsimp only at S8 HP X8 O8 B8 HPK y0 y1 y2 y3
    refine wpAnyH_ready (rs := [4]) (by kernel_rfl) (by simp) (AllReadyH.cons rfl (fun K hK => ?_) AllReadyH.nil)
    rw [if_pos (by rfl)]
    go_simp
    refine hK.out _ _ ?_ (fun hHeld => ?_)
    · exact ⟨HPK.out _ _ _ (by omega) hHeld.1, HPK.out _ _ _ (by omega) hHeld.2⟩
    clear hK K
    try simp only [Act.put, List.getElem_toArray, List.getElem_cons_succ, List.getElem_cons_zero, List.setIfInBounds_toArray, List.set_cons_zero, List.set_cons_succ]
    refine wpAnyH_done (by kernel_rfl) ?_ _
    clear hHeld y0 y1 y2 y3 z0 z1 z2 z3 HG6 X7 S7 O7 B7 HPK HP
    go_wp2
    exact bodyPost_ret (results_row_row rfl _ _ _ _ _ _ _ _ _ _ _ _ rfl X8.out Tryd.underlying26 rfl (by kernel_rfl) rfl S8.out Tryd.underlying28 rfl (by kernel_rfl)) rfl ⟨q, _, l, x, rfl, own_mono O8.out (by omega), hs, hx, B8.out⟩

end Go.Proofs.YtiholijkijdlmaaDoor
