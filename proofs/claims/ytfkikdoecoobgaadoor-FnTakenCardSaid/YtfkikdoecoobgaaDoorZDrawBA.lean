/- The walk of the reference's draw of whatever box (written by gen_drawba.py). -/
import Derived.Test.YtfkikdoecoobgaaDoorZDrawB
import Derived.Test.YtfkikdoecoobgaaDoorZB4
set_option linter.unusedSimpArgs false
set_option linter.unusedVariables false
namespace Go.Proofs.YtfkikdoecoobgaaDoor
open Go.RowKit

set_option maxRecDepth 100000 in
set_option maxHeartbeats 6400000 in
theorem draw7A_any {g : Nat} {a : Option Addr} {len cap : Nat} {w : World} (h : Curs g a len cap w) :
    Calls Tryd.prog 18 #[.pointer (some ⟨g, 0, none⟩)] w fun e w' => ∃ b u, e = .returned (bagg b u) ∧ MOwn w' w.heap.size u b.q ∧ ShortQ 10 b.q ∧ Curs g a len cap w' ∧ w.grownBy w' (some g) := by
  have hg := h.lt
  have HH := Lib.hid h
  clear h
  go_enter Tryd.func18, Tryd.ntmps18
  go_upto_region 1 with (fail)
  have X0 := BBox.new w 26 zeroBox (.slice none 0 0)
  have G0 := grown_alloc w (.cells (bcells zeroBox (.slice none 0 0)) 26) (some g)
  have C0 := HH.out.alloc (.cells (bcells zeroBox (.slice none 0 0)) 26)
  change Code.wp _ _ _ _ (w.alloc (.cells (bcells zeroBox (.slice none 0 0)) 26))
  generalize w.alloc (.cells (bcells zeroBox (.slice none 0 0)) 26) = w0 at X0 G0 C0 ⊢
  go_wp2_with fail
  refine (draw7_any C0).mono ?_
  rintro e w3 ⟨b, u, rfl, ho, hs, h3, g3⟩
  obtain ⟨ua, uc, hu⟩ := own_slice ho
  subst hu
  have X3 := X0.grown g3 (by omega)
  have O3 := own_mono ho (A := w.heap.size) (Nat.le_of_lt X0.lt)
  have G3 := grown_trans G0 g3
  clear X0 G0 C0 g3 ho HH
  go_upto_region 2 with (fail)
  have hb4 : Below w3.heap.size w3 (w3.alloc (.cells (bcells b (.slice ua b.q.length uc)) 26)) := (Below.refl _ _).alloc (Nat.le_refl _) _
  have D4 : DBox w (w3.alloc (.cells (bcells b (.slice ua b.q.length uc)) 26)) g a len cap w3.heap.size b (.slice ua b.q.length uc) := ⟨BBox.new _ _ _ _, X3.below hb4, row_below O3 hb4, X3.lt, h3.after hb4, hg, grown_own G3 (hb4.mono G3.size)⟩
  generalize w3.alloc (.cells (bcells b (.slice ua b.q.length uc)) 26) = w4 at D4 ⊢
  obtain ⟨M, hM⟩ : ∃ M, w3.heap.size = M := ⟨_, rfl⟩
  rw [hM] at D4 ⊢
  clear hM X3 G3 h3 hb4 O3
  have HS := Lib.hid (hs.mono (k := 10) (by omega))
  have HS9 := Lib.hid hs
  clear hs
  go_wp2_with fail
  refine (curOnce_any 6 (by omega) D4.cur).mono ?_
  rintro e w5 ⟨c, rfl, h5, g5⟩
  have D5 := D4.turn h5 g5
  clear D4 h5 g5
  cases c
  · skip
    go_wp2_with (first
      | refine wpList_load_row rfl 26 (.tmp 3) rfl M rfl 26 (bcells (b) (.slice ua b.q.length uc)) (0, 0) _ D5.box Tryd.underlying26 rfl (by kernel_rfl) ?_
      | refine wpList_store_rowTo rfl 26 (.tmp 2) _ rfl rfl w.heap.size (bcells (b) (.slice ua b.q.length uc)) rfl rfl 26 _ D5.res (by kernel_rfl) rfl (bcells_one _ _ _ _) ?_)
    have HX := D5.end (bcells (b) (.slice ua b.q.length uc))
    exact bodyPost_ret (results_cell_row rfl _ _ _ _ _ _ _ rfl HX.1 Tryd.underlying26 rfl (by kernel_rfl)) rfl ⟨b, _, rfl, HX.2.1, HS.out, HX.2.2.1, HX.2.2.2⟩
  go_wp2_with fail
  refine (curBelow_any 7 (by omega) D5.cur).mono ?_
  rintro e w6 ⟨r, _, rfl, h6, g6⟩
  have D6 := D5.turn h6 g6
  clear D5 h6 g6
  by_cases r0 : r = 0
  · have g0 : ((r : Int) == 0) = true := by simp; omega
    have g0' : (r == 0) = true := by simp; omega
    clear r0
    go_wp2_with fail
    refine (drawNum_any 16 (by omega) D6.cur).mono ?_
    rintro e w7 ⟨p, rfl, h7, g7⟩
    have D7 := D6.turn h7 g7
    clear D6 h7 g7
    have f0 : w7.frozen? ⟨M, 0, none⟩ = false := D7.box.fr 0
    have y0 := cell_of_heap D7.box 0
    go_upto_region 20 with (fail)
    have D8 := D7.set 0 (.int .i64 p) (b' := { b with cap := p }) rfl rfl
    generalize w7.setCell ⟨M, 0, none⟩ (.int .i64 p) = w8 at D8 ⊢
    clear D7 f0 y0
    go_wp2_with (first
      | refine wpList_load_row rfl 26 (.tmp 3) rfl M rfl 26 (bcells ({ b with cap := p }) (.slice ua b.q.length uc)) (0, 0) _ D8.box Tryd.underlying26 rfl (by kernel_rfl) ?_
      | refine wpList_store_rowTo rfl 26 (.tmp 2) _ rfl rfl w.heap.size (bcells ({ b with cap := p }) (.slice ua b.q.length uc)) rfl rfl 26 _ D8.res (by kernel_rfl) rfl (bcells_one _ _ _ _) ?_)
    have HX := D8.end (bcells ({ b with cap := p }) (.slice ua b.q.length uc))
    exact bodyPost_ret (results_cell_row rfl _ _ _ _ _ _ _ rfl HX.1 Tryd.underlying26 rfl (by kernel_rfl)) rfl ⟨{ b with cap := p }, _, rfl, HX.2.1, HS.out, HX.2.2.1, HX.2.2.2⟩
  have g0 : ((r : Int) == 0) = false := by simp; omega
  have g0' : (r == 0) = false := by simp; omega
  by_cases r1 : r = 1
  · have g1 : ((r : Int) == 1) = true := by simp; omega
    have g1' : (r == 1) = true := by simp; omega
    clear r1
    go_wp2_with fail
    refine (curFrom05_any D6.cur).mono ?_
    rintro e w7 ⟨p, rfl, h7, g7⟩
    have D7 := D6.turn h7 g7
    clear D6 h7 g7
    have f1 : w7.frozen? ⟨M, 1, none⟩ = false := D7.box.fr 1
    have y1 := cell_of_heap D7.box 1
    go_upto_region 20 with (fail)
    have D8 := D7.set 1 (.int .i64 p) (b' := { b with pol := p }) rfl rfl
    generalize w7.setCell ⟨M, 1, none⟩ (.int .i64 p) = w8 at D8 ⊢
    clear D7 f1 y1
    go_wp2_with (first
      | refine wpList_load_row rfl 26 (.tmp 3) rfl M rfl 26 (bcells ({ b with pol := p }) (.slice ua b.q.length uc)) (0, 0) _ D8.box Tryd.underlying26 rfl (by kernel_rfl) ?_
      | refine wpList_store_rowTo rfl 26 (.tmp 2) _ rfl rfl w.heap.size (bcells ({ b with pol := p }) (.slice ua b.q.length uc)) rfl rfl 26 _ D8.res (by kernel_rfl) rfl (bcells_one _ _ _ _) ?_)
    have HX := D8.end (bcells ({ b with pol := p }) (.slice ua b.q.length uc))
    exact bodyPost_ret (results_cell_row rfl _ _ _ _ _ _ _ rfl HX.1 Tryd.underlying26 rfl (by kernel_rfl)) rfl ⟨{ b with pol := p }, _, rfl, HX.2.1, HS.out, HX.2.2.1, HX.2.2.2⟩
  have g1 : ((r : Int) == 1) = false := by simp; omega
  have g1' : (r == 1) = false := by simp; omega
  by_cases r2 : r = 2
  · have g2 : ((r : Int) == 2) = true := by simp; omega
    have g2' : (r == 2) = true := by simp; omega
    clear r2
    go_upto_region 9 with (fail)
    obtain ⟨ii, hi, hz0, hz1, hz2⟩ := msg_info
    have hln := HS9.out.1
    have D6d := D6.below (Below.refl _ _).drew
    clear D6
    refine wp_region_held_drew (S := fun _ => True) (by kernel_rfl) ?_ (fun hHeld => ?_)
    · trivial
    change wpAnyH _ _ _ _ _ 8 #[false, false, false, false, false, false, false, false] _ _
    generalize w6.drew = wd at D6d hHeld ⊢
    refine wpAnyH_take (i := 0) (v := ?_) rfl (by kernel_rfl) (by kernel_rfl) (by kernel_rfl) (fun _ _ _ h => h) (Or.inl ⟨by rfl, ?_⟩) (by assumption) ?_
    rotate_left
    · intro w hSw; (try dsimp only at hSw); go_simp; try with_reducible rfl
    try simp only [Act.put, List.getElem_toArray, List.getElem_cons_succ, List.getElem_cons_zero, List.setIfInBounds_toArray, List.set_cons_zero, List.set_cons_succ]
    refine wpAnyH_take (i := 2) (v := ?_) rfl (by kernel_rfl) (by kernel_rfl) (by kernel_rfl) (fun _ _ _ h => h) (Or.inl ⟨by rfl, ?_⟩) (by assumption) ?_
    rotate_left
    · intro w hSw; (try dsimp only at hSw); go_simp; try with_reducible rfl
    try simp only [Act.put, List.getElem_toArray, List.getElem_cons_succ, List.getElem_cons_zero, List.setIfInBounds_toArray, List.set_cons_zero, List.set_cons_succ]
    refine wpAnyH_ready (rs := [1, 3]) (by kernel_rfl) (by simp) (AllReadyH.cons rfl (fun K hK => ?_) (AllReadyH.cons rfl (fun K hK => ?_) AllReadyH.nil))
    · have x2 := cell_of_heap D6d.box 2
      rw [if_pos (by rfl)]
      go_simp
      refine hK.out _ _ ?_ (fun hHeld => ?_)
      · trivial
      clear hK K
      try simp only [Act.put, List.getElem_toArray, List.getElem_cons_succ, List.getElem_cons_zero, List.setIfInBounds_toArray, List.set_cons_zero, List.set_cons_succ]
      clear x2
      refine wpAnyH_ready (rs := [3]) (by kernel_rfl) (by simp) (AllReadyH.cons rfl (fun K hK => ?_) AllReadyH.nil)
      rw [if_pos (by rfl)]
      go_simp; go_at_call 34; refine (draw4A_any D6d.cur).mono ?_; rintro e w7 ⟨m, rfl, hm, h7, g7⟩; have D7 := D6d.turn h7 g7; clear D6d h7 g7; go_wp2_with fail
      refine hK.out _ _ ?_ (fun hHeld => ?_)
      · trivial
      clear hK K
      try simp only [Act.put, List.getElem_toArray, List.getElem_cons_succ, List.getElem_cons_zero, List.setIfInBounds_toArray, List.set_cons_zero, List.set_cons_succ]
      have LN := Lib.hid (Lone.new w7 m)
      have D8 := D7.below ((Below.refl _ _).alloc (Nat.le_refl _) (.cells #[.int .i64 m.1, .int .i64 m.2.1, .string m.2.2.1, .int .i64 m.2.2.2] 29))
      refine wpAnyH_ready (rs := [4]) (by kernel_rfl) (by simp) (AllReadyH.cons rfl (fun K hK => ?_) AllReadyH.nil)
      rw [if_pos (by rfl)]
      go_simp
      refine hK.out _ _ ?_ (fun hHeld => ?_)
      · trivial
      clear hK K
      try simp only [Act.put, List.getElem_toArray, List.getElem_cons_succ, List.getElem_cons_zero, List.setIfInBounds_toArray, List.set_cons_zero, List.set_cons_succ]
      obtain ⟨f, hf⟩ : ∃ f, w7.heap.size = f := ⟨_, rfl⟩
      rw [hf] at LN ⊢
      generalize w7.alloc (.cells #[.int .i64 m.1, .int .i64 m.2.1, .string m.2.2.1, .int .i64 m.2.2.2] 29) = w8 at LN D8 hHeld ⊢
      clear hf D7
      refine wpAnyH_ready (rs := [5]) (by kernel_rfl) (by simp) (AllReadyH.cons rfl (fun K hK => ?_) AllReadyH.nil)
      rw [if_pos (by rfl)]
      refine wp_append_src (.tmp 24) (.tmp 27) 24 rfl w.heap.size 29 ii (.agg #[.int .i64 0, .int .i64 0, .string ⟨#[]⟩, .int .i64 0]) 4 40 Tryd.underlying24 hi hz0 hz1 hz2 rfl (by decide) (.slice ua b.q.length uc) (.slice (some ⟨f, 0, none⟩) 1 1) b.q.length 1 (mcells b.q) (mcells [m]) (by simp [Act.eval]) D8.row (by simp [Act.eval]) LN.out.src rfl (mcells_one _) (by unfold maxLen; omega) (by omega) D8.since.size ?_; intro v9 w9 hr9 hg9 _; obtain ⟨xa, xc, hv9⟩ := own_slice hr9; subst hv9; have O9 : MOwn w9 w.heap.size (.slice xa (b.q.length + 1) xc) (b.q ++ [m]) := (by unfold MOwn; rw [List.length_append, mcells_app]; exact hr9); have D9 := dbox_app D8 hg9; have S9 := Lib.hid (HS9.out.app hm); clear hr9 hg9 D8 LN
      refine hK.out _ _ ?_ (fun hHeld => ?_)
      · trivial
      clear hK K
      try simp only [Act.put, List.getElem_toArray, List.getElem_cons_succ, List.getElem_cons_zero, List.setIfInBounds_toArray, List.set_cons_zero, List.set_cons_succ]
      refine wpAnyH_take (i := 6) (v := ?_) rfl (by kernel_rfl) (by kernel_rfl) (by kernel_rfl) (fun _ _ _ h => h) (Or.inl ⟨by rfl, ?_⟩) (by assumption) ?_
      rotate_left
      · intro w hSw; (try dsimp only at hSw); go_simp; try with_reducible rfl
      try simp only [Act.put, List.getElem_toArray, List.getElem_cons_succ, List.getElem_cons_zero, List.setIfInBounds_toArray, List.set_cons_zero, List.set_cons_succ]
      have f2 : w9.frozen? ⟨M, 2, none⟩ = false := D9.box.fr 2
      have y2 := cell_of_heap D9.box 2
      have D10 := dbox_setQ D9 O9
      refine wpAnyH_ready (rs := [7]) (by kernel_rfl) (by simp) (AllReadyH.cons rfl (fun K hK => ?_) AllReadyH.nil)
      rw [if_pos (by rfl)]
      go_simp
      refine hK.out _ _ ?_ (fun hHeld => ?_)
      · trivial
      clear hK K
      try simp only [Act.put, List.getElem_toArray, List.getElem_cons_succ, List.getElem_cons_zero, List.setIfInBounds_toArray, List.set_cons_zero, List.set_cons_succ]
      refine wpAnyH_done (by kernel_rfl) ?_ _
      generalize w9.setCell ⟨M, 2, none⟩ (.slice xa (b.q.length + 1) xc) = w10 at D10 ⊢
      clear D9 O9 f2 y2 hHeld
      go_wp2_with (first
        | refine wpList_load_row rfl 26 (.tmp 3) rfl M rfl 26 (bcells ({ b with q := b.q ++ [m] }) (.slice xa (b.q.length + 1) xc)) (0, 0) _ D10.box Tryd.underlying26 rfl (by kernel_rfl) ?_
        | refine wpList_store_rowTo rfl 26 (.tmp 2) _ rfl rfl w.heap.size (bcells ({ b with q := b.q ++ [m] }) (.slice xa (b.q.length + 1) xc)) rfl rfl 26 _ D10.res (by kernel_rfl) rfl (bcells_one _ _ _ _) ?_)
      have HX := D10.end (bcells ({ b with q := b.q ++ [m] }) (.slice xa (b.q.length + 1) xc))
      exact bodyPost_ret (results_cell_row rfl _ _ _ _ _ _ _ rfl HX.1 Tryd.underlying26 rfl (by kernel_rfl)) rfl ⟨{ b with q := b.q ++ [m] }, _, rfl, HX.2.1, S9.out, HX.2.2.1, HX.2.2.2⟩
    · skip
      rw [if_pos (by rfl)]
      go_simp; go_at_call 34; refine (draw4A_any D6d.cur).mono ?_; rintro e w7 ⟨m, rfl, hm, h7, g7⟩; have D7 := D6d.turn h7 g7; clear D6d h7 g7; go_wp2_with fail
      refine hK.out _ _ ?_ (fun hHeld => ?_)
      · trivial
      clear hK K
      try simp only [Act.put, List.getElem_toArray, List.getElem_cons_succ, List.getElem_cons_zero, List.setIfInBounds_toArray, List.set_cons_zero, List.set_cons_succ]
      refine wpAnyH_ready (rs := [1, 4]) (by kernel_rfl) (by simp) (AllReadyH.cons rfl (fun K hK => ?_) (AllReadyH.cons rfl (fun K hK => ?_) AllReadyH.nil))
      · have x2 := cell_of_heap D7.box 2
        rw [if_pos (by rfl)]
        go_simp
        refine hK.out _ _ ?_ (fun hHeld => ?_)
        · trivial
        clear hK K
        try simp only [Act.put, List.getElem_toArray, List.getElem_cons_succ, List.getElem_cons_zero, List.setIfInBounds_toArray, List.set_cons_zero, List.set_cons_succ]
        clear x2
        have LN := Lib.hid (Lone.new w7 m)
        have D8 := D7.below ((Below.refl _ _).alloc (Nat.le_refl _) (.cells #[.int .i64 m.1, .int .i64 m.2.1, .string m.2.2.1, .int .i64 m.2.2.2] 29))
        refine wpAnyH_ready (rs := [4]) (by kernel_rfl) (by simp) (AllReadyH.cons rfl (fun K hK => ?_) AllReadyH.nil)
        rw [if_pos (by rfl)]
        go_simp
        refine hK.out _ _ ?_ (fun hHeld => ?_)
        · trivial
        clear hK K
        try simp only [Act.put, List.getElem_toArray, List.getElem_cons_succ, List.getElem_cons_zero, List.setIfInBounds_toArray, List.set_cons_zero, List.set_cons_succ]
        obtain ⟨f, hf⟩ : ∃ f, w7.heap.size = f := ⟨_, rfl⟩
        rw [hf] at LN ⊢
        generalize w7.alloc (.cells #[.int .i64 m.1, .int .i64 m.2.1, .string m.2.2.1, .int .i64 m.2.2.2] 29) = w8 at LN D8 hHeld ⊢
        clear hf D7
        refine wpAnyH_ready (rs := [5]) (by kernel_rfl) (by simp) (AllReadyH.cons rfl (fun K hK => ?_) AllReadyH.nil)
        rw [if_pos (by rfl)]
        refine wp_append_src (.tmp 24) (.tmp 27) 24 rfl w.heap.size 29 ii (.agg #[.int .i64 0, .int .i64 0, .string ⟨#[]⟩, .int .i64 0]) 4 40 Tryd.underlying24 hi hz0 hz1 hz2 rfl (by decide) (.slice ua b.q.length uc) (.slice (some ⟨f, 0, none⟩) 1 1) b.q.length 1 (mcells b.q) (mcells [m]) (by simp [Act.eval]) D8.row (by simp [Act.eval]) LN.out.src rfl (mcells_one _) (by unfold maxLen; omega) (by omega) D8.since.size ?_; intro v9 w9 hr9 hg9 _; obtain ⟨xa, xc, hv9⟩ := own_slice hr9; subst hv9; have O9 : MOwn w9 w.heap.size (.slice xa (b.q.length + 1) xc) (b.q ++ [m]) := (by unfold MOwn; rw [List.length_append, mcells_app]; exact hr9); have D9 := dbox_app D8 hg9; have S9 := Lib.hid (HS9.out.app hm); clear hr9 hg9 D8 LN
        refine hK.out _ _ ?_ (fun hHeld => ?_)
        · trivial
        clear hK K
        try simp only [Act.put, List.getElem_toArray, List.getElem_cons_succ, List.getElem_cons_zero, List.setIfInBounds_toArray, List.set_cons_zero, List.set_cons_succ]
        refine wpAnyH_take (i := 6) (v := ?_) rfl (by kernel_rfl) (by kernel_rfl) (by kernel_rfl) (fun _ _ _ h => h) (Or.inl ⟨by rfl, ?_⟩) (by assumption) ?_
        rotate_left
        · intro w hSw; (try dsimp only at hSw); go_simp; try with_reducible rfl
        try simp only [Act.put, List.getElem_toArray, List.getElem_cons_succ, List.getElem_cons_zero, List.setIfInBounds_toArray, List.set_cons_zero, List.set_cons_succ]
        have f2 : w9.frozen? ⟨M, 2, none⟩ = false := D9.box.fr 2
        have y2 := cell_of_heap D9.box 2
        have D10 := dbox_setQ D9 O9
        refine wpAnyH_ready (rs := [7]) (by kernel_rfl) (by simp) (AllReadyH.cons rfl (fun K hK => ?_) AllReadyH.nil)
        rw [if_pos (by rfl)]
        go_simp
        refine hK.out _ _ ?_ (fun hHeld => ?_)
        · trivial
        clear hK K
        try simp only [Act.put, List.getElem_toArray, List.getElem_cons_succ, List.getElem_cons_zero, List.setIfInBounds_toArray, List.set_cons_zero, List.set_cons_succ]
        refine wpAnyH_done (by kernel_rfl) ?_ _
        generalize w9.setCell ⟨M, 2, none⟩ (.slice xa (b.q.length + 1) xc) = w10 at D10 ⊢
        clear D9 O9 f2 y2 hHeld
        go_wp2_with (first
          | refine wpList_load_row rfl 26 (.tmp 3) rfl M rfl 26 (bcells ({ b with q := b.q ++ [m] }) (.slice xa (b.q.length + 1) xc)) (0, 0) _ D10.box Tryd.underlying26 rfl (by kernel_rfl) ?_
          | refine wpList_store_rowTo rfl 26 (.tmp 2) _ rfl rfl w.heap.size (bcells ({ b with q := b.q ++ [m] }) (.slice xa (b.q.length + 1) xc)) rfl rfl 26 _ D10.res (by kernel_rfl) rfl (bcells_one _ _ _ _) ?_)
        have HX := D10.end (bcells ({ b with q := b.q ++ [m] }) (.slice xa (b.q.length + 1) xc))
        exact bodyPost_ret (results_cell_row rfl _ _ _ _ _ _ _ rfl HX.1 Tryd.underlying26 rfl (by kernel_rfl)) rfl ⟨{ b with q := b.q ++ [m] }, _, rfl, HX.2.1, S9.out, HX.2.2.1, HX.2.2.2⟩
      · skip
        have LN := Lib.hid (Lone.new w7 m)
        have D8 := D7.below ((Below.refl _ _).alloc (Nat.le_refl _) (.cells #[.int .i64 m.1, .int .i64 m.2.1, .string m.2.2.1, .int .i64 m.2.2.2] 29))
        rw [if_pos (by rfl)]
        go_simp
        refine hK.out _ _ ?_ (fun hHeld => ?_)
        · trivial
        clear hK K
        try simp only [Act.put, List.getElem_toArray, List.getElem_cons_succ, List.getElem_cons_zero, List.setIfInBounds_toArray, List.set_cons_zero, List.set_cons_succ]
        obtain ⟨f, hf⟩ : ∃ f, w7.heap.size = f := ⟨_, rfl⟩
        rw [hf] at LN ⊢
        generalize w7.alloc (.cells #[.int .i64 m.1, .int .i64 m.2.1, .string m.2.2.1, .int .i64 m.2.2.2] 29) = w8 at LN D8 hHeld ⊢
        clear hf D7
        have x2 := cell_of_heap D8.box 2
        refine wpAnyH_ready (rs := [1]) (by kernel_rfl) (by simp) (AllReadyH.cons rfl (fun K hK => ?_) AllReadyH.nil)
        rw [if_pos (by rfl)]
        go_simp
        refine hK.out _ _ ?_ (fun hHeld => ?_)
        · trivial
        clear hK K
        try simp only [Act.put, List.getElem_toArray, List.getElem_cons_succ, List.getElem_cons_zero, List.setIfInBounds_toArray, List.set_cons_zero, List.set_cons_succ]
        clear x2
        refine wpAnyH_ready (rs := [5]) (by kernel_rfl) (by simp) (AllReadyH.cons rfl (fun K hK => ?_) AllReadyH.nil)
        rw [if_pos (by rfl)]
        refine wp_append_src (.tmp 24) (.tmp 27) 24 rfl w.heap.size 29 ii (.agg #[.int .i64 0, .int .i64 0, .string ⟨#[]⟩, .int .i64 0]) 4 40 Tryd.underlying24 hi hz0 hz1 hz2 rfl (by decide) (.slice ua b.q.length uc) (.slice (some ⟨f, 0, none⟩) 1 1) b.q.length 1 (mcells b.q) (mcells [m]) (by simp [Act.eval]) D8.row (by simp [Act.eval]) LN.out.src rfl (mcells_one _) (by unfold maxLen; omega) (by omega) D8.since.size ?_; intro v9 w9 hr9 hg9 _; obtain ⟨xa, xc, hv9⟩ := own_slice hr9; subst hv9; have O9 : MOwn w9 w.heap.size (.slice xa (b.q.length + 1) xc) (b.q ++ [m]) := (by unfold MOwn; rw [List.length_append, mcells_app]; exact hr9); have D9 := dbox_app D8 hg9; have S9 := Lib.hid (HS9.out.app hm); clear hr9 hg9 D8 LN
        refine hK.out _ _ ?_ (fun hHeld => ?_)
        · trivial
        clear hK K
        try simp only [Act.put, List.getElem_toArray, List.getElem_cons_succ, List.getElem_cons_zero, List.setIfInBounds_toArray, List.set_cons_zero, List.set_cons_succ]
        refine wpAnyH_take (i := 6) (v := ?_) rfl (by kernel_rfl) (by kernel_rfl) (by kernel_rfl) (fun _ _ _ h => h) (Or.inl ⟨by rfl, ?_⟩) (by assumption) ?_
        rotate_left
        · intro w hSw; (try dsimp only at hSw); go_simp; try with_reducible rfl
        try simp only [Act.put, List.getElem_toArray, List.getElem_cons_succ, List.getElem_cons_zero, List.setIfInBounds_toArray, List.set_cons_zero, List.set_cons_succ]
        have f2 : w9.frozen? ⟨M, 2, none⟩ = false := D9.box.fr 2
        have y2 := cell_of_heap D9.box 2
        have D10 := dbox_setQ D9 O9
        refine wpAnyH_ready (rs := [7]) (by kernel_rfl) (by simp) (AllReadyH.cons rfl (fun K hK => ?_) AllReadyH.nil)
        rw [if_pos (by rfl)]
        go_simp
        refine hK.out _ _ ?_ (fun hHeld => ?_)
        · trivial
        clear hK K
        try simp only [Act.put, List.getElem_toArray, List.getElem_cons_succ, List.getElem_cons_zero, List.setIfInBounds_toArray, List.set_cons_zero, List.set_cons_succ]
        refine wpAnyH_done (by kernel_rfl) ?_ _
        generalize w9.setCell ⟨M, 2, none⟩ (.slice xa (b.q.length + 1) xc) = w10 at D10 ⊢
        clear D9 O9 f2 y2 hHeld
        go_wp2_with (first
          | refine wpList_load_row rfl 26 (.tmp 3) rfl M rfl 26 (bcells ({ b with q := b.q ++ [m] }) (.slice xa (b.q.length + 1) xc)) (0, 0) _ D10.box Tryd.underlying26 rfl (by kernel_rfl) ?_
          | refine wpList_store_rowTo rfl 26 (.tmp 2) _ rfl rfl w.heap.size (bcells ({ b with q := b.q ++ [m] }) (.slice xa (b.q.length + 1) xc)) rfl rfl 26 _ D10.res (by kernel_rfl) rfl (bcells_one _ _ _ _) ?_)
        have HX := D10.end (bcells ({ b with q := b.q ++ [m] }) (.slice xa (b.q.length + 1) xc))
        exact bodyPost_ret (results_cell_row rfl _ _ _ _ _ _ _ rfl HX.1 Tryd.underlying26 rfl (by kernel_rfl)) rfl ⟨{ b with q := b.q ++ [m] }, _, rfl, HX.2.1, S9.out, HX.2.2.1, HX.2.2.2⟩
  have g2 : ((r : Int) == 2) = false := by simp; omega
  have g2' : (r == 2) = false := by simp; omega
  by_cases r3 : r = 3
  · have g3 : ((r : Int) == 3) = true := by simp; omega
    have g3' : (r == 3) = true := by simp; omega
    clear r3
    go_wp2_with fail
    refine (drawNum_any 100000 (by omega) D6.cur).mono ?_
    rintro e w7 ⟨p, rfl, h7, g7⟩
    have D7 := D6.turn h7 g7
    clear D6 h7 g7
    have f3 : w7.frozen? ⟨M, 3, none⟩ = false := D7.box.fr 3
    have y3 := cell_of_heap D7.box 3
    go_upto_region 20 with (fail)
    have D8 := D7.set 3 (.int .i64 p) (b' := { b with ofr := p }) rfl rfl
    generalize w7.setCell ⟨M, 3, none⟩ (.int .i64 p) = w8 at D8 ⊢
    clear D7 f3 y3
    go_wp2_with (first
      | refine wpList_load_row rfl 26 (.tmp 3) rfl M rfl 26 (bcells ({ b with ofr := p }) (.slice ua b.q.length uc)) (0, 0) _ D8.box Tryd.underlying26 rfl (by kernel_rfl) ?_
      | refine wpList_store_rowTo rfl 26 (.tmp 2) _ rfl rfl w.heap.size (bcells ({ b with ofr := p }) (.slice ua b.q.length uc)) rfl rfl 26 _ D8.res (by kernel_rfl) rfl (bcells_one _ _ _ _) ?_)
    have HX := D8.end (bcells ({ b with ofr := p }) (.slice ua b.q.length uc))
    exact bodyPost_ret (results_cell_row rfl _ _ _ _ _ _ _ rfl HX.1 Tryd.underlying26 rfl (by kernel_rfl)) rfl ⟨{ b with ofr := p }, _, rfl, HX.2.1, HS.out, HX.2.2.1, HX.2.2.2⟩
  have g3 : ((r : Int) == 3) = false := by simp; omega
  have g3' : (r == 3) = false := by simp; omega
  by_cases r4 : r = 4
  · have g4 : ((r : Int) == 4) = true := by simp; omega
    have g4' : (r == 4) = true := by simp; omega
    clear r4
    go_upto_region 13 with (fail)
    have y3 : w6.cell? ⟨M, 3, none⟩ = some (.int .i64 b.ofr) := cell_of_heap D6.box 3
    have D6d := D6.below (Below.refl _ _).drew
    clear D6
    obtain ⟨z, hz⟩ : ∃ z, IntKind.i64.wrap (100000 - b.ofr) = z := ⟨_, rfl⟩
    refine wp_region_held_drew (S := fun wx => wx.cell? ⟨M, 3, none⟩ = some (.int .i64 b.ofr)) (by kernel_rfl) ?_ (fun hHeld => ?_)
    · exact y3
    change wpAnyH _ _ _ _ _ 7 #[false, false, false, false, false, false, false] _ _
    clear y3
    generalize w6.drew = wd at D6d hHeld ⊢
    refine wpAnyH_take (i := 0) (v := ?_) rfl (by kernel_rfl) (by kernel_rfl) (by kernel_rfl) (fun _ _ _ h => h) (Or.inl ⟨by rfl, ?_⟩) (by assumption) ?_
    rotate_left
    · intro w hSw; (try dsimp only at hSw); go_simp; try with_reducible rfl
    try simp only [Act.put, List.getElem_toArray, List.getElem_cons_succ, List.getElem_cons_zero, List.setIfInBounds_toArray, List.set_cons_zero, List.set_cons_succ]
    refine wpAnyH_take (i := 1) (v := ?_) rfl (by kernel_rfl) (by kernel_rfl) (by kernel_rfl) (fun _ _ _ h => h) (Or.inl ⟨by rfl, ?_⟩) (by assumption) ?_
    rotate_left
    · intro w hSw; (try dsimp only at hSw); go_simp; try with_reducible rfl
    try simp only [Act.put, List.getElem_toArray, List.getElem_cons_succ, List.getElem_cons_zero, List.setIfInBounds_toArray, List.set_cons_zero, List.set_cons_succ]
    refine wpAnyH_take (i := 2) (v := ?_) rfl (by kernel_rfl) (by kernel_rfl) (by kernel_rfl) (fun _ _ _ h => h) (Or.inl ⟨by rfl, ?_⟩) (by assumption) ?_
    rotate_left
    · intro w hSw; (try dsimp only at hSw); go_simp; try with_reducible rfl
    try simp only [Act.put, List.getElem_toArray, List.getElem_cons_succ, List.getElem_cons_zero, List.setIfInBounds_toArray, List.set_cons_zero, List.set_cons_succ]
    refine wpAnyH_take (i := 3) (v := ?_) rfl (by kernel_rfl) (by kernel_rfl) (by kernel_rfl) (fun _ _ _ h => h) (Or.inl ⟨by rfl, ?_⟩) (by assumption) ?_
    rotate_left
    · intro w hSw; (try dsimp only at hSw); go_simp; try with_reducible rfl
    try simp only [Act.put, List.getElem_toArray, List.getElem_cons_succ, List.getElem_cons_zero, List.setIfInBounds_toArray, List.set_cons_zero, List.set_cons_succ]
    refine wpAnyH_ready (rs := [4]) (by kernel_rfl) (by simp) (AllReadyH.cons rfl (fun K hK => ?_) AllReadyH.nil)
    rw [if_pos (by rfl)]
    go_simp; go_at_call 33; refine (curFrom10_any D6d.cur).mono ?_; rintro e w7 ⟨p, rfl, h7, g7⟩; have D7 := D6d.turn h7 g7; clear D6d h7 g7; go_wp2_with fail
    refine hK.out _ _ ?_ (fun hHeld => ?_)
    · exact cell_of_heap D7.box 3
    clear hK K
    try simp only [Act.put, List.getElem_toArray, List.getElem_cons_succ, List.getElem_cons_zero, List.setIfInBounds_toArray, List.set_cons_zero, List.set_cons_succ]
    obtain ⟨y, hy⟩ : ∃ y, IntKind.i64.wrap (z + p) = y := ⟨_, rfl⟩
    refine wpAnyH_take (i := 5) (v := ?_) rfl (by kernel_rfl) (by kernel_rfl) (by kernel_rfl) (fun _ _ _ h => h) (Or.inl ⟨by rfl, ?_⟩) (by assumption) ?_
    rotate_left
    · intro w hSw; (try dsimp only at hSw); go_simp; try with_reducible rfl
    try simp only [Act.put, List.getElem_toArray, List.getElem_cons_succ, List.getElem_cons_zero, List.setIfInBounds_toArray, List.set_cons_zero, List.set_cons_succ]
    refine wpAnyH_take (i := 6) (v := ?_) rfl (by kernel_rfl) (by kernel_rfl) (by kernel_rfl) (fun _ _ _ h => h) (Or.inl ⟨by rfl, ?_⟩) (by assumption) ?_
    rotate_left
    · intro w hSw; (try dsimp only at hSw); go_simp; try with_reducible rfl
    try simp only [Act.put, List.getElem_toArray, List.getElem_cons_succ, List.getElem_cons_zero, List.setIfInBounds_toArray, List.set_cons_zero, List.set_cons_succ]
    refine wpAnyH_done (by kernel_rfl) ?_ _
    clear hHeld hz hy
    obtain ⟨o, ho⟩ : ∃ o, IntKind.i64.wrap (b.ofr + y) = o := ⟨_, rfl⟩
    obtain ⟨rr, hrr⟩ : ∃ rr, IntKind.i64.wrap (b.rcv + y) = rr := ⟨_, rfl⟩
    have f3 : w7.frozen? ⟨M, 3, none⟩ = false := D7.box.fr 3
    have y3 := cell_of_heap D7.box 3
    go_upto_region 15 with (fail)
    have D8 := D7.set 3 (.int .i64 o) (b' := { b with ofr := o }) rfl rfl
    generalize w7.setCell ⟨M, 3, none⟩ (.int .i64 o) = w8 at D8 ⊢
    clear D7 f3 y3
    have f4 : w8.frozen? ⟨M, 4, none⟩ = false := D8.box.fr 4
    have y4 := cell_of_heap D8.box 4
    go_upto_region 20 with (fail)
    have D9 := D8.set 4 (.int .i64 rr) (b' := { b with ofr := o, rcv := rr }) rfl rfl
    generalize w8.setCell ⟨M, 4, none⟩ (.int .i64 rr) = w9 at D9 ⊢
    clear D8 f4 y4
    go_wp2_with (first
      | refine wpList_load_row rfl 26 (.tmp 3) rfl M rfl 26 (bcells ({ b with ofr := o, rcv := rr }) (.slice ua b.q.length uc)) (0, 0) _ D9.box Tryd.underlying26 rfl (by kernel_rfl) ?_
      | refine wpList_store_rowTo rfl 26 (.tmp 2) _ rfl rfl w.heap.size (bcells ({ b with ofr := o, rcv := rr }) (.slice ua b.q.length uc)) rfl rfl 26 _ D9.res (by kernel_rfl) rfl (bcells_one _ _ _ _) ?_)
    have HX := D9.end (bcells ({ b with ofr := o, rcv := rr }) (.slice ua b.q.length uc))
    exact bodyPost_ret (results_cell_row rfl _ _ _ _ _ _ _ rfl HX.1 Tryd.underlying26 rfl (by kernel_rfl)) rfl ⟨{ b with ofr := o, rcv := rr }, _, rfl, HX.2.1, HS.out, HX.2.2.1, HX.2.2.2⟩
  have g4 : ((r : Int) == 4) = false := by simp; omega
  have g4' : (r == 4) = false := by simp; omega
  by_cases r5 : r = 5
  · have g5 : ((r : Int) == 5) = true := by simp; omega
    have g5' : (r == 5) = true := by simp; omega
    clear r5
    obtain ⟨o, ho⟩ : ∃ o, IntKind.i64.wrap (b.mrg + 1) = o := ⟨_, rfl⟩
    have f6 : w6.frozen? ⟨M, 6, none⟩ = false := D6.box.fr 6
    have y6 := cell_of_heap D6.box 6
    go_upto_region 20 with (fail)
    have D8 := D6.set 6 (.int .i64 o) (b' := { b with mrg := o }) rfl rfl
    generalize w6.setCell ⟨M, 6, none⟩ (.int .i64 o) = w8 at D8 ⊢
    clear D6 f6 y6
    go_wp2_with (first
      | refine wpList_load_row rfl 26 (.tmp 3) rfl M rfl 26 (bcells ({ b with mrg := o }) (.slice ua b.q.length uc)) (0, 0) _ D8.box Tryd.underlying26 rfl (by kernel_rfl) ?_
      | refine wpList_store_rowTo rfl 26 (.tmp 2) _ rfl rfl w.heap.size (bcells ({ b with mrg := o }) (.slice ua b.q.length uc)) rfl rfl 26 _ D8.res (by kernel_rfl) rfl (bcells_one _ _ _ _) ?_)
    have HX := D8.end (bcells ({ b with mrg := o }) (.slice ua b.q.length uc))
    exact bodyPost_ret (results_cell_row rfl _ _ _ _ _ _ _ rfl HX.1 Tryd.underlying26 rfl (by kernel_rfl)) rfl ⟨{ b with mrg := o }, _, rfl, HX.2.1, HS.out, HX.2.2.1, HX.2.2.2⟩
  have g5 : ((r : Int) == 5) = false := by simp; omega
  have g5' : (r == 5) = false := by simp; omega
  by_cases r6 : r = 6
  · have g6 : ((r : Int) == 6) = true := by simp; omega
    have g6' : (r == 6) = true := by simp; omega
    clear r6
    have f5 : w6.frozen? ⟨M, 5, none⟩ = false := D6.box.fr 5
    have y5 := cell_of_heap D6.box 5
    go_upto_region 20 with (fail)
    have D8 := D6.set 5 (.int .i64 (-1)) (b' := { b with drp := -1 }) rfl rfl
    generalize w6.setCell ⟨M, 5, none⟩ (.int .i64 (-1)) = w8 at D8 ⊢
    clear D6 f5 y5
    go_wp2_with (first
      | refine wpList_load_row rfl 26 (.tmp 3) rfl M rfl 26 (bcells ({ b with drp := -1 }) (.slice ua b.q.length uc)) (0, 0) _ D8.box Tryd.underlying26 rfl (by kernel_rfl) ?_
      | refine wpList_store_rowTo rfl 26 (.tmp 2) _ rfl rfl w.heap.size (bcells ({ b with drp := -1 }) (.slice ua b.q.length uc)) rfl rfl 26 _ D8.res (by kernel_rfl) rfl (bcells_one _ _ _ _) ?_)
    have HX := D8.end (bcells ({ b with drp := -1 }) (.slice ua b.q.length uc))
    exact bodyPost_ret (results_cell_row rfl _ _ _ _ _ _ _ rfl HX.1 Tryd.underlying26 rfl (by kernel_rfl)) rfl ⟨{ b with drp := -1 }, _, rfl, HX.2.1, HS.out, HX.2.2.1, HX.2.2.2⟩
  have g6 : ((r : Int) == 6) = false := by simp; omega
  have g6' : (r == 6) = false := by simp; omega
  go_wp2_with (first
    | refine wpList_load_row rfl 26 (.tmp 3) rfl M rfl 26 (bcells (b) (.slice ua b.q.length uc)) (0, 0) _ D6.box Tryd.underlying26 rfl (by kernel_rfl) ?_
    | refine wpList_store_rowTo rfl 26 (.tmp 2) _ rfl rfl w.heap.size (bcells (b) (.slice ua b.q.length uc)) rfl rfl 26 _ D6.res (by kernel_rfl) rfl (bcells_one _ _ _ _) ?_)
  have HX := D6.end (bcells (b) (.slice ua b.q.length uc))
  exact bodyPost_ret (results_cell_row rfl _ _ _ _ _ _ _ rfl HX.1 Tryd.underlying26 rfl (by kernel_rfl)) rfl ⟨b, _, rfl, HX.2.1, HS.out, HX.2.2.1, HX.2.2.2⟩

end Go.Proofs.YtfkikdoecoobgaaDoor
