/- The walks of the reference's draws for WithId and WithoutId. -/
import Derived.Test.YtjbobnbbijemmaaDoorZDrawU
set_option linter.unusedSimpArgs false
set_option linter.unusedVariables false
namespace Go.Proofs.YtjbobnbbijemmaaDoor
open Go.RowKit

set_option maxRecDepth 100000 in
set_option maxHeartbeats 1600000 in
theorem drawWithId_any {a : Option Addr} {len cap : Nat} {w : World} (hlen : len ≤ 4096) (hc : CodeAt w.heap.size a len w) :
    Calls Tryd.prog 5 #[.slice a len cap] w fun e w' => ∃ u l f, ∃ id : Int, e = .returned (.tuple #[u, .string f, .int .i64 id]) ∧ KnotsAt w' u l ∧ FitT 300 l ∧ f.size ≤ 300 ∧ Below w.heap.size w w' := by
  go_enter Tryd.func5, Tryd.ntmps5
  go_wp2_with fail
  refine (curNew_any a len cap w hlen hc).mono ?_
  rintro e w1 ⟨rfl, h1, b1⟩
  have H1 := Lib.hid h1
  have B1 := Lib.hid b1
  have hg := h1.lt
  clear h1 b1 hc
  go_wp2_with fail
  refine (drawTA_any H1.out).mono ?_
  rintro e w2 ⟨u, l, rfl, k2, hf, h2, g2⟩
  have H2 := Lib.hid h2
  have G2 := Lib.hid g2
  have K2 := Lib.hid k2
  have HF := Lib.hid hf
  clear h2 g2 k2 hf H1
  go_wp2_with fail
  refine (drawFilter_any H2.out).mono ?_
  rintro e w3 ⟨f, rfl, hfs, h3, g3⟩
  have H3 := Lib.hid h3
  have G3 := Lib.hid (grown_trans G2.out g3)
  have K3 := Lib.hid (K2.out.thrown hg g3)
  clear h3 g3 K2 G2 H2
  go_wp2_with fail
  refine (curOnce_any 8 (by omega) H3.out).mono ?_
  rintro e w4 ⟨b, rfl, h4, g4⟩
  have H4 := Lib.hid h4
  have G4 := Lib.hid (grown_trans G3.out g4)
  have K4 := Lib.hid (K3.out.thrown hg g4)
  clear h4 g4 K3 G3 H3
  cases b
  · go_wp2_with fail
    refine (curBelow_any 10 (by omega) H4.out).mono ?_
    rintro e w5 ⟨r, _, rfl, h5, g5⟩
    have K5 := Lib.hid (K4.out.thrown hg g5).at
    have B5 := Lib.hid (B1.out.grown (grown_trans G4.out g5) B1.out.size (fun k hk => by cases hk; exact Nat.le_refl _))
    clear h5 g5 K4 G4 H4
    go_wp2
    go_ret3
    exact ⟨_, l, f, _, rfl, K5.out, HF.out, by omega, B5.out⟩
  · go_wp2_with fail
    refine (drawName_any H4.out).mono ?_
    rintro e w5 ⟨s, rfl, hs, h5, g5⟩
    have H5 := Lib.hid h5
    have G5 := Lib.hid (grown_trans G4.out g5)
    have K5 := Lib.hid (K4.out.thrown hg g5)
    clear h5 g5 K4 G4 H4
    go_wp2_with fail
    refine (drawNum_any 99 (by omega) H5.out).mono ?_
    rintro e w6 ⟨x, rfl, h6, g6⟩
    have K6 := Lib.hid (K5.out.thrown hg g6).at
    have B6 := Lib.hid (B1.out.grown (grown_trans G5.out g6) B1.out.size (fun k hk => by cases hk; exact Nat.le_refl _))
    clear h6 g6 K5 G5 H5
    go_wp2
    go_ret3
    exact ⟨_, l, s, _, rfl, K6.out, HF.out, by omega, B6.out⟩


set_option maxRecDepth 100000 in
set_option maxHeartbeats 3200000 in
theorem drawWithoutId_any {a : Option Addr} {len cap : Nat} {w : World} (hlen : len ≤ 4096) (hc : CodeAt w.heap.size a len w) :
    Calls Tryd.prog 8 #[.slice a len cap] w fun e w' => ∃ u l f, ∃ id : Int, e = .returned (.tuple #[u, .string f, .int .i64 id]) ∧ KnotsAt w' u l ∧ FitT 300 l ∧ f.size ≤ 300 ∧ Below w.heap.size w w' := by
  go_enter Tryd.func8, Tryd.ntmps8
  go_wp2_with fail
  refine (curNew_any a len cap w hlen hc).mono ?_
  rintro e w1 ⟨rfl, h1, b1⟩
  have H1 := Lib.hid h1
  have B1 := Lib.hid b1
  have hg := h1.lt
  clear h1 b1 hc
  go_wp2_with fail
  refine (drawTA_any H1.out).mono ?_
  rintro e w2 ⟨u, l, rfl, k2, hf, h2, g2⟩
  have HF := Lib.hid hf
  have hll := hf.1
  obtain ⟨us, hus, hrow, hin⟩ := k2
  have K2 : Hid (KRd w2 w1.heap.size u l) := Lib.hid ⟨us, hus, hrow, hin⟩
  have H2 := Lib.hid h2
  have G2 := Lib.hid g2
  clear h2 g2 hf H1 hin
  by_cases h1 : 1 < l.length
  · obtain ⟨gk, ck, rfl⟩ : ∃ gk ck, u = .slice (some ⟨gk, 0, none⟩) l.length ck := by
      rcases hrow.2 with ⟨_, h0⟩ | ⟨g', c', _, h, _⟩
      · omega
      · exact ⟨g', c', h⟩
    clear hrow hus
    go_wp2_with fail
    refine (curOnce_any 4 (by omega) H2.out).mono ?_
    rintro e w3 ⟨b, rfl, h3, g3⟩
    have H3 := Lib.hid h3
    have G3 := Lib.hid (grown_trans G2.out g3)
    have K3 := Lib.hid (K2.out.thrown hg g3)
    clear h3 g3 K2 G2 H2
    cases b
    · have hw9 : IntKind.i64.wrap ((l.length : Int) - 1) = (l.length : Int) - 1 := by rw [IntKind.wrap_i64]; omega
      go_wp2_with fail
      have cb := curBelow_any (l.length - 1) (by omega) H3.out
      rw [show ((l.length - 1 : Nat) : Int) = (l.length : Int) - 1 by omega] at cb
      refine cb.mono ?_
      clear cb
      rintro e w4 ⟨r, hr, rfl, h4, g4⟩
      have hrl : r + 1 < l.length := by rcases hr with h | h <;> omega
      have H4 := Lib.hid h4
      have G4 := Lib.hid (grown_trans G3.out g4)
      have K4 := Lib.hid (K3.out.thrown hg g4)
      clear h4 g4 K3 G3 H3 hr
      obtain ⟨us4, hus4, hrow4, hin4⟩ := K4.out
      have hc0 := hrow4.cellAt ((r + 1) * 2) (by omega)
      rw [kcells_path l us4 (r + 1) hrl hus4] at hc0
      have hc1 := hrow4.cellAt ((r + 1) * 2 + 1) (by omega)
      rw [kcells_ids l us4 (r + 1) (by omega) hus4] at hc1
      obtain ⟨va, vc, huj⟩ := own_slice (hin4 (r + 1) hrl (by omega))
      have HRJ := Lib.hid (hin4 (r + 1) hrl (by omega))
      rw [huj] at hc1 HRJ
      have hps := (HF.out.2 _ (List.getElem_mem hrl)).1
      have hls := (HF.out.2 _ (List.getElem_mem hrl)).2
      obtain ⟨P, hP⟩ : ∃ P, l[r + 1].1 = P := ⟨_, rfl⟩
      obtain ⟨L, hL⟩ : ∃ L, l[r + 1].2 = L := ⟨_, rfl⟩
      rw [hP] at hc0 hps
      rw [hL] at hc1 HRJ hls
      clear hrow4 hin4 huj hP hL
      have hx9 : IntKind.i64.wrap (1 + (r : Int)) = 1 + (r : Int) := by rw [IntKind.wrap_i64]; omega
      have hx8 : (1 + (r : Int)).toNat = r + 1 := by omega
      have hx7 : (0 : Int) ≤ 1 + (r : Int) := by omega
      have hx6 : 1 + (r : Int) < (l.length : Int) := by omega
      have hw14 : w1.heap.size ≤ w4.heap.size := G4.out.size
      by_cases hn0 : L.length = 0
      · have hb5 : Below w4.heap.size w4 (w4.alloc (.cells #[.string P, .slice va L.length vc] 50)) := (Below.refl _ _).alloc (Nat.le_refl _) _
        have HT := Lib.hid (H4.out.below (by omega : w.heap.size < w4.heap.size) hb5)
        have GT := Lib.hid (grown_own G4.out (hb5.mono hw14))
        have KT := Lib.hid (K4.out.below hb5)
        have hn1 : ¬ 0 < L.length := by omega
        clear H4 G4 K4 hb5 HRJ
        rw [hn0] at hc1 HT GT KT
        go_wp2_with fail
        refine (drawFilter_any HT.out).mono ?_
        rintro e w8 ⟨s, rfl, hs, h8, g8⟩
        have H8 := Lib.hid h8
        have G8 := Lib.hid (grown_trans GT.out g8)
        have K8 := Lib.hid (KT.out.thrown hg g8)
        clear h8 g8 HT GT KT
        go_wp2_with fail
        refine (curBelow_any 10 (by omega) H8.out).mono ?_
        rintro e w9 ⟨r9, _, rfl, h9, g9⟩
        have K9 := Lib.hid (K8.out.thrown hg g9).at
        have B9 := Lib.hid (B1.out.grown (grown_trans G8.out g9) B1.out.size (fun k hk => by cases hk; exact Nat.le_refl _))
        clear h9 g9 K8 G8 H8
        go_wp2
        go_ret3
        exact ⟨_, l, s, _, rfl, K9.out, HF.out, by omega, B9.out⟩
      · have hn1 : 0 < L.length := by omega
        obtain ⟨gi, rfl⟩ : ∃ gi, va = some ⟨gi, 0, none⟩ := by
          rcases HRJ.out.2 with ⟨_, h0⟩ | ⟨gi, ci, _, h, _⟩
          · omega
          · injection h with h1 h2 h3; exact ⟨gi, h1⟩
        obtain ⟨W5, hW5⟩ : ∃ W5, (w4.alloc (.cells #[.string P, .slice (some ⟨gi, 0, none⟩) L.length vc] 50)).drew = W5 := ⟨_, rfl⟩
        have hb5 : Below w4.heap.size w4 W5 := by rw [← hW5]; exact ((Below.refl _ _).alloc (Nat.le_refl _) _).drew
        have hs5 : w4.heap.size < W5.heap.size := by rw [← hW5]; simp [World.drew]
        have hd0 : W5.cell? ⟨w4.heap.size, 0, none⟩ = some (.string P) := by rw [← hW5]; simp
        have hd1 : W5.cell? ⟨w4.heap.size, 1, none⟩ = some (.slice (some ⟨gi, 0, none⟩) L.length vc) := by rw [← hW5]; simp
        have H5 := Lib.hid (H4.out.below (by omega : w.heap.size < w4.heap.size) hb5)
        have G5 := Lib.hid (grown_own G4.out (hb5.mono hw14))
        have K5 := Lib.hid (K4.out.below hb5)
        have HR5 := Lib.hid (row_below HRJ.out hb5)
        have CB := Lib.hid (curBelow_any L.length (by omega) H5.out)
        have CK := Lib.hid (fun (w6 : World) (g6 : W5.grownBy w6 (some w.heap.size)) => show w6.cell? ⟨w4.heap.size, 0, none⟩ = some (.string P) ∧ w6.cell? ⟨w4.heap.size, 1, none⟩ = some (.slice (some ⟨gi, 0, none⟩) L.length vc) by
          have hbl := g6.block w4.heap.size hs5 (by intro e; have := Option.some.inj e; omega)
          exact ⟨(World.cell?_of_block (a := ⟨w4.heap.size, 0, none⟩) hbl).trans hd0, (World.cell?_of_block (a := ⟨w4.heap.size, 1, none⟩) hbl).trans hd1⟩)
        obtain ⟨n0, hn0'⟩ : ∃ n, L.length = n := ⟨_, rfl⟩
        have HN0 := Lib.hid hn0'
        rw [hn0'] at hc1 hW5 hn1 hls CB CK hd1 HR5
        clear H4 G4 K4 HRJ hn0 hb5 hn0'
        go_wp2_with fail
        refine wp_region_held_drew (S := fun wx => wx.cell? ⟨w4.heap.size, 0, none⟩ = some (.string P) ∧ wx.cell? ⟨w4.heap.size, 1, none⟩ = some (.slice (some ⟨gi, 0, none⟩) n0 vc)) (by kernel_rfl) ?_ (fun hHeld => ?_)
        · rw [hW5]; exact ⟨hd0, hd1⟩
        change wpAnyH _ _ _ _ _ 15 #[false, false, false, false, false, false, false, false, false, false, false, false, false, false, false] _ _
        rw [hW5] at hHeld ⊢
        refine wpAnyH_take (i := 0) (v := ?_) rfl (by kernel_rfl) (by kernel_rfl) (by kernel_rfl) (fun _ _ _ h => h) (Or.inl ⟨by rfl, ?_⟩) (by assumption) ?_
        rotate_left
        · intro w hSw; (try dsimp only at hSw); go_simp; try with_reducible rfl
        try simp only [Act.put, List.getElem_toArray, List.getElem_cons_succ, List.getElem_cons_zero, List.setIfInBounds_toArray, List.set_cons_zero, List.set_cons_succ]
        refine wpAnyH_take (i := 1) (v := ?_) rfl (by kernel_rfl) (by kernel_rfl) (by kernel_rfl) (fun _ _ _ h => h) (Or.inl ⟨by rfl, ?_⟩) (by assumption) ?_
        rotate_left
        · intro w hSw; (try dsimp only at hSw); go_simp; try with_reducible rfl
        try simp only [Act.put, List.getElem_toArray, List.getElem_cons_succ, List.getElem_cons_zero, List.setIfInBounds_toArray, List.set_cons_zero, List.set_cons_succ]
        refine wpAnyH_take (i := 2) (v := ?_) rfl (by kernel_rfl) (by kernel_rfl) (by kernel_rfl) (fun _ _ _ h => h) (Or.inl ⟨by rfl, ?_⟩) (by assumption) ?_
        rotate_left
        · intro w hSw; (try dsimp only at hSw); go_simp; try with_reducible rfl
        try simp only [Act.put, List.getElem_toArray, List.getElem_cons_succ, List.getElem_cons_zero, List.setIfInBounds_toArray, List.set_cons_zero, List.set_cons_succ]
        refine wpAnyH_take (i := 3) (v := ?_) rfl (by kernel_rfl) (by kernel_rfl) (by kernel_rfl) (fun _ _ _ h => h) (Or.inl ⟨by rfl, ?_⟩) (by assumption) ?_
        rotate_left
        · intro w hSw; (try dsimp only at hSw); go_simp; try with_reducible rfl
        try simp only [Act.put, List.getElem_toArray, List.getElem_cons_succ, List.getElem_cons_zero, List.setIfInBounds_toArray, List.set_cons_zero, List.set_cons_succ]
        refine wpAnyH_take (i := 4) (v := ?_) rfl (by kernel_rfl) (by kernel_rfl) (by kernel_rfl) (fun _ _ _ h => h) (Or.inl ⟨by rfl, ?_⟩) (by assumption) ?_
        rotate_left
        · intro w hSw; (try dsimp only at hSw); go_simp; try with_reducible rfl
        try simp only [Act.put, List.getElem_toArray, List.getElem_cons_succ, List.getElem_cons_zero, List.setIfInBounds_toArray, List.set_cons_zero, List.set_cons_succ]
        refine wpAnyH_take (i := 5) (v := ?_) rfl (by kernel_rfl) (by kernel_rfl) (by kernel_rfl) (fun _ _ _ h => h) (Or.inl ⟨by rfl, ?_⟩) (by assumption) ?_
        rotate_left
        · intro w hSw; (try dsimp only at hSw); go_simp; try with_reducible rfl
        try simp only [Act.put, List.getElem_toArray, List.getElem_cons_succ, List.getElem_cons_zero, List.setIfInBounds_toArray, List.set_cons_zero, List.set_cons_succ]
        refine wpAnyH_take (i := 6) (v := ?_) rfl (by kernel_rfl) (by kernel_rfl) (by kernel_rfl) (fun _ _ _ h => h) (Or.inl ⟨by rfl, ?_⟩) (by assumption) ?_
        rotate_left
        · intro w hSw; (try dsimp only at hSw); go_simp; try with_reducible rfl
        try simp only [Act.put, List.getElem_toArray, List.getElem_cons_succ, List.getElem_cons_zero, List.setIfInBounds_toArray, List.set_cons_zero, List.set_cons_succ]
        refine wpAnyH_take (i := 7) (v := ?_) rfl (by kernel_rfl) (by kernel_rfl) (by kernel_rfl) (fun _ _ _ h => h) (Or.inl ⟨by rfl, ?_⟩) (by assumption) ?_
        rotate_left
        · intro w hSw; (try dsimp only at hSw); go_simp; try with_reducible rfl
        try simp only [Act.put, List.getElem_toArray, List.getElem_cons_succ, List.getElem_cons_zero, List.setIfInBounds_toArray, List.set_cons_zero, List.set_cons_succ]
        refine wpAnyH_take (i := 8) (v := ?_) rfl (by kernel_rfl) (by kernel_rfl) (by kernel_rfl) (fun _ _ _ h => h) (Or.inl ⟨by rfl, ?_⟩) (by assumption) ?_
        rotate_left
        · intro w hSw; (try dsimp only at hSw); go_simp; try with_reducible rfl
        try simp only [Act.put, List.getElem_toArray, List.getElem_cons_succ, List.getElem_cons_zero, List.setIfInBounds_toArray, List.set_cons_zero, List.set_cons_succ]
        refine wpAnyH_ready (rs := [9]) (by kernel_rfl) (by simp) (AllReadyH.cons rfl (fun K hK => ?_) AllReadyH.nil)
        rw [if_pos (by rfl)]
        go_simp; go_at_call 21; refine CB.out.mono ?_; rintro e w6 ⟨r6, hr6, rfl, h6, g6⟩; have hrn : r6 < L.length := (by rw [HN0.out]; rcases hr6 with h | h <;> omega); have hrn2 : r6 < n0 := (by rw [← HN0.out]; exact hrn); have hcj : w6.cell? ⟨gi, r6, none⟩ = some (.int .i64 L[r6]) := (by rw [(own_thrown HR5.out hg g6).cellAt r6 (by omega)]; simp [ints, hrn]); have K6 := Lib.hid (K5.out.thrown hg g6).at; have B6 := Lib.hid (B1.out.grown (grown_trans G5.out g6) B1.out.size (fun k hk => by cases hk; exact Nat.le_refl _)); have CK6 := Lib.hid (CK.out w6 g6); clear h6 g6; go_wp2_with fail
        refine hK.out _ _ ?_ (fun hHeld => ?_)
        · exact CK6.out
        clear hK K
        try simp only [Act.put, List.getElem_toArray, List.getElem_cons_succ, List.getElem_cons_zero, List.setIfInBounds_toArray, List.set_cons_zero, List.set_cons_succ]
        refine wpAnyH_take (i := 10) (v := ?_) rfl (by kernel_rfl) (by kernel_rfl) (by kernel_rfl) (fun _ _ _ h => h) (Or.inl ⟨by rfl, ?_⟩) (by assumption) ?_
        rotate_left
        · intro w hSw; (try dsimp only at hSw); go_simp; try with_reducible rfl
        try simp only [Act.put, List.getElem_toArray, List.getElem_cons_succ, List.getElem_cons_zero, List.setIfInBounds_toArray, List.set_cons_zero, List.set_cons_succ]
        refine wpAnyH_take (i := 12) (v := ?_) rfl (by kernel_rfl) (by kernel_rfl) (by kernel_rfl) (fun _ _ _ h => h) (Or.inl ⟨by rfl, ?_⟩) (by assumption) ?_
        rotate_left
        · intro w hSw; (try dsimp only at hSw); go_simp; try with_reducible rfl
        try simp only [Act.put, List.getElem_toArray, List.getElem_cons_succ, List.getElem_cons_zero, List.setIfInBounds_toArray, List.set_cons_zero, List.set_cons_succ]
        refine wpAnyH_take (i := 13) (v := ?_) rfl (by kernel_rfl) (by kernel_rfl) (by kernel_rfl) (fun _ _ _ h => h) (Or.inl ⟨by rfl, ?_⟩) (by assumption) ?_
        rotate_left
        · intro w hSw; (try dsimp only at hSw); go_simp; try with_reducible rfl
        try simp only [Act.put, List.getElem_toArray, List.getElem_cons_succ, List.getElem_cons_zero, List.setIfInBounds_toArray, List.set_cons_zero, List.set_cons_succ]
        refine wpAnyH_ready (rs := [11]) (by kernel_rfl) (by simp) (AllReadyH.cons rfl (fun K hK => ?_) AllReadyH.nil)
        rw [if_pos (by rfl)]
        go_simp
        refine hK.out _ _ ?_ (fun hHeld => ?_)
        · exact hHeld
        clear hK K
        try simp only [Act.put, List.getElem_toArray, List.getElem_cons_succ, List.getElem_cons_zero, List.setIfInBounds_toArray, List.set_cons_zero, List.set_cons_succ]
        refine wpAnyH_take (i := 14) (v := ?_) rfl (by kernel_rfl) (by kernel_rfl) (by kernel_rfl) (fun _ _ _ h => h) (Or.inl ⟨by rfl, ?_⟩) (by assumption) ?_
        rotate_left
        · intro w hSw; (try dsimp only at hSw); go_simp; try with_reducible rfl
        try simp only [Act.put, List.getElem_toArray, List.getElem_cons_succ, List.getElem_cons_zero, List.setIfInBounds_toArray, List.set_cons_zero, List.set_cons_succ]
        refine wpAnyH_done (by kernel_rfl) ?_ _
        clear hHeld
        go_wp2
        go_ret3
        exact ⟨_, l, P, _, rfl, K6.out, HF.out, hps, B6.out⟩
    · have HT := H3
      have GT := G3
      have KT := K3
      clear H3 G3 K3
      go_wp2_with fail
      refine (drawFilter_any HT.out).mono ?_
      rintro e w8 ⟨s, rfl, hs, h8, g8⟩
      have H8 := Lib.hid h8
      have G8 := Lib.hid (grown_trans GT.out g8)
      have K8 := Lib.hid (KT.out.thrown hg g8)
      clear h8 g8 HT GT KT
      go_wp2_with fail
      refine (curBelow_any 10 (by omega) H8.out).mono ?_
      rintro e w9 ⟨r9, _, rfl, h9, g9⟩
      have K9 := Lib.hid (K8.out.thrown hg g9).at
      have B9 := Lib.hid (B1.out.grown (grown_trans G8.out g9) B1.out.size (fun k hk => by cases hk; exact Nat.le_refl _))
      clear h9 g9 K8 G8 H8
      go_wp2
      go_ret3
      exact ⟨_, l, s, _, rfl, K9.out, HF.out, by omega, B9.out⟩
  · obtain ⟨xa, xc, rfl⟩ := own_slice hrow
    clear hrow hus
    have HT := H2
    have GT := G2
    have KT := K2
    clear H2 G2 K2
    go_wp2_with fail
    refine (drawFilter_any HT.out).mono ?_
    rintro e w8 ⟨s, rfl, hs, h8, g8⟩
    have H8 := Lib.hid h8
    have G8 := Lib.hid (grown_trans GT.out g8)
    have K8 := Lib.hid (KT.out.thrown hg g8)
    clear h8 g8 HT GT KT
    go_wp2_with fail
    refine (curBelow_any 10 (by omega) H8.out).mono ?_
    rintro e w9 ⟨r9, _, rfl, h9, g9⟩
    have K9 := Lib.hid (K8.out.thrown hg g9).at
    have B9 := Lib.hid (B1.out.grown (grown_trans G8.out g9) B1.out.size (fun k hk => by cases hk; exact Nat.le_refl _))
    clear h9 g9 K8 G8 H8
    go_wp2
    go_ret3
    exact ⟨_, l, s, _, rfl, K9.out, HF.out, by omega, B9.out⟩

end Go.Proofs.YtjbobnbbijemmaaDoor
