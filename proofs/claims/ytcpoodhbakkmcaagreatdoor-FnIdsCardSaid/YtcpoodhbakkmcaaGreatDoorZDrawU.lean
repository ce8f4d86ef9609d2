/- The walk of the reference's draw of whatever list of knots. -/
import Derived.Test.YtcpoodhbakkmcaaGreatDoorZB9
import Derived.Test.YtcpoodhbakkmcaaGreatDoorZB6
import Derived.Test.YtcpoodhbakkmcaaGreatDoorZB8
import Derived.Test.YtcpoodhbakkmcaaGreatDoorZB3
import Derived.Test.YtcpoodhbakkmcaaGreatDoorZB1
set_option linter.unusedSimpArgs false
set_option linter.unusedVariables false
namespace Go.Proofs.YtcpoodhbakkmcaaGreatDoor
open Go.RowKit

theorem KOwnU.thrown {w w' : World} {B g : Nat} {v : Value} {l : List KnotM} {us : List Value} (h : KOwnU w B v l us) (hg : g < B) (hw : w.grownBy w' (some g)) : KOwnU w' B v l us :=
  ⟨h.1, own_thrown h.2.1 hg hw, fun j a b => own_thrown (h.2.2.1 j a b) hg hw, h.2.2.2⟩

theorem KOwnU.cellsAt {w : World} {B g cap k : Nat} {l : List KnotM} {us : List Value} (h : KOwnU w B (.slice (some ⟨g, 0, none⟩) l.length cap) l us) (hk : k < l.length) :
    w.cell? ⟨g, k * 2, none⟩ = some (.string l[k].1) ∧ w.cell? ⟨g, k * 2 + 1, none⟩ = some (us[k]'(by rw [h.1]; exact hk)) ∧ w.frozen? ⟨g, k * 2, none⟩ = false ∧ w.frozen? ⟨g, k * 2 + 1, none⟩ = false := by
  refine ⟨?_, ?_, h.2.1.frozenAt _, h.2.1.frozenAt _⟩
  · rw [h.2.1.cellAt _ (by omega), kcells_path l us k hk h.1]
  · rw [h.2.1.cellAt _ (by omega), kcells_ids l us k (by rw [h.1]; exact hk) h.1]

theorem KRd.thrown {w w' : World} {B g : Nat} {v : Value} {l : List KnotM} (h : KRd w B v l) (hg : g < B) (hw : w.grownBy w' (some g)) : KRd w' B v l := by
  obtain ⟨us, h1, h2, h3⟩ := h
  exact ⟨us, h1, own_thrown h2 hg hw, fun j a b => own_thrown (h3 j a b) hg hw⟩

theorem FitT.set {b : Nat} {l : List KnotM} {k : Nat} {x : KnotM} (h : FitT b l) (h1 : x.1.size ≤ b) (h2 : x.2.length ≤ b) : FitT b (l.set k x) :=
  ⟨by rw [List.length_set]; exact h.1, fun y hy => by
    rcases List.mem_or_eq_of_mem_set hy with h' | rfl
    · exact h.2 y h'
    · exact ⟨h1, h2⟩⟩
theorem FitT.app {b : Nat} {l : List KnotM} {x : KnotM} (h : FitT b l) (h1 : x.1.size ≤ b) (h2 : x.2.length ≤ b) : FitT (b + 1) (l ++ [x]) :=
  ⟨by have := h.1; simp; omega, fun y hy => by
    rcases List.mem_append.1 hy with h' | h'
    · have := h.2 y h'; omega
    · rw [List.mem_singleton.1 h']; omega⟩

set_option maxRecDepth 100000 in
set_option maxHeartbeats 1600000 in
theorem curFrom_any {g : Nat} {a : Option Addr} {len cap : Nat} {w : World} (h : Curs g a len cap w) :
    Calls Tryz.prog 52 #[.pointer (some ⟨g, 0, none⟩), .int .i64 (-1), .int .i64 12] w fun e w' => ∃ x : Int, e = .returned (.int .i64 x) ∧ Curs g a len cap w' ∧ w.grownBy w' (some g) := by
  have HH := Lib.hid h
  clear h
  go_enter Tryz.func52, Tryz.ntmps52
  go_wp2_with fail
  refine (curBelow_any 14 (by omega) HH.out).mono ?_
  rintro e w1 ⟨r, hr, rfl, h1, g1⟩
  have H1 := Lib.hid h1
  have G1 := Lib.hid g1
  clear h1 g1 HH
  go_wp2
  go_ret
  exact ⟨_, rfl, H1.out, G1.out⟩


set_option maxRecDepth 100000 in
set_option maxHeartbeats 3200000 in
theorem drawTA_any {g : Nat} {a : Option Addr} {len cap : Nat} {w : World} (h : Curs g a len cap w) :
    Calls Tryz.prog 28 #[.pointer (some ⟨g, 0, none⟩)] w fun e w' => ∃ u l, e = .returned u ∧ KRd w' w.heap.size u l ∧ FitT 300 l ∧ Curs g a len cap w' ∧ w.grownBy w' (some g) := by
  have hg := h.lt
  have HH := Lib.hid h
  clear h
  go_enter Tryz.func28, Tryz.ntmps28
  go_wp2_with fail
  refine (drawT_any HH.out).mono ?_
  rintro e w1 ⟨u, l, rfl, k1, hf, hpos, h1, g1⟩
  have HF := Lib.hid hf
  have H1 := Lib.hid h1
  have G1 := Lib.hid g1
  have K1 := Lib.hid k1
  clear k1 hf h1 g1 HH
  go_wp2_with fail
  refine (curOnce_any 5 (by omega) H1.out).mono ?_
  rintro e w2 ⟨b, rfl, h2, g2⟩
  have H2 := Lib.hid h2
  have G2 := Lib.hid (grown_trans G1.out g2)
  have K2 := Lib.hid (K1.out.thrown hg g2)
  clear h2 g2 H1 G1 K1
  cases b
  · go_wp2
    go_ret
    exact ⟨_, l, rfl, K2.out.rd, HF.out.mono (by omega), H2.out, G2.out⟩
  · obtain ⟨us, hU2⟩ := K2.out
    have HU2 := Lib.hid hU2
    obtain ⟨gk, ck, rfl⟩ : ∃ gk ck, u = .slice (some ⟨gk, 0, none⟩) l.length ck := by
      rcases hU2.2.1.2 with ⟨_, h0⟩ | ⟨g', c', _, h, _⟩
      · omega
      · exact ⟨g', c', h⟩
    have hgk : w.heap.size ≤ gk := (hU2.2.1.lt gk rfl).1
    have hll := HF.out.1
    clear hU2 K2
    go_wp2_with fail
    refine (curBelow_any l.length (by omega) H2.out).mono ?_
    rintro e w3 ⟨i, hi, rfl, h3, g3⟩
    have hil : i < l.length := by rcases hi with h | h <;> omega
    have H3 := Lib.hid h3
    have G3 := Lib.hid (grown_trans G2.out g3)
    have HU3 := Lib.hid (HU2.out.thrown hg g3)
    clear h3 g3 H2 G2 HU2 hi
    go_wp2_with fail
    refine (curBelow_any 6 (by omega) H3.out).mono ?_
    rintro e w4 ⟨r, hr, rfl, h4, g4⟩
    have H4 := Lib.hid h4
    have G4 := Lib.hid (grown_trans G3.out g4)
    have HU4 := Lib.hid (HU3.out.thrown hg g4)
    have hws : w.heap.size ≤ w4.heap.size := G4.out.size
    have hr6 : r = 0 ∨ r = 1 ∨ r = 2 ∨ r = 3 ∨ r = 4 ∨ r = 5 := by rcases hr with h | h <;> omega
    clear h4 g4 H3 G3 HU3 hr
    have hlu : i < us.length := by rw [HU4.out.1]; exact hil
    rcases hr6 with rfl | rfl | rfl | rfl | rfl | rfl
    · -- another path
      go_wp2_with fail
      refine (drawName_any H4.out).mono ?_
      rintro e w5 ⟨s, rfl, hs, h5, g5⟩
      have H5 := Lib.hid h5
      have G5 := Lib.hid (grown_trans G4.out g5)
      have HU5 := Lib.hid (HU4.out.thrown hg g5)
      clear h5 g5 H4 G4 HU4
      obtain ⟨hc0, hc1, hf0, hf1⟩ := HU5.out.cellsAt hil
      have hB : Below w.heap.size w5 (w5.setCell ⟨gk, i * 2, none⟩ (.string s)) := (Below.refl _ _).setCell (p := ⟨gk, i * 2, none⟩) hgk _
      have HK := Lib.hid (HU5.out.newPath rfl hil s)
      have HC := Lib.hid (H5.out.below hg hB)
      have HG := Lib.hid (grown_own G5.out hB)
      clear hB
      go_wp2
      go_ret
      exact ⟨_, _, rfl, HK.out, (HF.out.mono (by omega)).set (by show s.size ≤ _; omega) (by have := (HF.out.2 _ (List.getElem_mem hil)).2; exact Nat.le_trans this (by omega)), HC.out, HG.out⟩
    · -- a number more
      obtain ⟨va, vc, huj⟩ := own_slice (HU4.out.2.2.1 i hil hlu)
      have hni := (HF.out.2 _ (List.getElem_mem hil)).2
      have hfi := (HF.out.2 _ (List.getElem_mem hil)).1
      have HUd := Lib.hid (HU4.out.below (Below.refl w4.heap.size w4).drew)
      obtain ⟨hc0, hc1, hf0, hf1⟩ := HUd.out.cellsAt hil
      rw [huj] at hc1
      have Hd := Lib.hid (H4.out.below (by omega : g < w4.heap.size) (Below.refl w4.heap.size w4).drew)
      have CF := Lib.hid (curFrom_any Hd.out)
      have HAFT := Lib.hid (fun (x : Int) (w5 w6 : World) (v6 : Value) (g5 : w4.drew.grownBy w5 (some g)) (hr6 : w6.ownsRow w.heap.size 2 1 v6 (l[i].2.length + 1) (ints l[i].2 ++ [.int .i64 x])) (hg6 : (w5.alloc (.cells #[.int .i64 x] 2)).grownBy w6 (Value.slice va l[i].2.length vc).ownBlock) => show KRd (w6.setCell ⟨gk, i * 2 + 1, none⟩ v6) w.heap.size (.slice (some ⟨gk, 0, none⟩) l.length ck) (l.set i (l[i].1, l[i].2 ++ [x])) ∧ Below w.heap.size w5 (w6.setCell ⟨gk, i * 2 + 1, none⟩ v6) ∧ w6.cell? ⟨gk, i * 2 + 1, none⟩ = some (Value.slice va l[i].2.length vc) ∧ w6.frozen? ⟨gk, i * 2 + 1, none⟩ = false by
        have hU5 := HUd.out.thrown hg g5
        have hGL : GrownL w5 w6 [us[i]] := (GrownL.below ((Below.refl _ _).alloc (Nat.le_refl _) _)).trans (.grown (x := us[i]) (by rw [huj]; exact hg6) (by simp))
        have hO : w6.ownsRow w.heap.size 43 2 (.slice (some ⟨gk, 0, none⟩) l.length ck) l.length (kcells l us) :=
          own_keptL hU5.2.1 hGL fun y hy => by rw [List.mem_singleton.1 hy]; exact (List.pairwise_cons.1 hU5.2.2.2).1 _ (List.getElem_mem _)
        have hw5 : w.heap.size ≤ w5.heap.size := Nat.le_trans hws g5.size
        refine ⟨hU5.newIds rfl hil hlu hGL (by simpa [ints] using hr6), (hGL.toBelow hw5 (fun y hy b hb => by rw [List.mem_singleton.1 hy] at hb; exact ((hU5.2.2.1 i hil hlu).lt b hb).1)).setCell (p := ⟨gk, i * 2 + 1, none⟩) hgk _, ?_, hO.frozenAt _⟩
        rw [hO.cellAt _ (by omega), kcells_ids l us i hlu hU5.1, huj])
      have HO5 := Lib.hid (fun (w5 : World) (x : Int) (g5 : w4.drew.grownBy w5 (some g)) => show (w5.alloc (.cells #[.int .i64 x] 2)).ownsRow w.heap.size 2 1 (Value.slice va l[i].2.length vc) l[i].2.length (ints l[i].2) by
        have := (HUd.out.thrown hg g5).2.2.1 i hil hlu
        rw [huj] at this
        exact row_below this ((Below.refl _ _).alloc (Nat.le_refl _) _))
      have HC5 := Lib.hid (fun (w5 : World) (g5 : w4.drew.grownBy w5 (some g)) => show w5.cell? ⟨gk, i * 2 + 1, none⟩ = some (Value.slice va l[i].2.length vc) ∧ gk < w5.heap.size by
        have hU5 := HUd.out.thrown hg g5
        have := (hU5.cellsAt hil).2.1
        exact ⟨this.trans (by rw [huj]), (hU5.2.1.lt gk rfl).2⟩)
      have HG5 := Lib.hid (fun (w5 : World) (g5 : w4.drew.grownBy w5 (some g)) => grown_trans G4.out (grown_trans (grown_below (r := some g) (Below.refl w4.heap.size w4).drew) g5))
      obtain ⟨i1, hi1, hz1, hy1, hq1⟩ := info_parts (P := Tryz.prog) (e := 2) (z := .int .i64 0) (size := 1) (bytes := 8) (by kernel_rfl)
      have hFIT := Lib.hid (fun x : Int => (HF.out.mono (show 200 ≤ 300 by omega)).set (k := i) (x := (l[i].1, l[i].2 ++ [x])) (by show l[i].1.size ≤ _; omega) (by simp; omega))
      obtain ⟨L, hL⟩ : ∃ L, l[i].2 = L := ⟨_, rfl⟩
      rw [hL] at hni HAFT HO5 HC5 hFIT hc1
      obtain ⟨n0, hn0⟩ : ∃ n, L.length = n := ⟨_, rfl⟩
      have HN0 := Lib.hid hn0
      rw [hn0] at hni HAFT HO5 HC5 hc1
      clear HU4 HUd huj hL hn0 H4 HF G4 Hd hf0 hc0
      go_wp2_with fail
      refine wp_region_held_drew (S := fun _ => True) (by kernel_rfl) ?_ (fun hHeld => ?_)
      · trivial
      change wpAnyH _ _ _ _ _ 14 #[false, false, false, false, false, false, false, false, false, false, false, false, false, false] _ _
      refine wpAnyH_take (i := 0) (v := ?_) rfl (by kernel_rfl) (by kernel_rfl) (by kernel_rfl) (fun _ _ _ h => h) (Or.inl ⟨by rfl, ?_⟩) (by assumption) ?_
      rotate_left
      · intro w hSw; (try dsimp only at hSw); go_simp; try with_reducible rfl
      try simp only [Act.put, List.getElem_toArray, List.getElem_cons_succ, List.getElem_cons_zero, List.setIfInBounds_toArray, List.set_cons_zero, List.set_cons_succ]
      refine wpAnyH_take (i := 1) (v := ?_) rfl (by kernel_rfl) (by kernel_rfl) (by kernel_rfl) (fun _ _ _ h => h) (Or.inl ⟨by rfl, ?_⟩) (by assumption) ?_
      rotate_left
      · intro w hSw; (try dsimp only at hSw); go_simp; try with_reducible rfl
      try simp only [Act.put, List.getElem_toArray, List.getElem_cons_succ, List.getElem_cons_zero, List.setIfInBounds_toArray, List.set_cons_zero, List.set_cons_succ]
      refine wpAnyH_take (i := 2) (v := ?_) rfl (by kernel_rfl) (by kernel_rfl) (by kernel_rfl) (fun _ _ _ h => h) (Or.inl ⟨by rfl, ?_⟩) (by assumption) ?_
      rotate_left
      · intro w hSw; (try dsimp only at hSw); go_simp; try with_reducible rfl
      try simp only [Act.put, List.getElem_toArray, List.getElem_cons_succ, List.getElem_cons_zero, List.setIfInBounds_toArray, List.set_cons_zero, List.set_cons_succ]
      refine wpAnyH_take (i := 3) (v := ?_) rfl (by kernel_rfl) (by kernel_rfl) (by kernel_rfl) (fun _ _ _ h => h) (Or.inl ⟨by rfl, ?_⟩) (by assumption) ?_
      rotate_left
      · intro w hSw; (try dsimp only at hSw); go_simp; try with_reducible rfl
      try simp only [Act.put, List.getElem_toArray, List.getElem_cons_succ, List.getElem_cons_zero, List.setIfInBounds_toArray, List.set_cons_zero, List.set_cons_succ]
      refine wpAnyH_take (i := 4) (v := ?_) rfl (by kernel_rfl) (by kernel_rfl) (by kernel_rfl) (fun _ _ _ h => h) (Or.inl ⟨by rfl, ?_⟩) (by assumption) ?_
      rotate_left
      · intro w hSw; (try dsimp only at hSw); go_simp; try with_reducible rfl
      try simp only [Act.put, List.getElem_toArray, List.getElem_cons_succ, List.getElem_cons_zero, List.setIfInBounds_toArray, List.set_cons_zero, List.set_cons_succ]
      refine wpAnyH_take (i := 5) (v := ?_) rfl (by kernel_rfl) (by kernel_rfl) (by kernel_rfl) (fun _ _ _ h => h) (Or.inl ⟨by rfl, ?_⟩) (by assumption) ?_
      rotate_left
      · intro w hSw; (try dsimp only at hSw); go_simp; try with_reducible rfl
      try simp only [Act.put, List.getElem_toArray, List.getElem_cons_succ, List.getElem_cons_zero, List.setIfInBounds_toArray, List.set_cons_zero, List.set_cons_succ]
      refine wpAnyH_take (i := 7) (v := ?_) rfl (by kernel_rfl) (by kernel_rfl) (by kernel_rfl) (fun _ _ _ h => h) (Or.inl ⟨by rfl, ?_⟩) (by assumption) ?_
      rotate_left
      · intro w hSw; (try dsimp only at hSw); go_simp; try with_reducible rfl
      try simp only [Act.put, List.getElem_toArray, List.getElem_cons_succ, List.getElem_cons_zero, List.setIfInBounds_toArray, List.set_cons_zero, List.set_cons_succ]
      refine wpAnyH_ready (rs := [6, 8]) (by kernel_rfl) (by simp) (AllReadyH.cons rfl (fun K hK => ?_) (AllReadyH.cons rfl (fun K hK => ?_) AllReadyH.nil))
      · skip
        rw [if_pos (by rfl)]
        go_simp
        refine hK.out _ _ ?_ (fun hHeld => ?_)
        · trivial
        clear hK K
        try simp only [Act.put, List.getElem_toArray, List.getElem_cons_succ, List.getElem_cons_zero, List.setIfInBounds_toArray, List.set_cons_zero, List.set_cons_succ]
        refine wpAnyH_ready (rs := [8]) (by kernel_rfl) (by simp) (AllReadyH.cons rfl (fun K hK => ?_) AllReadyH.nil)
        rw [if_pos (by rfl)]
        go_simp; go_at_call 52; refine CF.out.mono ?_; rintro e w5 ⟨x, rfl, h5, g5⟩; obtain ⟨hc5, hk5⟩ := HC5.out w5 g5; have hc6 : (w5.alloc (.cells #[.int .i64 x] 2)).cell? ⟨gk, i * 2 + 1, none⟩ = some (Value.slice va n0 vc) := (below_cell ((Below.refl _ _).alloc (Nat.le_refl _) _) hk5).trans hc5; have H5 := Lib.hid h5; have G5 := Lib.hid (HG5.out w5 g5); have HA := Lib.hid (fun w6 v6 => HAFT.out x w5 w6 v6 g5); have HO6 := Lib.hid (HO5.out w5 x g5); have hw5 : w.heap.size ≤ w5.heap.size := (HG5.out w5 g5).size; clear h5 g5; go_wp2_with fail
        refine hK.out _ _ ?_ (fun hHeld => ?_)
        · trivial
        clear hK K
        try simp only [Act.put, List.getElem_toArray, List.getElem_cons_succ, List.getElem_cons_zero, List.setIfInBounds_toArray, List.set_cons_zero, List.set_cons_succ]
        refine wpAnyH_ready (rs := [9]) (by kernel_rfl) (by simp) (AllReadyH.cons rfl (fun K hK => ?_) AllReadyH.nil)
        rw [if_pos (by rfl)]
        go_simp
        refine hK.out _ _ ?_ (fun hHeld => ?_)
        · trivial
        clear hK K
        try simp only [Act.put, List.getElem_toArray, List.getElem_cons_succ, List.getElem_cons_zero, List.setIfInBounds_toArray, List.set_cons_zero, List.set_cons_succ]
        refine wpAnyH_ready (rs := [10]) (by kernel_rfl) (by simp) (AllReadyH.cons rfl (fun K hK => ?_) AllReadyH.nil)
        rw [if_pos (by rfl)]
        refine wp_append_src (.tmp 31) (.tmp 34) 33 rfl w.heap.size 2 i1 (.int .i64 0) 1 8 Tryz.underlying33 hi1 hz1 hy1 hq1 rfl (by decide) (.slice va n0 vc) (.slice (some ⟨w5.heap.size, 0, none⟩) 1 1) n0 1 (ints L) [.int .i64 x] (by simp [Act.eval]) HO6.out (by simp [Act.eval]) (int_src w5 x) rfl (by intro u hu; rw [List.mem_singleton.1 hu]; rfl) (by unfold maxLen; omega) (by omega) (by simp; omega) ?_; intro v6 w6 hr6 hg6 hv6; obtain ⟨xa, xc, hs6⟩ := own_slice hr6; subst hs6; obtain ⟨k6, b6, hc7, hf7⟩ := HA.out w6 _ hr6 hg6; have K6 := Lib.hid k6; have B6 := Lib.hid b6; clear hr6 hg6 hv6 k6 b6
        refine hK.out _ _ ?_ (fun hHeld => ?_)
        · trivial
        clear hK K
        try simp only [Act.put, List.getElem_toArray, List.getElem_cons_succ, List.getElem_cons_zero, List.setIfInBounds_toArray, List.set_cons_zero, List.set_cons_succ]
        refine wpAnyH_take (i := 11) (v := ?_) rfl (by kernel_rfl) (by kernel_rfl) (by kernel_rfl) (fun _ _ _ h => h) (Or.inl ⟨by rfl, ?_⟩) (by assumption) ?_
        rotate_left
        · intro w hSw; (try dsimp only at hSw); go_simp; try with_reducible rfl
        try simp only [Act.put, List.getElem_toArray, List.getElem_cons_succ, List.getElem_cons_zero, List.setIfInBounds_toArray, List.set_cons_zero, List.set_cons_succ]
        refine wpAnyH_take (i := 12) (v := ?_) rfl (by kernel_rfl) (by kernel_rfl) (by kernel_rfl) (fun _ _ _ h => h) (Or.inl ⟨by rfl, ?_⟩) (by assumption) ?_
        rotate_left
        · intro w hSw; (try dsimp only at hSw); go_simp; try with_reducible rfl
        try simp only [Act.put, List.getElem_toArray, List.getElem_cons_succ, List.getElem_cons_zero, List.setIfInBounds_toArray, List.set_cons_zero, List.set_cons_succ]
        refine wpAnyH_ready (rs := [13]) (by kernel_rfl) (by simp) (AllReadyH.cons rfl (fun K hK => ?_) AllReadyH.nil)
        rw [if_pos (by rfl)]
        go_simp
        refine hK.out _ _ ?_ (fun hHeld => ?_)
        · trivial
        clear hK K
        try simp only [Act.put, List.getElem_toArray, List.getElem_cons_succ, List.getElem_cons_zero, List.setIfInBounds_toArray, List.set_cons_zero, List.set_cons_succ]
        refine wpAnyH_done (by kernel_rfl) ?_ _
        go_wp2
        go_ret
        exact ⟨_, _, rfl, K6.out, hFIT.out x, H5.out.below hg B6.out, grown_own G5.out B6.out⟩
      · skip
        rw [if_pos (by rfl)]
        go_simp; go_at_call 52; refine CF.out.mono ?_; rintro e w5 ⟨x, rfl, h5, g5⟩; obtain ⟨hc5, hk5⟩ := HC5.out w5 g5; have hc6 : (w5.alloc (.cells #[.int .i64 x] 2)).cell? ⟨gk, i * 2 + 1, none⟩ = some (Value.slice va n0 vc) := (below_cell ((Below.refl _ _).alloc (Nat.le_refl _) _) hk5).trans hc5; have H5 := Lib.hid h5; have G5 := Lib.hid (HG5.out w5 g5); have HA := Lib.hid (fun w6 v6 => HAFT.out x w5 w6 v6 g5); have HO6 := Lib.hid (HO5.out w5 x g5); have hw5 : w.heap.size ≤ w5.heap.size := (HG5.out w5 g5).size; clear h5 g5; go_wp2_with fail
        refine hK.out _ _ ?_ (fun hHeld => ?_)
        · trivial
        clear hK K
        try simp only [Act.put, List.getElem_toArray, List.getElem_cons_succ, List.getElem_cons_zero, List.setIfInBounds_toArray, List.set_cons_zero, List.set_cons_succ]
        refine wpAnyH_ready (rs := [6, 9]) (by kernel_rfl) (by simp) (AllReadyH.cons rfl (fun K hK => ?_) (AllReadyH.cons rfl (fun K hK => ?_) AllReadyH.nil))
        · skip
          rw [if_pos (by rfl)]
          go_simp
          refine hK.out _ _ ?_ (fun hHeld => ?_)
          · trivial
          clear hK K
          try simp only [Act.put, List.getElem_toArray, List.getElem_cons_succ, List.getElem_cons_zero, List.setIfInBounds_toArray, List.set_cons_zero, List.set_cons_succ]
          refine wpAnyH_ready (rs := [9]) (by kernel_rfl) (by simp) (AllReadyH.cons rfl (fun K hK => ?_) AllReadyH.nil)
          rw [if_pos (by rfl)]
          go_simp
          refine hK.out _ _ ?_ (fun hHeld => ?_)
          · trivial
          clear hK K
          try simp only [Act.put, List.getElem_toArray, List.getElem_cons_succ, List.getElem_cons_zero, List.setIfInBounds_toArray, List.set_cons_zero, List.set_cons_succ]
          refine wpAnyH_ready (rs := [10]) (by kernel_rfl) (by simp) (AllReadyH.cons rfl (fun K hK => ?_) AllReadyH.nil)
          rw [if_pos (by rfl)]
          refine wp_append_src (.tmp 31) (.tmp 34) 33 rfl w.heap.size 2 i1 (.int .i64 0) 1 8 Tryz.underlying33 hi1 hz1 hy1 hq1 rfl (by decide) (.slice va n0 vc) (.slice (some ⟨w5.heap.size, 0, none⟩) 1 1) n0 1 (ints L) [.int .i64 x] (by simp [Act.eval]) HO6.out (by simp [Act.eval]) (int_src w5 x) rfl (by intro u hu; rw [List.mem_singleton.1 hu]; rfl) (by unfold maxLen; omega) (by omega) (by simp; omega) ?_; intro v6 w6 hr6 hg6 hv6; obtain ⟨xa, xc, hs6⟩ := own_slice hr6; subst hs6; obtain ⟨k6, b6, hc7, hf7⟩ := HA.out w6 _ hr6 hg6; have K6 := Lib.hid k6; have B6 := Lib.hid b6; clear hr6 hg6 hv6 k6 b6
          refine hK.out _ _ ?_ (fun hHeld => ?_)
          · trivial
          clear hK K
          try simp only [Act.put, List.getElem_toArray, List.getElem_cons_succ, List.getElem_cons_zero, List.setIfInBounds_toArray, List.set_cons_zero, List.set_cons_succ]
          refine wpAnyH_take (i := 11) (v := ?_) rfl (by kernel_rfl) (by kernel_rfl) (by kernel_rfl) (fun _ _ _ h => h) (Or.inl ⟨by rfl, ?_⟩) (by assumption) ?_
          rotate_left
          · intro w hSw; (try dsimp only at hSw); go_simp; try with_reducible rfl
          try simp only [Act.put, List.getElem_toArray, List.getElem_cons_succ, List.getElem_cons_zero, List.setIfInBounds_toArray, List.set_cons_zero, List.set_cons_succ]
          refine wpAnyH_take (i := 12) (v := ?_) rfl (by kernel_rfl) (by kernel_rfl) (by kernel_rfl) (fun _ _ _ h => h) (Or.inl ⟨by rfl, ?_⟩) (by assumption) ?_
          rotate_left
          · intro w hSw; (try dsimp only at hSw); go_simp; try with_reducible rfl
          try simp only [Act.put, List.getElem_toArray, List.getElem_cons_succ, List.getElem_cons_zero, List.setIfInBounds_toArray, List.set_cons_zero, List.set_cons_succ]
          refine wpAnyH_ready (rs := [13]) (by kernel_rfl) (by simp) (AllReadyH.cons rfl (fun K hK => ?_) AllReadyH.nil)
          rw [if_pos (by rfl)]
          go_simp
          refine hK.out _ _ ?_ (fun hHeld => ?_)
          · trivial
          clear hK K
          try simp only [Act.put, List.getElem_toArray, List.getElem_cons_succ, List.getElem_cons_zero, List.setIfInBounds_toArray, List.set_cons_zero, List.set_cons_succ]
          refine wpAnyH_done (by kernel_rfl) ?_ _
          go_wp2
          go_ret
          exact ⟨_, _, rfl, K6.out, hFIT.out x, H5.out.below hg B6.out, grown_own G5.out B6.out⟩
        · skip
          rw [if_pos (by rfl)]
          go_simp
          refine hK.out _ _ ?_ (fun hHeld => ?_)
          · trivial
          clear hK K
          try simp only [Act.put, List.getElem_toArray, List.getElem_cons_succ, List.getElem_cons_zero, List.setIfInBounds_toArray, List.set_cons_zero, List.set_cons_succ]
          refine wpAnyH_ready (rs := [6]) (by kernel_rfl) (by simp) (AllReadyH.cons rfl (fun K hK => ?_) AllReadyH.nil)
          rw [if_pos (by rfl)]
          go_simp
          refine hK.out _ _ ?_ (fun hHeld => ?_)
          · trivial
          clear hK K
          try simp only [Act.put, List.getElem_toArray, List.getElem_cons_succ, List.getElem_cons_zero, List.setIfInBounds_toArray, List.set_cons_zero, List.set_cons_succ]
          refine wpAnyH_ready (rs := [10]) (by kernel_rfl) (by simp) (AllReadyH.cons rfl (fun K hK => ?_) AllReadyH.nil)
          rw [if_pos (by rfl)]
          refine wp_append_src (.tmp 31) (.tmp 34) 33 rfl w.heap.size 2 i1 (.int .i64 0) 1 8 Tryz.underlying33 hi1 hz1 hy1 hq1 rfl (by decide) (.slice va n0 vc) (.slice (some ⟨w5.heap.size, 0, none⟩) 1 1) n0 1 (ints L) [.int .i64 x] (by simp [Act.eval]) HO6.out (by simp [Act.eval]) (int_src w5 x) rfl (by intro u hu; rw [List.mem_singleton.1 hu]; rfl) (by unfold maxLen; omega) (by omega) (by simp; omega) ?_; intro v6 w6 hr6 hg6 hv6; obtain ⟨xa, xc, hs6⟩ := own_slice hr6; subst hs6; obtain ⟨k6, b6, hc7, hf7⟩ := HA.out w6 _ hr6 hg6; have K6 := Lib.hid k6; have B6 := Lib.hid b6; clear hr6 hg6 hv6 k6 b6
          refine hK.out _ _ ?_ (fun hHeld => ?_)
          · trivial
          clear hK K
          try simp only [Act.put, List.getElem_toArray, List.getElem_cons_succ, List.getElem_cons_zero, List.setIfInBounds_toArray, List.set_cons_zero, List.set_cons_succ]
          refine wpAnyH_take (i := 11) (v := ?_) rfl (by kernel_rfl) (by kernel_rfl) (by kernel_rfl) (fun _ _ _ h => h) (Or.inl ⟨by rfl, ?_⟩) (by assumption) ?_
          rotate_left
          · intro w hSw; (try dsimp only at hSw); go_simp; try with_reducible rfl
          try simp only [Act.put, List.getElem_toArray, List.getElem_cons_succ, List.getElem_cons_zero, List.setIfInBounds_toArray, List.set_cons_zero, List.set_cons_succ]
          refine wpAnyH_take (i := 12) (v := ?_) rfl (by kernel_rfl) (by kernel_rfl) (by kernel_rfl) (fun _ _ _ h => h) (Or.inl ⟨by rfl, ?_⟩) (by assumption) ?_
          rotate_left
          · intro w hSw; (try dsimp only at hSw); go_simp; try with_reducible rfl
          try simp only [Act.put, List.getElem_toArray, List.getElem_cons_succ, List.getElem_cons_zero, List.setIfInBounds_toArray, List.set_cons_zero, List.set_cons_succ]
          refine wpAnyH_ready (rs := [13]) (by kernel_rfl) (by simp) (AllReadyH.cons rfl (fun K hK => ?_) AllReadyH.nil)
          rw [if_pos (by rfl)]
          go_simp
          refine hK.out _ _ ?_ (fun hHeld => ?_)
          · trivial
          clear hK K
          try simp only [Act.put, List.getElem_toArray, List.getElem_cons_succ, List.getElem_cons_zero, List.setIfInBounds_toArray, List.set_cons_zero, List.set_cons_succ]
          refine wpAnyH_done (by kernel_rfl) ?_ _
          go_wp2
          go_ret
          exact ⟨_, _, rfl, K6.out, hFIT.out x, H5.out.below hg B6.out, grown_own G5.out B6.out⟩
    · -- no numbers
      have hA : Below w4.heap.size w4 (w4.alloc (.cells #[] 2)) := (Below.refl _ _).alloc (Nat.le_refl _) _
      have HU5 := Lib.hid (HU4.out.below hA)
      obtain ⟨hc0, hc1, hf0, hf1⟩ := HU5.out.cellsAt hil
      have hB : Below w.heap.size w4 ((w4.alloc (.cells #[] 2)).setCell ⟨gk, i * 2 + 1, none⟩ (.slice (some ⟨w4.heap.size, 0, none⟩) 0 0)) := (hA.mono hws).setCell (p := ⟨gk, i * 2 + 1, none⟩) hgk _
      have HK := Lib.hid (HU4.out.newIds rfl hil hlu (GrownL.below hA) (z := []) (World.ownsRow_lit (base := w.heap.size) (e := 2) (size := 1) w4 #[] 0 hws (by unfold maxLen; omega) rfl))
      have HC := Lib.hid (H4.out.below hg hB)
      have HG := Lib.hid (grown_own G4.out hB)
      clear hB hA
      go_wp2
      go_ret
      exact ⟨_, _, rfl, HK.out, (HF.out.mono (by omega)).set (by have := (HF.out.2 _ (List.getElem_mem hil)).1; exact Nat.le_trans this (by omega)) (by simp), HC.out, HG.out⟩
    · -- one out of the middle
      have hcap2 := own_cap HU4.out.2.1
      have HTK := Lib.hid (show w4.drew.ownsRow w.heap.size 43 2 (.slice (some ⟨gk, 0, none⟩) i ck) i (kcells (l.take i) (us.take i)) by
        have := own_take HU4.out.2.1 (Nat.le_of_lt hil)
        rw [kcells_take HU4.out.1 i (Nat.le_of_lt hil)] at this
        exact row_below this (Below.refl _ _).drew)
      obtain ⟨A, hA, hsrc⟩ : ∃ A : Addr, (if ck = i + 1 then some (⟨gk, 0, none⟩ : Addr) else some ⟨gk, (i + 1) * 2, none⟩) = some A ∧ Hid (SrcAt w4.drew (.slice (some A) (l.length - (i + 1)) (ck - (i + 1))) (l.length - (i + 1)) (kcells (l.drop (i + 1)) (us.drop (i + 1)))) := by
        by_cases h : ck = i + 1
        · refine ⟨_, by rw [if_pos h], Lib.hid ⟨_, _, rfl, .inr ⟨_, rfl, fun j u hj => ?_⟩⟩⟩
          rw [List.drop_of_length_le (by omega : l.length ≤ i + 1)] at hj
          simp [kcells] at hj
        · exact ⟨_, by rw [if_neg h], Lib.hid ((knots_src HU4.out rfl hil _).below (Below.refl _ _).drew)⟩
      have HKL : Hid ((kcells (l.drop (i + 1)) (us.drop (i + 1))).length = (l.length - (i + 1)) * 2) := Lib.hid (by rw [kcells_length _ _ (by simp [HU4.out.1]), List.length_drop])
      have HONE : Hid (∀ u ∈ kcells (l.drop (i + 1)) (us.drop (i + 1)), u.oneCell' = true) := Lib.hid (kcells_one _ _ (fun u hu => by
        obtain ⟨j, hj, rfl⟩ := List.mem_iff_getElem.1 (List.mem_of_mem_drop hu)
        obtain ⟨a, c, e⟩ := own_slice (HU4.out.2.2.1 j (by rw [← HU4.out.1]; exact hj) hj)
        exact ⟨a, _, c, e⟩))
      have HER := Lib.hid (fun (w5 : World) (v5 : Value) (hr5 : w5.ownsRow w.heap.size 43 2 v5 (i + (l.length - (i + 1))) (kcells (l.take i) (us.take i) ++ kcells (l.drop (i + 1)) (us.drop (i + 1)))) (hg5 : w4.drew.grownBy w5 (some gk)) => show KOwn w5 w.heap.size v5 (dropK l i) ∧ Below w.heap.size w4 w5 by
        have hG : GrownL w4 w5 [.slice (some ⟨gk, 0, none⟩) l.length ck] := (GrownL.below (Below.refl w4.heap.size w4).drew).trans (.grown (x := .slice (some ⟨gk, 0, none⟩) l.length ck) hg5 (by simp))
        refine ⟨⟨_, HU4.out.erase hG hil ?_⟩, hG.toBelow hws (fun x hx b hb => by rw [List.mem_singleton.1 hx] at hb; cases hb; exact hgk)⟩
        have e1 : (dropK l i).length = i + (l.length - (i + 1)) := by unfold dropK; simp; omega
        rw [e1]
        unfold dropK
        rw [kcells_append _ _ _ _ (by simp [HU4.out.1])]
        exact hr5)
      obtain ⟨i2, hi2, hz2, hy2, hq2⟩ := info_parts (P := Tryz.prog) (e := 43) (z := .agg #[.string ⟨#[]⟩, .slice none 0 0]) (size := 2) (bytes := 40) (by kernel_rfl)
      have hB2 : w.heap.size ≤ w4.drew.heap.size := hws
      have hii : ((i : Int) + 1).toNat = i + 1 := by omega
      have hw9 : IntKind.i64.wrap ((i : Int) + 1) = (i : Int) + 1 := by rw [IntKind.wrap_i64]; omega
      have hi9 : (0 : Int) ≤ (i : Int) + 1 := by omega
      have hi8 : (i : Int) + 1 ≤ (l.length : Int) := by omega
      have hi7 : i ≤ ck := by omega
      have hFIT := Lib.hid (show FitT 300 (dropK l i) from ⟨by have := HF.out.1; unfold dropK; simp; omega, fun x hx => by
        have : x ∈ l := by
          unfold dropK at hx
          rcases List.mem_append.1 hx with h | h
          · exact List.mem_of_mem_take h
          · exact List.mem_of_mem_drop h
        have := HF.out.2 x this; omega⟩)
      clear HU4 HF
      go_wp2_with fail
      refine wp_region_held_drew (S := fun _ => True) (by kernel_rfl) ?_ (fun hHeld => ?_)
      · trivial
      change wpAnyH _ _ _ _ _ 9 #[false, false, false, false, false, false, false, false, false] _ _
      refine wpAnyH_take (i := 0) (v := ?_) rfl (by kernel_rfl) (by kernel_rfl) (by kernel_rfl) (fun _ _ _ h => h) (Or.inl ⟨by rfl, ?_⟩) (by assumption) ?_
      rotate_left
      · intro w hSw; (try dsimp only at hSw); go_simp; try with_reducible rfl
      try simp only [Act.put, List.getElem_toArray, List.getElem_cons_succ, List.getElem_cons_zero, List.setIfInBounds_toArray, List.set_cons_zero, List.set_cons_succ]
      refine wpAnyH_take (i := 1) (v := ?_) rfl (by kernel_rfl) (by kernel_rfl) (by kernel_rfl) (fun _ _ _ h => h) (Or.inl ⟨by rfl, ?_⟩) (by assumption) ?_
      rotate_left
      · intro w hSw; (try dsimp only at hSw); go_simp; try with_reducible rfl
      try simp only [Act.put, List.getElem_toArray, List.getElem_cons_succ, List.getElem_cons_zero, List.setIfInBounds_toArray, List.set_cons_zero, List.set_cons_succ]
      refine wpAnyH_take (i := 2) (v := ?_) rfl (by kernel_rfl) (by kernel_rfl) (by kernel_rfl) (fun _ _ _ h => h) (Or.inl ⟨by rfl, ?_⟩) (by assumption) ?_
      rotate_left
      · intro w hSw; (try dsimp only at hSw); go_simp; try with_reducible rfl
      try simp only [Act.put, List.getElem_toArray, List.getElem_cons_succ, List.getElem_cons_zero, List.setIfInBounds_toArray, List.set_cons_zero, List.set_cons_succ]
      refine wpAnyH_take (i := 3) (v := ?_) rfl (by kernel_rfl) (by kernel_rfl) (by kernel_rfl) (fun _ _ _ h => h) (Or.inl ⟨by rfl, ?_⟩) (by assumption) ?_
      rotate_left
      · intro w hSw; (try dsimp only at hSw); go_simp; try with_reducible rfl
      try simp only [Act.put, List.getElem_toArray, List.getElem_cons_succ, List.getElem_cons_zero, List.setIfInBounds_toArray, List.set_cons_zero, List.set_cons_succ]
      refine wpAnyH_take (i := 4) (v := ?_) rfl (by kernel_rfl) (by kernel_rfl) (by kernel_rfl) (fun _ _ _ h => h) (Or.inl ⟨by rfl, ?_⟩) (by assumption) ?_
      rotate_left
      · intro w hSw; (try dsimp only at hSw); go_simp; try with_reducible rfl
      try simp only [Act.put, List.getElem_toArray, List.getElem_cons_succ, List.getElem_cons_zero, List.setIfInBounds_toArray, List.set_cons_zero, List.set_cons_succ]
      refine wpAnyH_take (i := 5) (v := ?_) rfl (by kernel_rfl) (by kernel_rfl) (by kernel_rfl) (fun _ _ _ h => h) (Or.inl ⟨by rfl, ?_⟩) (by assumption) ?_
      rotate_left
      · intro w hSw; (try dsimp only at hSw); go_simp; try with_reducible rfl
      try simp only [Act.put, List.getElem_toArray, List.getElem_cons_succ, List.getElem_cons_zero, List.setIfInBounds_toArray, List.set_cons_zero, List.set_cons_succ]
      refine wpAnyH_take (i := 6) (v := ?_) rfl (by kernel_rfl) (by kernel_rfl) (by kernel_rfl) (fun _ _ _ h => h) (Or.inl ⟨by rfl, ?_⟩) (by assumption) ?_
      rotate_left
      · intro w hSw; (try dsimp only at hSw); go_simp; try with_reducible rfl
      try simp only [Act.put, List.getElem_toArray, List.getElem_cons_succ, List.getElem_cons_zero, List.setIfInBounds_toArray, List.set_cons_zero, List.set_cons_succ]
      refine wpAnyH_ready (rs := [7]) (by kernel_rfl) (by simp) (AllReadyH.cons rfl (fun K hK => ?_) AllReadyH.nil)
      rw [if_pos (by rfl)]
      refine wp_append_src (.tmp 49) (.tmp 53) 27 rfl w.heap.size 43 i2 (.agg #[.string ⟨#[]⟩, .slice none 0 0]) 2 40 Tryz.underlying27 hi2 hz2 hy2 hq2 rfl (by decide) (.slice (some ⟨gk, 0, none⟩) i ck) (.slice (some A) (l.length - (i + 1)) (ck - (i + 1))) i (l.length - (i + 1)) _ _ (by simp [Act.eval]) HTK.out (by simp [Act.eval, hA]) hsrc.out HKL.out HONE.out (by unfold maxLen; omega) (by omega) hB2 ?_; intro v5 w5 hr5 hg5 hv5; obtain ⟨k5, b5⟩ := HER.out w5 v5 hr5 hg5; have K5 := Lib.hid k5; have B5 := Lib.hid b5; clear hr5 hg5 hv5 k5 b5
      refine hK.out _ _ ?_ (fun hHeld => ?_)
      · trivial
      clear hK K
      try simp only [Act.put, List.getElem_toArray, List.getElem_cons_succ, List.getElem_cons_zero, List.setIfInBounds_toArray, List.set_cons_zero, List.set_cons_succ]
      refine wpAnyH_take (i := 8) (v := ?_) rfl (by kernel_rfl) (by kernel_rfl) (by kernel_rfl) (fun _ _ _ h => h) (Or.inl ⟨by rfl, ?_⟩) (by assumption) ?_
      rotate_left
      · intro w hSw; (try dsimp only at hSw); go_simp; try with_reducible rfl
      try simp only [Act.put, List.getElem_toArray, List.getElem_cons_succ, List.getElem_cons_zero, List.setIfInBounds_toArray, List.set_cons_zero, List.set_cons_succ]
      refine wpAnyH_done (by kernel_rfl) ?_ _
      go_wp2
      go_ret
      exact ⟨_, _, rfl, K5.out.rd, hFIT.out, H4.out.below hg B5.out, grown_own G4.out B5.out⟩
    · -- one more
      have hbk := fun b hb => (HU4.out.2.1.lt b hb).1
      obtain ⟨u, hu⟩ : ∃ u, Value.slice (some ⟨gk, 0, none⟩) l.length ck = u := ⟨_, rfl⟩
      rw [hu] at HU4 hbk ⊢
      clear hu
      go_wp2_with fail
      refine (drawFilter_any H4.out).mono ?_
      rintro e w5 ⟨s, rfl, hs, h5, g5⟩
      have H5 := Lib.hid h5
      have G5 := Lib.hid (grown_trans G4.out g5)
      have HU5 := Lib.hid (HU4.out.thrown hg g5)
      clear h5 g5 H4 G4 HU4
      go_wp2_with fail
      refine (drawNum_any 99 (by omega) H5.out).mono ?_
      rintro e w6 ⟨x, rfl, h6, g6⟩
      have H6 := Lib.hid h6
      have G6 := Lib.hid (grown_trans G5.out g6)
      have HU6 := Lib.hid (HU5.out.thrown hg g6)
      have hw6 : w.heap.size ≤ w6.heap.size := G6.out.size
      clear h6 g6 H5 G5 HU5
      obtain ⟨i2, hi2, hz2, hy2, hq2⟩ := info_parts (P := Tryz.prog) (e := 43) (z := .agg #[.string ⟨#[]⟩, .slice none 0 0]) (size := 2) (bytes := 40) (by kernel_rfl)
      have hb1 : Below w6.heap.size w6 (w6.alloc (.cells #[.int .i64 x] 2)) := (Below.refl _ _).alloc (Nat.le_refl _) _
      have hb2 : Below (w6.alloc (.cells #[.int .i64 x] 2)).heap.size (w6.alloc (.cells #[.int .i64 x] 2)) ((w6.alloc (.cells #[.int .i64 x] 2)).alloc (.cells #[.string s, .slice (some ⟨w6.heap.size, 0, none⟩) 1 1] 43)) := (Below.refl _ _).alloc (Nat.le_refl _) _
      have HB8 := Lib.hid (hb1.trans (hb2.mono hb1.size))
      have HI8 := Lib.hid (row_below (World.ownsRow_lit (base := w.heap.size) (e := 2) (size := 1) w6 #[.int .i64 x] 1 hw6 (by unfold maxLen; omega) rfl) hb2)
      have HU8 := Lib.hid (HU6.out.below HB8.out)
      have HSX : Hid (SrcAt ((w6.alloc (.cells #[.int .i64 x] 2)).alloc (.cells #[.string s, .slice (some ⟨w6.heap.size, 0, none⟩) 1 1] 43)) (.slice (some ⟨w6.heap.size + 1, 0, none⟩) 1 1) 1 [.string s, .slice (some ⟨w6.heap.size, 0, none⟩) 1 1]) := Lib.hid ⟨_, _, rfl, .inr ⟨_, rfl, fun j u hu => by
        match j, hu with
        | 0, hu => cases hu; simp [Addr.add]
        | 1, hu => cases hu; simp [Addr.add]⟩⟩
      clear hb1 hb2 HU6
      go_wp2_with (at_builtin; refine wpList_append_src rfl (.tmp 57) (.tmp 64) 27 rfl w.heap.size 43 i2 (.agg #[.string ⟨#[]⟩, .slice none 0 0]) 2 40 Tryz.underlying27 hi2 hz2 hy2 hq2 rfl (by decide) _ _ l.length 1 (kcells l us) [.string s, .slice (some ⟨w6.heap.size, 0, none⟩) 1 1] rfl HU8.out.2.1 rfl HSX.out rfl (by intro u hu; simp at hu; rcases hu with rfl | rfl <;> rfl) (by unfold maxLen; omega) (by omega) (by simp; omega) ?_)
      intro v9 w9 hr9 hg9 _
      have hG : GrownL ((w6.alloc (.cells #[.int .i64 x] 2)).alloc (.cells #[.string s, .slice (some ⟨w6.heap.size, 0, none⟩) 1 1] 43)) w9 [u] := .grown (x := u) hg9 (by simp)
      have HK := Lib.hid (HU8.out.newKnot (x := (s, [x])) hG HI8.out hr9)
      have HB9 := Lib.hid ((HB8.out.mono hw6).trans (hG.toBelow (Nat.le_trans hw6 HB8.out.size) (fun y hy b hb => by rw [List.mem_singleton.1 hy] at hb; exact hbk b hb)))
      clear hr9 hg9 hG HU8 HI8 HSX HB8
      go_wp2
      go_ret
      exact ⟨_, _, rfl, HK.out, ((HF.out.mono (show 200 ≤ 250 by omega)).app (x := (s, [x])) (by show s.size ≤ _; omega) (by simp)).mono (by omega), H6.out.below hg HB9.out, grown_own G6.out HB9.out⟩
    · -- none
      have hA : Below w4.heap.size w4 (w4.alloc (.cells #[] 43)) := (Below.refl _ _).alloc (Nat.le_refl _) _
      have HK : Hid (KRd _ w.heap.size _ []) := Lib.hid ⟨[], rfl, (World.ownsRow_lit (base := w.heap.size) (e := 43) (size := 2) w4 #[] 0 hws (by unfold maxLen; omega) rfl), fun j h => absurd h (by simp)⟩
      have HC := Lib.hid (H4.out.below hg (hA.mono hws))
      have HG := Lib.hid (grown_own G4.out (hA.mono hws))
      clear hA
      go_wp2
      go_ret
      exact ⟨_, _, rfl, HK.out, ⟨Nat.zero_le _, fun x hx => by cases hx⟩, HC.out, HG.out⟩

end Go.Proofs.YtcpoodhbakkmcaaGreatDoor
