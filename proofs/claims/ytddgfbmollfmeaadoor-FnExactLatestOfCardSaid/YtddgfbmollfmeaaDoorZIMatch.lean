/- The walks of impl.coversByParts, impl.Matches and impl.Covers: who wants to hear it. -/
import Derived.Test.YtddgfbmollfmeaaDoorZIScan
import Derived.Test.YtddgfbmollfmeaaDoorZB2
set_option linter.unusedSimpArgs false
set_option linter.unusedVariables false
namespace Go.Proofs.YtddgfbmollfmeaaDoor
open Go.RowKit Go.Shelf

attribute [local go_sem] Oper.semAt_some

theorem boxed_below {W W' : World} {B : Nat} {t : TypeId} {v : Value} (h : Boxed W B t v) (hb : Below W.heap.size W W') : Boxed W' B t v := (hb.block B h.lt).trans h

set_option maxRecDepth 100000 in
set_option maxHeartbeats 2000000 in
/-- A walk over the pairs of parts. -/
theorem coversBy_any (a b : ByteArray) (F T : List ByteArray) (hF : parts a 47 = F) (hT : parts b 47 = T) (r : Bool) (hr : runC (uptoP F T (max F.length T.length)) = r) (m : Int) (w : World)
    (hsa : a.size ≤ 1048576) (hsb : b.size ≤ 1048576) (hm : w.cell? ⟨0, 0, none⟩ = some (.int .i64 m)) :
    Calls Tryd.prog 50 #[.string a, .string b] w fun e w' => e = .returned (.bool r) ∧ Below w.heap.size w w' := by
  have hlt : 0 < w.heap.size := World.block_lt_of_cell? _ _ hm
  have CA := Lib.hid (fun w' h => callsIn_wide (n := 2) |>.2 (implParts_any a m w' hsa h))
  have CB := Lib.hid (fun w' h => callsIn_wide (n := 2) |>.2 (implParts_any b m w' hsb h))
  have hpa := parts_pos a 47
  have hpb := parts_pos b 47
  have hla := parts_le a 47
  have hlb := parts_le b 47
  simp only [hF] at CA hpa hla
  simp only [hT] at CB hpb hlb
  have HM := Lib.hid hm
  have HR := Lib.hid hr
  clear hF hT hm hr
  refine (callsIn_wide (n := 3)).1 ?_
  refine callsIn_of_wp_marks Tryd.func50 rfl trivial ?_ rfl
  simp only [Tryd.ntmps50, List.size_toArray, List.length_cons, List.length_nil, Nat.reduceAdd, Nat.reduceSub, Array.replicate_succ, Array.replicate_zero, List.push_toArray, List.append_toArray, List.nil_append, List.cons_append]
  gi_wp2_with fail
  have b1 : Below w.heap.size w (w.alloc (.cells #[.bool false] 4)) := (Below.refl _ w).alloc (Nat.le_refl _) _
  have x1 := Boxed.new w 4 (.bool false)
  have s1 : (w.alloc (.cells #[.bool false] 4)).heap.size = w.heap.size + 1 := by simp
  generalize w.alloc (.cells #[.bool false] 4) = w1 at b1 x1 s1 ⊢
  have B1 := Lib.hid b1
  have hB1 : w.heap.size < w1.heap.size := by omega
  refine ⟨trivial, ?_⟩
  refine (CA.out w1 ((B1.out.cell hlt).trans HM.out)).mono ?_
  clear CA
  rintro e w2 ⟨v2, rfl, o2, b2⟩
  obtain ⟨ga, ca, rfl, hga1, hga2, hcF, _⟩ := row_open o2 hpa
  have HF := Lib.hid hcF
  have B2 := Lib.hid (below_end B1.out b2)
  have X2 := boxed_below x1 b2
  clear b2 o2 hcF
  gi_wp2_with fail
  refine ⟨trivial, ?_⟩
  refine (CB.out w2 ((B2.out.cell hlt).trans HM.out)).mono ?_
  clear CB
  rintro e w3 ⟨v3, rfl, o3, b3⟩
  obtain ⟨gb, cb, rfl, hgb1, hgb2, hcT, _⟩ := row_open o3 hpb
  have HT := Lib.hid hcT
  have HF3 : Hid (∀ j (hj : j < F.length), w3.cell? ⟨ga, j, none⟩ = some (.string F[j])) := Lib.hid (fun j hj => (below_cell b3 hga2).trans (HF.out j hj))
  have B3 := Lib.hid (below_end B2.out b3)
  have X3 := boxed_below X2 b3
  have hga3 : ga < w3.heap.size := Nat.lt_of_lt_of_le hga2 b3.size
  clear b3 o3 hcT HF B2 X2 x1
  gi_wp2_with fail
  refine ⟨trivial, ?_⟩
  refine (sides_in _ _ _ _ ⟨_, _, _, rfl⟩ ⟨_, _, _, rfl⟩).mono ?_
  rintro e w4 ⟨rfl, hw4⟩
  have b4 : Below w3.heap.size w3 w4 := by rw [hw4]; exact ((Below.refl _ _).alloc (Nat.le_refl _) _).alloc (by simp) _
  have s4 : w4.heap.size = w3.heap.size + 1 + 1 := by rw [hw4]; simp
  have ya : w4.cell? ⟨w3.heap.size, 0, none⟩ = some (.slice (some ⟨ga, 0, none⟩) F.length ca) := by rw [hw4]; exact ((Boxed.new w3 _ _).alloc _).cell
  have yb : w4.cell? ⟨w3.heap.size + 1, 0, none⟩ = some (.slice (some ⟨gb, 0, none⟩) T.length cb) := by
    rw [hw4]
    have := (Boxed.new (w3.alloc (.cells #[.slice (some ⟨ga, 0, none⟩) F.length ca] 72)) 72 (.slice (some ⟨gb, 0, none⟩) T.length cb)).cell
    rw [World.size_alloc] at this
    exact this
  have X4 := boxed_below X3 b4
  have hs3 := B3.out.size
  have B4 := Lib.hid (below_end B3.out b4)
  have HSQ := Lib.hid (scan_stops 2 (by omega) w3.heap.size (w3.heap.size + 1) w4.heap.size ga gb ca cb F T (by omega) (by omega) (by omega) (by omega) (by omega) (by omega) w4 (Nat.le_refl _) ya yb
    (fun j hj => (below_cell b4 hga3).trans (HF3.out j hj)) (fun j hj => (below_cell b4 hgb2).trans (HT.out j hj)))
  clear hw4 b4 X3 HF3 HT B3 ya yb
  gi_wp2_with fail
  refine wpIn_rangeFunc_ownG rfl (by omega) (gf := 61) (lb := #[.pointer (some ⟨w3.heap.size, 0, none⟩), .pointer (some ⟨w3.heap.size + 1, 0, none⟩)]) rfl trivial (enters_of Tryd.func61 (by kernel_rfl) rfl)
    HSQ.out belowK_t (belowK_b (Nat.le_refl _)) (Below.refl _ _) (fun _ => rfl)
    (fun pre W => ((∀ r, runC (pre ++ r) = runC r) ∧ W.cell? ⟨w.heap.size, 0, none⟩ = some (.bool false) ∧ W.frozen? ⟨w.heap.size, 0, none⟩ = false) ∧ Below w4.heap.size w4 W)
    (fun c pre W => (c = .ret ∧ ∃ v, (∀ r, runC (pre ++ r) = v) ∧ W.cell? ⟨w.heap.size, 0, none⟩ = some (.bool v)) ∧ Below w.heap.size w W)
    (OwnFrom.and (Own.from (fun s A B row hs hg hr => ⟨hs.1, cell_kept hs.2.1 hg hr, (frozen_kept hs.2.1 hg hr).trans hs.2.2⟩) _) (ownFrom_below (Nat.le_refl _) (Nat.le_refl _)))
    (fun c => OwnFrom.and (Own.from (fun s A B row hs hg hr => by obtain ⟨h1, v, h2, h3⟩ := hs; exact ⟨h1, v, h2, cell_kept h3 hg hr⟩) _) (ownFrom_below (Nat.le_refl _) B4.out.size))
    ⟨⟨fun _ => rfl, X4.cell, X4.frozen⟩, Below.refl _ _⟩
    (fun x => { tmps := #[.string a, .string b, undef, undef, .pointer (some ⟨w.heap.size, 0, none⟩), .string x.1, .string x.2, .string a, .slice (some ⟨ga, 0, none⟩) F.length ca, .string b, .slice (some ⟨gb, 0, none⟩) T.length cb, .func (.func 61) #[] #[.pointer (some ⟨w3.heap.size, 0, none⟩), .pointer (some ⟨w3.heap.size + 1, 0, none⟩)], .string x.1, .string x.2, undef, undef, undef, undef, undef, undef], defers := [] }) ?assign ?body ?done ?stop
  case assign =>
    intro l x W K hK
    gi_wp2
    exact hK
  case body =>
    rintro l pre ⟨p, q⟩ W ⟨⟨hrun, hc, hf⟩, hB⟩ _
    have HRUN := Lib.hid hrun
    have HB := Lib.hid hB
    have cw := Lib.hid (CallsIn.inRound l (callsIn_wide (n := 0) |>.2 (partCovers_any p q W)))
    have hBw : w.heap.size < W.heap.size := World.block_lt_of_cell? _ _ hc
    have hn4 := hB.size
    have BW := B4.out.trans (hB.mono B4.out.size)
    clear hrun hB
    dsimp only
    cases hA : isHash p
    · have hA2 : (p.toList == [35]) = false := hA
      cases hC : partC p q
      · rw [hC] at cw
        gi_wp2_with (refine ⟨trivial, ?_⟩; gi_at_call 58; refine cw.out.mono ?_; rintro e w5 ⟨rfl, b5⟩; have hc5 := (b5.cell (p := ⟨w.heap.size, 0, none⟩) hBw).trans hc; have hf5 := (b5.frozen (p := ⟨w.heap.size, 0, none⟩) hBw).trans hf)
        exact ⟨(keepsFrom_below b5 _).trans ((KeepsOthers.setCell _ _ _).from _), ⟨rfl, false, runC_no _ _ HRUN.out hA hC, World.cell?_setCell_same' _ _ _ (by rw [hc5]; rfl)⟩, (BW.trans (b5.mono BW.size)).setCell (p := ⟨w.heap.size, 0, none⟩) (Nat.le_refl _) _⟩
      · rw [hC] at cw
        gi_wp2_with (refine ⟨trivial, ?_⟩; gi_at_call 58; refine cw.out.mono ?_; rintro e w5 ⟨rfl, b5⟩; have hc5 := (b5.cell (p := ⟨w.heap.size, 0, none⟩) hBw).trans hc; have hf5 := (b5.frozen (p := ⟨w.heap.size, 0, none⟩) hBw).trans hf)
        exact ⟨keepsFrom_below b5 _, b5.mono hn4, ⟨runC_step _ _ HRUN.out hA hC, hc5, hf5⟩, HB.out.trans (b5.mono hn4)⟩
    · have hA2 : (p.toList == [35]) = true := hA
      gi_wp2
      exact ⟨(KeepsOthers.setCell _ _ _).from _, ⟨rfl, true, runC_yes _ _ HRUN.out hA, World.cell?_setCell_same' _ _ _ (by rw [hc]; rfl)⟩, BW.setCell (p := ⟨w.heap.size, 0, none⟩) (Nat.le_refl _) _⟩
  case done =>
    rintro D ys W hD rfl ⟨⟨hrun, hc, hf⟩, hB⟩ hK
    gi_wp2
    have hK' := (KeepsOthers.setCell W ⟨w.heap.size, 0, none⟩ (.bool true)).same D _ hK rfl
    refine ⟨by simp, .inl ⟨_, _, rfl, run_takeDeferred hK', ?_⟩⟩
    have hc5 := cell_kept (World.cell?_setCell_same' W ⟨w.heap.size, 0, none⟩ (.bool true) (by rw [hc]; rfl)) (grownBy_putObj' _ D (.deferred none)) (fun r e => by cases e; exact ⟨_, hK', rfl⟩)
    have hE : r = true := by rw [← HR.out]; have := hrun []; rw [List.append_nil] at this; rw [this]; rfl
    refine ⟨.bool true, ?_, by rw [hE], ((B4.out.trans (hB.mono B4.out.size)).setCell (p := ⟨w.heap.size, 0, none⟩) (Nat.le_refl _) _).trans (belowK_b (w := w) (Nat.le_refl _) _ D _ _ (by have := B4.out.size; omega) hK' rfl rfl)⟩
    simp [results, Tryd.f50, go_sem, hc5]
  case stop =>
    rintro D c pre W hD ⟨k, hk, rfl⟩ ⟨⟨rfl, v, hv, hc⟩, hB⟩ hK
    gi_wp2
    refine ⟨by simp, .inl ⟨_, _, rfl, run_takeDeferred hK, ?_⟩⟩
    have hc5 := cell_kept hc (grownBy_putObj' _ D (.deferred none)) (fun r e => by cases e; exact ⟨_, hK, rfl⟩)
    have hE : r = v := by
      obtain ⟨x, hx⟩ := uptoP_prefix F T hk
      rw [← HR.out, hx]; exact hv x
    refine ⟨.bool v, ?_, by rw [hE], hB.trans (belowK_b (w := w) (Nat.le_refl _) W D _ _ (by have := B4.out.size; omega) hK rfl rfl)⟩
    simp [results, Tryd.f50, go_sem, hc5]

set_option maxRecDepth 100000 in
set_option maxHeartbeats 1600000 in
theorem implMatches_any (f t : ByteArray) (m : Int) (w : World) (hf : f.size ≤ 1048576) (ht : t.size ≤ 1048576) (hm : w.cell? ⟨0, 0, none⟩ = some (.int .i64 m)) :
    Calls Tryd.prog 38 #[.string f, .string t] w fun e w' => e = .returned (.bool (matchB f t)) ∧ Below w.heap.size w w' := by
  have hlt : 0 < w.heap.size := World.block_lt_of_cell? _ _ hm
  have c1 := implFilter_any f m w hf hm
  have C2 := Lib.hid (fun w' h => implTopic_any t m w' ht h)
  have HM := Lib.hid hm
  obtain ⟨bf, hbf⟩ : ∃ b, filterP (parts f 47) = b := ⟨_, rfl⟩
  obtain ⟨bt, hbt⟩ : ∃ b, topicP (parts t 47) = b := ⟨_, rfl⟩
  rw [hbf] at c1
  rw [hbt] at C2
  have HF := Lib.hid hbf
  have HT := Lib.hid hbt
  clear hm hbf hbt
  cases bf
  · go_enter Tryd.func38, Tryd.ntmps38
    go_wp2_with fail
    refine c1.mono ?_
    rintro e w1 ⟨rfl, b1⟩
    clear c1
    go_wp2
    go_ret
    exact ⟨ret_bool (by rw [matchB, HF.out]; rfl), b1⟩
  · cases bt
    · go_enter Tryd.func38, Tryd.ntmps38
      go_wp2_with fail
      refine c1.mono ?_
      rintro e w1 ⟨rfl, b1⟩
      have B1 := Lib.hid b1
      clear c1 b1
      go_wp2_with fail
      refine (C2.out w1 ((B1.out.cell hlt).trans HM.out)).mono ?_
      rintro e w2 ⟨rfl, b2⟩
      have B2 := Lib.hid (below_end B1.out b2)
      clear b2 B1
      go_wp2
      go_ret
      exact ⟨ret_bool (by rw [matchB, HF.out, HT.out]; rfl), B2.out⟩
    · have C3 := Lib.hid (fun w' h => coversBy_any f t _ _ rfl rfl _ (runC_match _ _ (filterP_good HF.out) (topicP_good HT.out)) m w' hf ht h)
      have HE : Hid (matchB f t = matchP (parts f 47) (parts t 47)) := Lib.hid (by rw [matchB, HF.out, HT.out]; rfl)
      obtain ⟨r, hr⟩ : ∃ r, matchP (parts f 47) (parts t 47) = r := ⟨_, rfl⟩
      rw [hr] at C3 HE
      clear hr HF HT
      go_enter Tryd.func38, Tryd.ntmps38
      go_wp2_with fail
      refine c1.mono ?_
      rintro e w1 ⟨rfl, b1⟩
      have B1 := Lib.hid b1
      clear c1 b1
      go_wp2_with fail
      refine (C2.out w1 ((B1.out.cell hlt).trans HM.out)).mono ?_
      rintro e w2 ⟨rfl, b2⟩
      have B2 := Lib.hid (below_end B1.out b2)
      clear b2 B1 C2
      go_wp2_with fail
      refine (C3.out w2 ((B2.out.cell hlt).trans HM.out)).mono ?_
      rintro e w3 ⟨rfl, b3⟩
      have B3 := Lib.hid (below_end B2.out b3)
      clear b3 B2 C3
      go_wp2
      go_ret
      exact ⟨ret_bool HE.out.symm, B3.out⟩

end Go.Proofs.YtddgfbmollfmeaaDoor
