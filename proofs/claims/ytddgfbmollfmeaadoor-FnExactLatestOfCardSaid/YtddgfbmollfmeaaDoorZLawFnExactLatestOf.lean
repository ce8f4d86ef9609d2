/- The law FnExactLatestOf holds at every argument: for every input it returns true and leaves the input as it was. -/
import Derived.Test.YtddgfbmollfmeaaDoorZB1
import Derived.Test.YtddgfbmollfmeaaDoorZB5
import Derived.Test.YtddgfbmollfmeaaDoorZMsgR
import Derived.Test.YtddgfbmollfmeaaDoorZB2
import Derived.Test.YtddgfbmollfmeaaDoorZMPart
set_option linter.unusedSimpArgs false
set_option linter.unusedVariables false
namespace Go.Proofs.YtddgfbmollfmeaaDoor.lawFnExactLatestOf
open Go.ChangeShapes Go.WideShapes Go.ChangeAt Go.RowKit Go.WideMaps Go.WideElems
open Go.ChangeMaps (open_string shut_string)

set_option maxRecDepth 100000 in
set_option maxHeartbeats 3200000 in
theorem law (w : World) (cap : Int) (v : Value) (l : List MsgM) (hv : MsgsAt w v l) (hp : ∀ y ∈ l, y.2.2.1.size ≤ maxLen) (n : Int) (hn : (Lit.int .i64 n).wf = true) (f : ByteArray) (hf : f.size ≤ maxLen) (m : Int) (hm : w.cell? ⟨0, 0, none⟩ = some (.int .i64 m)) :
    Calls Tryd.prog 5 #[.agg #[.int .i64 cap, v], .int .i64 n, .string f] w fun e w' => e = .returned (.bool true) ∧ Below w.heap.size w w' := by
  have hn2 : n ≤ 9223372036854775807 := by unfold Lit.wf at hn; rw [Bool.and_eq_true] at hn; exact of_decide_eq_true hn.2
  have cz := fun wx (h : MsgsAt wx v l) => szRing_any cap v l 1048576 wx (by omega) (by omega) hp h
  have HV := Lib.hid hv
  unfold maxLen at hf
  by_cases hfl : 1048576 < f.size
  · obtain ⟨a, c, rfl, _, _, _⟩ := hv
    have g0 : decide ((1048576 : Int) < (f.size : Int)) = true := decide_eq_true (by omega)
    go_enter Tryd.func5, Tryd.ntmps5
    go_wp2
    go_ret
    exact ⟨rfl, (Below.refl _ _).alloc (Nat.le_refl _) _⟩
  have g0 : decide ((1048576 : Int) < (f.size : Int)) = false := decide_eq_false (by omega)
  have hf1 : f.size ≤ 1048576 := by omega
  by_cases hz : szMs l 1048576 < 0
  · have g1 : decide (szMs l 1048576 < 0) = true := decide_eq_true hz
    obtain ⟨a, c, rfl, _, _, _⟩ := hv
    go_enter Tryd.func5, Tryd.ntmps5
    go_wp2_with fail
    refine (cz _ (HV.out.alloc _)).mono ?_
    clear cz
    rintro e w1 ⟨rfl, b1⟩
    have B1 := Lib.hid (below_end ((Below.refl _ w).alloc (Nat.le_refl _) _) b1)
    clear b1
    go_wp2
    go_ret
    exact ⟨rfl, B1.out⟩
  have g1 : decide (szMs l 1048576 < 0) = false := decide_eq_false hz
  obtain ⟨hlen, hall⟩ := szMs_small (by omega) (show 0 ≤ szMs l 1048576 by omega)
  have hl : l.length ≤ 1048576 := by omega
  have hs : ∀ x ∈ l, x.2.2.1.size ≤ 1048576 := fun x hx => by have := hall x hx; omega
  obtain ⟨L, hL⟩ : ∃ L, latestM cap l n f = L := ⟨_, rfl⟩
  have hLl : L.length ≤ 1048576 := by have := latestM_len cap l n f; rw [hL] at this; omega
  have CT := Lib.hid (fun wx (h : MsgsAt wx v l) => toRing_any cap v l wx (by omega) h)
  have CS := Lib.hid (fun u wx (h : MsgsAt wx u l) => specLatest_any cap u l n f wx hl hs hf1 hn2 h)
  have CI := Lib.hid (fun u wx (h : MsgsAt wx u l) h2 => implLatest_any cap u l n f m wx hl hs hf1 hn2 h h2)
  have CQ := Lib.hid (fun u1 u2 wx (h1 : MsgsAt wx u1 l) (h2 : MsgsAt wx u2 l) => eqRing_any cap u1 u2 l wx (by omega) h1 h2)
  have CE := Lib.hid (fun u1 u2 wx (h1 : MsgsAt wx u1 L) (h2 : MsgsAt wx u2 L) => eqMsgs_any u1 u2 L wx (by omega) h1 h2)
  have CK := Lib.hid (fun u B wx (h : MOwn wx B u l) => markRing_any cap u l 1 B wx (Nat.le_refl _) (by omega) h)
  have HL8 := Lib.hid (show 1 + L.length * 4 ≤ 8000000 by omega)
  have CH := Lib.hid (fun u wx (h : MsgsAt wx u (mmarks 1 L.length)) => heldMsgs_any u 1 L.length wx (Nat.le_refl _) (by omega) h)
  simp only [hL] at CS CI
  obtain ⟨z, hz2⟩ : ∃ z, szMs l 1048576 = z := ⟨_, rfl⟩
  simp only [hz2] at g1 cz
  obtain ⟨kx, hkx⟩ : ∃ kx, ((1 + l.length * 4 : Nat) : Int) = kx := ⟨_, rfl⟩
  have g2 : decide (kx < 0) = false := decide_eq_false (by omega)
  simp only [hkx] at CK
  obtain ⟨ky, hky⟩ : ∃ ky, ((1 + L.length * 4 : Nat) : Int) = ky := ⟨_, rfl⟩
  have g3 : decide (ky < 0) = false := decide_eq_false (by omega)
  have g4 : (ky != ky) = false := by simp
  simp only [hky] at CH
  have HM := Lib.hid hm
  have hlt : 0 < w.heap.size := World.block_lt_of_cell? _ _ hm
  obtain ⟨a, c, rfl, _, _, _⟩ := hv
  clear hm hz hz2 hlen hall hl hs hp hL hLl hkx hf hf1 hfl hn hn2
  go_enter Tryd.func5, Tryd.ntmps5
  go_wp2_with fail
  have S0 := Lib.hid ((Held.start w).pushBox 24 #[.int .i64 cap, .slice a l.length c] (by simp))
  generalize w.alloc (.cells #[.int .i64 cap, .slice a l.length c] 24) = w0 at S0 ⊢
  refine (cz w0 (HV.out.below S0.out.bw)).mono ?_
  clear cz
  rintro e w1 ⟨rfl, b1⟩
  have S1 := Lib.hid (S0.out.below b1)
  clear b1 S0
  have d0_0 : w1.cell? ⟨w.heap.size, 0, none⟩ = some (.int .i64 cap) := S1.out.cell (b := (w.heap.size, 24, #[.int .i64 cap, .slice a l.length c])) (by simp) 0
  have d0_1 : w1.cell? ⟨w.heap.size, 1, none⟩ = some (.slice a l.length c) := S1.out.cell (b := (w.heap.size, 24, #[.int .i64 cap, .slice a l.length c])) (by simp) 1
  go_wp2_with fail
  refine (CT.out w1 (HV.out.below S1.out.bw)).mono ?_
  clear d0_0 d0_1
  rintro e w2 ⟨u2, rfl, k2, b2⟩
  have K2 := Lib.hid (own_msgs_at k2); obtain ⟨a2, c2, hu2⟩ := own_slice k2; subst hu2; clear k2
  have S2 := Lib.hid (S1.out.below b2)
  clear b2 S1
  have d0_0 : w2.cell? ⟨w.heap.size, 0, none⟩ = some (.int .i64 cap) := S2.out.cell (b := (w.heap.size, 24, #[.int .i64 cap, .slice a l.length c])) (by simp) 0
  have d0_1 : w2.cell? ⟨w.heap.size, 1, none⟩ = some (.slice a l.length c) := S2.out.cell (b := (w.heap.size, 24, #[.int .i64 cap, .slice a l.length c])) (by simp) 1
  go_wp2_with fail
  refine (CS.out _ w2 K2.out).mono ?_
  clear d0_0 d0_1
  rintro e w3 ⟨u3, rfl, k3, b3⟩
  obtain ⟨a3, c3, hu3⟩ := own_slice k3; subst hu3
  have S3 := Lib.hid (S2.out.pushRow b3 k3 (by simp))
  clear b3 S2
  have d0_0 : w3.cell? ⟨w.heap.size, 0, none⟩ = some (.int .i64 cap) := S3.out.cell (b := (w.heap.size, 24, #[.int .i64 cap, .slice a l.length c])) (by simp) 0
  have d0_1 : w3.cell? ⟨w.heap.size, 1, none⟩ = some (.slice a l.length c) := S3.out.cell (b := (w.heap.size, 24, #[.int .i64 cap, .slice a l.length c])) (by simp) 1
  clear K2
  go_wp2_with fail
  refine (CT.out w3 (HV.out.below S3.out.bw)).mono ?_
  clear d0_0 d0_1
  rintro e w4 ⟨u4, rfl, k4, b4⟩
  obtain ⟨a4, c4, hu4⟩ := own_slice k4; subst hu4
  have S4 := Lib.hid (S3.out.pushRow b4 k4 (by simp))
  clear b4 S3
  have d0_0 : w4.cell? ⟨w.heap.size, 0, none⟩ = some (.int .i64 cap) := S4.out.cell (b := (w.heap.size, 24, #[.int .i64 cap, .slice a l.length c])) (by simp) 0
  have d0_1 : w4.cell? ⟨w.heap.size, 1, none⟩ = some (.slice a l.length c) := S4.out.cell (b := (w.heap.size, 24, #[.int .i64 cap, .slice a l.length c])) (by simp) 1
  go_wp2_with fail
  clear d0_0 d0_1
  have S5 := Lib.hid (S4.out.pushBox 29 #[.int .i64 cap, .slice a4 l.length c4] (by simp))
  generalize hw5 : w4.alloc (.cells #[.int .i64 cap, .slice a4 l.length c4] 29) = w5 at S5 ⊢
  obtain ⟨G5, hG5⟩ : ∃ G, w4.heap.size = G := ⟨_, rfl⟩
  rw [hG5] at S5 ⊢
  clear hG5 hw5 S4
  have d0_0 : w5.cell? ⟨G5, 0, none⟩ = some (.int .i64 cap) := S5.out.cell (b := (G5, 29, #[.int .i64 cap, .slice a4 l.length c4])) (by simp) 0
  have d0_1 : w5.cell? ⟨G5, 1, none⟩ = some (.slice a4 l.length c4) := S5.out.cell (b := (G5, 29, #[.int .i64 cap, .slice a4 l.length c4])) (by simp) 1
  have d1_0 : w5.cell? ⟨w.heap.size, 0, none⟩ = some (.int .i64 cap) := S5.out.cell (b := (w.heap.size, 24, #[.int .i64 cap, .slice a l.length c])) (by simp) 0
  have d1_1 : w5.cell? ⟨w.heap.size, 1, none⟩ = some (.slice a l.length c) := S5.out.cell (b := (w.heap.size, 24, #[.int .i64 cap, .slice a l.length c])) (by simp) 1
  go_wp2_with fail
  refine (CI.out _ w5 (own_msgs_at (show MOwn w5 w3.heap.size (.slice a4 l.length c4) l from (S5.out.row ⟨w3.heap.size, 38, 4, (.slice a4 l.length c4), l.length, mcells l⟩ (by simp)).1)) ((S5.out.bw.cell hlt).trans HM.out)).mono ?_
  clear d0_0 d0_1 d1_0 d1_1
  rintro e w6 ⟨V6, u6, pre6, post6, rfl, k6, pt6, b6⟩
  obtain ⟨X6, Y6, hX6, hY6, at6, mk6, my6⟩ := part_kit (post := post6) pt6 HL8.out
  obtain ⟨a6, c6, hu6⟩ := pt6.slice; subst hu6
  simp only [hky] at mk6
  rw [hX6] at k6
  have AT6 := Lib.hid at6
  have MK6 := Lib.hid mk6
  have MY6 := Lib.hid my6
  have HY6 := Lib.hid hY6
  clear at6 mk6 my6 hY6 hX6 pt6
  have S6 := Lib.hid (S5.out.pushRow b6 k6 (by simp))
  clear b6 S5
  have d0_0 : w6.cell? ⟨G5, 0, none⟩ = some (.int .i64 cap) := S6.out.cell (b := (G5, 29, #[.int .i64 cap, .slice a4 l.length c4])) (by simp) 0
  have d0_1 : w6.cell? ⟨G5, 1, none⟩ = some (.slice a4 l.length c4) := S6.out.cell (b := (G5, 29, #[.int .i64 cap, .slice a4 l.length c4])) (by simp) 1
  have d1_0 : w6.cell? ⟨w.heap.size, 0, none⟩ = some (.int .i64 cap) := S6.out.cell (b := (w.heap.size, 24, #[.int .i64 cap, .slice a l.length c])) (by simp) 0
  have d1_1 : w6.cell? ⟨w.heap.size, 1, none⟩ = some (.slice a l.length c) := S6.out.cell (b := (w.heap.size, 24, #[.int .i64 cap, .slice a l.length c])) (by simp) 1
  go_wp2_with fail
  refine (CE.out _ _ w6 (AT6.out _ _ (show MOwn w6 w5.heap.size V6 X6 from (S6.out.row ⟨w5.heap.size, 38, 4, V6, X6.length, mcells X6⟩ (by simp)).1)) (own_msgs_at (show MOwn w6 w2.heap.size (.slice a3 L.length c3) L from (S6.out.row ⟨w2.heap.size, 38, 4, (.slice a3 L.length c3), L.length, mcells L⟩ (by simp)).1))).mono ?_
  clear d0_0 d0_1 d1_0 d1_1
  rintro e w7 ⟨rfl, b7⟩
  have S7 := Lib.hid (S6.out.below b7)
  clear b7 S6
  have d0_0 : w7.cell? ⟨G5, 0, none⟩ = some (.int .i64 cap) := S7.out.cell (b := (G5, 29, #[.int .i64 cap, .slice a4 l.length c4])) (by simp) 0
  have d0_1 : w7.cell? ⟨G5, 1, none⟩ = some (.slice a4 l.length c4) := S7.out.cell (b := (G5, 29, #[.int .i64 cap, .slice a4 l.length c4])) (by simp) 1
  have d1_0 : w7.cell? ⟨w.heap.size, 0, none⟩ = some (.int .i64 cap) := S7.out.cell (b := (w.heap.size, 24, #[.int .i64 cap, .slice a l.length c])) (by simp) 0
  have d1_1 : w7.cell? ⟨w.heap.size, 1, none⟩ = some (.slice a l.length c) := S7.out.cell (b := (w.heap.size, 24, #[.int .i64 cap, .slice a l.length c])) (by simp) 1
  go_wp2_with fail
  have SD := S7.out.below (show Below w7.heap.size w7 w7.drew from (Below.refl _ _).drew)
  clear d0_0 d0_1 d1_0 d1_1
  refine wp_region_held_drew (S := fun wx => wx.cell? ⟨G5, 0, none⟩ = some (.int .i64 cap) ∧ wx.cell? ⟨G5, 1, none⟩ = some (.slice a4 l.length c4) ∧ wx.cell? ⟨w.heap.size, 0, none⟩ = some (.int .i64 cap) ∧ wx.cell? ⟨w.heap.size, 1, none⟩ = some (.slice a l.length c)) (by kernel_rfl) ?_ (fun hHeld => ?_)
  · exact ⟨SD.cell (b := (G5, 29, #[.int .i64 cap, .slice a4 l.length c4])) (by simp) 0, SD.cell (b := (G5, 29, #[.int .i64 cap, .slice a4 l.length c4])) (by simp) 1, SD.cell (b := (w.heap.size, 24, #[.int .i64 cap, .slice a l.length c])) (by simp) 0, SD.cell (b := (w.heap.size, 24, #[.int .i64 cap, .slice a l.length c])) (by simp) 1⟩
  change wpAnyH _ _ _ _ _ 5 #[false, false, false, false, false] _ _
  have SD := Lib.hid SD
  refine wpAnyH_take (i := 0) (v := ?_) rfl (by kernel_rfl) (by kernel_rfl) (by kernel_rfl) (fun _ _ _ h => h) (Or.inl ⟨by rfl, ?_⟩) (by assumption) ?_
  rotate_left
  · intro w hSw; (try dsimp only at hSw); go_simp; try with_reducible rfl
  try simp only [Act.put, List.getElem_toArray, List.getElem_cons_succ, List.getElem_cons_zero, List.setIfInBounds_toArray, List.set_cons_zero, List.set_cons_succ]
  refine wpAnyH_take (i := 1) (v := ?_) rfl (by kernel_rfl) (by kernel_rfl) (by kernel_rfl) (fun _ _ _ h => h) (Or.inl ⟨by rfl, ?_⟩) (by assumption) ?_
  rotate_left
  · intro w hSw; (try dsimp only at hSw); go_simp; try with_reducible rfl
  try simp only [Act.put, List.getElem_toArray, List.getElem_cons_succ, List.getElem_cons_zero, List.setIfInBounds_toArray, List.set_cons_zero, List.set_cons_succ]
  refine wpAnyH_ready (rs := [2]) (by kernel_rfl) (by simp) (AllReadyH.cons rfl (fun K hK => ?_) AllReadyH.nil)
  rw [if_pos (by rfl)]
  go_simp; go_at_call 8; refine (CT.out _ (HV.out.below SD.out.bw)).mono ?_; rintro e w8 ⟨u8, rfl, k8, b8⟩; obtain ⟨a8, c8, hu8⟩ := own_slice k8; subst hu8; have S8 := Lib.hid (SD.out.below b8); go_wp2_with fail
  refine hK.out _ _ ?_ (fun hHeld => ?_)
  · exact ⟨S8.out.cell (b := (G5, 29, #[.int .i64 cap, .slice a4 l.length c4])) (by simp) 0, S8.out.cell (b := (G5, 29, #[.int .i64 cap, .slice a4 l.length c4])) (by simp) 1, S8.out.cell (b := (w.heap.size, 24, #[.int .i64 cap, .slice a l.length c])) (by simp) 0, S8.out.cell (b := (w.heap.size, 24, #[.int .i64 cap, .slice a l.length c])) (by simp) 1⟩
  clear hK K
  try simp only [Act.put, List.getElem_toArray, List.getElem_cons_succ, List.getElem_cons_zero, List.setIfInBounds_toArray, List.set_cons_zero, List.set_cons_succ]
  have K8 := Lib.hid (own_msgs_at k8)
  clear k8 b8
  refine wpAnyH_ready (rs := [3]) (by kernel_rfl) (by simp) (AllReadyH.cons rfl (fun K hK => ?_) AllReadyH.nil)
  rw [if_pos (by rfl)]
  go_simp; go_at_call 10; refine (CQ.out _ _ _ (own_msgs_at (show MOwn w8 w3.heap.size (.slice a4 l.length c4) l from (S8.out.row ⟨w3.heap.size, 38, 4, (.slice a4 l.length c4), l.length, mcells l⟩ (by simp)).1)) K8.out).mono ?_; rintro e w9 ⟨rfl, b9⟩; have S9 := Lib.hid (S8.out.below b9); go_wp2_with fail
  refine hK.out _ _ ?_ (fun hHeld => ?_)
  · exact ⟨S9.out.cell (b := (G5, 29, #[.int .i64 cap, .slice a4 l.length c4])) (by simp) 0, S9.out.cell (b := (G5, 29, #[.int .i64 cap, .slice a4 l.length c4])) (by simp) 1, S9.out.cell (b := (w.heap.size, 24, #[.int .i64 cap, .slice a l.length c])) (by simp) 0, S9.out.cell (b := (w.heap.size, 24, #[.int .i64 cap, .slice a l.length c])) (by simp) 1⟩
  clear hK K
  try simp only [Act.put, List.getElem_toArray, List.getElem_cons_succ, List.getElem_cons_zero, List.setIfInBounds_toArray, List.set_cons_zero, List.set_cons_succ]
  refine wpAnyH_take (i := 4) (v := ?_) rfl (by kernel_rfl) (by kernel_rfl) (by kernel_rfl) (fun _ _ _ h => h) (Or.inl ⟨by rfl, ?_⟩) (by assumption) ?_
  rotate_left
  · intro w hSw; (try dsimp only at hSw); go_simp; try with_reducible rfl
  try simp only [Act.put, List.getElem_toArray, List.getElem_cons_succ, List.getElem_cons_zero, List.setIfInBounds_toArray, List.set_cons_zero, List.set_cons_succ]
  refine wpAnyH_done (by kernel_rfl) ?_ _
  clear hHeld b9 S8 K8 SD S7
  have d0_0 : w9.cell? ⟨G5, 0, none⟩ = some (.int .i64 cap) := S9.out.cell (b := (G5, 29, #[.int .i64 cap, .slice a4 l.length c4])) (by simp) 0
  have d0_1 : w9.cell? ⟨G5, 1, none⟩ = some (.slice a4 l.length c4) := S9.out.cell (b := (G5, 29, #[.int .i64 cap, .slice a4 l.length c4])) (by simp) 1
  have d1_0 : w9.cell? ⟨w.heap.size, 0, none⟩ = some (.int .i64 cap) := S9.out.cell (b := (w.heap.size, 24, #[.int .i64 cap, .slice a l.length c])) (by simp) 0
  have d1_1 : w9.cell? ⟨w.heap.size, 1, none⟩ = some (.slice a l.length c) := S9.out.cell (b := (w.heap.size, 24, #[.int .i64 cap, .slice a l.length c])) (by simp) 1
  go_wp2_with fail
  refine (CK.out _ _ _ (show MOwn w9 w3.heap.size (.slice a4 l.length c4) l from (S9.out.row ⟨w3.heap.size, 38, 4, (.slice a4 l.length c4), l.length, mcells l⟩ (by simp)).1)).mono ?_
  clear d0_0 d0_1 d1_0 d1_1
  rintro e w10 ⟨rfl, k10, g10⟩
  have b10 := trivial
  have S10 := Lib.hid (S9.out.mark 1 (by simp) rfl g10 (mcells (mmarks 1 l.length)) (by have h := k10; unfold MOwn at h; rw [mmarks_length] at h; exact h))
  clear b10 S9
  have d0_0 : w10.cell? ⟨G5, 0, none⟩ = some (.int .i64 cap) := S10.out.cell (b := (G5, 29, #[.int .i64 cap, .slice a4 l.length c4])) (by simp) 0
  have d0_1 : w10.cell? ⟨G5, 1, none⟩ = some (.slice a4 l.length c4) := S10.out.cell (b := (G5, 29, #[.int .i64 cap, .slice a4 l.length c4])) (by simp) 1
  have d1_0 : w10.cell? ⟨w.heap.size, 0, none⟩ = some (.int .i64 cap) := S10.out.cell (b := (w.heap.size, 24, #[.int .i64 cap, .slice a l.length c])) (by simp) 0
  have d1_1 : w10.cell? ⟨w.heap.size, 1, none⟩ = some (.slice a l.length c) := S10.out.cell (b := (w.heap.size, 24, #[.int .i64 cap, .slice a l.length c])) (by simp) 1
  simp only [List.set_cons_succ, List.set_cons_zero, List.getElem_cons_succ, List.getElem_cons_zero] at S10
  go_wp2_with fail
  refine (CE.out _ _ w10 (AT6.out _ _ (show MOwn w10 w5.heap.size V6 X6 from (S10.out.row ⟨w5.heap.size, 38, 4, V6, X6.length, mcells X6⟩ (by simp)).1)) (own_msgs_at (show MOwn w10 w2.heap.size (.slice a3 L.length c3) L from (S10.out.row ⟨w2.heap.size, 38, 4, (.slice a3 L.length c3), L.length, mcells L⟩ (by simp)).1))).mono ?_
  clear d0_0 d0_1 d1_0 d1_1
  rintro e w11 ⟨rfl, b11⟩
  have S11 := Lib.hid (S10.out.below b11)
  clear b11 S10
  have d0_0 : w11.cell? ⟨G5, 0, none⟩ = some (.int .i64 cap) := S11.out.cell (b := (G5, 29, #[.int .i64 cap, .slice a4 l.length c4])) (by simp) 0
  have d0_1 : w11.cell? ⟨G5, 1, none⟩ = some (.slice a4 l.length c4) := S11.out.cell (b := (G5, 29, #[.int .i64 cap, .slice a4 l.length c4])) (by simp) 1
  have d1_0 : w11.cell? ⟨w.heap.size, 0, none⟩ = some (.int .i64 cap) := S11.out.cell (b := (w.heap.size, 24, #[.int .i64 cap, .slice a l.length c])) (by simp) 0
  have d1_1 : w11.cell? ⟨w.heap.size, 1, none⟩ = some (.slice a l.length c) := S11.out.cell (b := (w.heap.size, 24, #[.int .i64 cap, .slice a l.length c])) (by simp) 1
  go_wp2_with fail
  refine (MK6.out _ _ (show MOwn w11 w5.heap.size V6 X6 from (S11.out.row ⟨w5.heap.size, 38, 4, V6, X6.length, mcells X6⟩ (by simp)).1)).mono ?_
  clear d0_0 d0_1 d1_0 d1_1
  rintro e w12 ⟨rfl, k12, g12⟩
  have b12 := trivial
  have S12 := Lib.hid (S11.out.mark 0 (by simp) rfl g12 (mcells Y6) (by have h := k12; unfold MOwn at h; rw [HY6.out] at h; exact h))
  clear b12 S11
  have d0_0 : w12.cell? ⟨G5, 0, none⟩ = some (.int .i64 cap) := S12.out.cell (b := (G5, 29, #[.int .i64 cap, .slice a4 l.length c4])) (by simp) 0
  have d0_1 : w12.cell? ⟨G5, 1, none⟩ = some (.slice a4 l.length c4) := S12.out.cell (b := (G5, 29, #[.int .i64 cap, .slice a4 l.length c4])) (by simp) 1
  have d1_0 : w12.cell? ⟨w.heap.size, 0, none⟩ = some (.int .i64 cap) := S12.out.cell (b := (w.heap.size, 24, #[.int .i64 cap, .slice a l.length c])) (by simp) 0
  have d1_1 : w12.cell? ⟨w.heap.size, 1, none⟩ = some (.slice a l.length c) := S12.out.cell (b := (w.heap.size, 24, #[.int .i64 cap, .slice a l.length c])) (by simp) 1
  simp only [List.set_cons_succ, List.set_cons_zero, List.getElem_cons_succ, List.getElem_cons_zero] at S12
  go_wp2_with fail
  refine (CH.out _ w12 (MY6.out _ _ (show MOwn w12 w5.heap.size V6 Y6 from by have h := (S12.out.row ⟨w5.heap.size, 38, 4, V6, X6.length, mcells Y6⟩ (by simp)).1; unfold MOwn; rw [HY6.out]; exact h))).mono ?_
  clear d0_0 d0_1 d1_0 d1_1
  rintro e w13 ⟨rfl, b13⟩
  have S13 := Lib.hid (S12.out.below b13)
  clear b13 S12
  have d0_0 : w13.cell? ⟨G5, 0, none⟩ = some (.int .i64 cap) := S13.out.cell (b := (G5, 29, #[.int .i64 cap, .slice a4 l.length c4])) (by simp) 0
  have d0_1 : w13.cell? ⟨G5, 1, none⟩ = some (.slice a4 l.length c4) := S13.out.cell (b := (G5, 29, #[.int .i64 cap, .slice a4 l.length c4])) (by simp) 1
  have d1_0 : w13.cell? ⟨w.heap.size, 0, none⟩ = some (.int .i64 cap) := S13.out.cell (b := (w.heap.size, 24, #[.int .i64 cap, .slice a l.length c])) (by simp) 0
  have d1_1 : w13.cell? ⟨w.heap.size, 1, none⟩ = some (.slice a l.length c) := S13.out.cell (b := (w.heap.size, 24, #[.int .i64 cap, .slice a l.length c])) (by simp) 1
  go_wp2_with fail
  refine (CT.out w13 (HV.out.below S13.out.bw)).mono ?_
  clear d0_0 d0_1 d1_0 d1_1
  rintro e w14 ⟨u14, rfl, k14, b14⟩
  have K14 := Lib.hid (own_msgs_at k14); obtain ⟨a14, c14, hu14⟩ := own_slice k14; subst hu14; clear k14
  have S14 := Lib.hid (S13.out.below b14)
  clear b14 S13
  have d0_0 : w14.cell? ⟨G5, 0, none⟩ = some (.int .i64 cap) := S14.out.cell (b := (G5, 29, #[.int .i64 cap, .slice a4 l.length c4])) (by simp) 0
  have d0_1 : w14.cell? ⟨G5, 1, none⟩ = some (.slice a4 l.length c4) := S14.out.cell (b := (G5, 29, #[.int .i64 cap, .slice a4 l.length c4])) (by simp) 1
  have d1_0 : w14.cell? ⟨w.heap.size, 0, none⟩ = some (.int .i64 cap) := S14.out.cell (b := (w.heap.size, 24, #[.int .i64 cap, .slice a l.length c])) (by simp) 0
  have d1_1 : w14.cell? ⟨w.heap.size, 1, none⟩ = some (.slice a l.length c) := S14.out.cell (b := (w.heap.size, 24, #[.int .i64 cap, .slice a l.length c])) (by simp) 1
  go_wp2_with fail
  refine (CI.out _ w14 K14.out ((S14.out.bw.cell hlt).trans HM.out)).mono ?_
  clear d0_0 d0_1 d1_0 d1_1
  rintro e w15 ⟨V15, u15, pre15, post15, rfl, k15, pt15, b15⟩
  have K15 := Lib.hid (part_at k15 pt15); obtain ⟨a15, c15, hu15⟩ := pt15.slice; subst hu15; clear k15 pt15 K14
  have S15 := Lib.hid (S14.out.below b15)
  clear b15 S14
  have d0_0 : w15.cell? ⟨G5, 0, none⟩ = some (.int .i64 cap) := S15.out.cell (b := (G5, 29, #[.int .i64 cap, .slice a4 l.length c4])) (by simp) 0
  have d0_1 : w15.cell? ⟨G5, 1, none⟩ = some (.slice a4 l.length c4) := S15.out.cell (b := (G5, 29, #[.int .i64 cap, .slice a4 l.length c4])) (by simp) 1
  have d1_0 : w15.cell? ⟨w.heap.size, 0, none⟩ = some (.int .i64 cap) := S15.out.cell (b := (w.heap.size, 24, #[.int .i64 cap, .slice a l.length c])) (by simp) 0
  have d1_1 : w15.cell? ⟨w.heap.size, 1, none⟩ = some (.slice a l.length c) := S15.out.cell (b := (w.heap.size, 24, #[.int .i64 cap, .slice a l.length c])) (by simp) 1
  go_wp2_with fail
  refine (CE.out _ _ w15 K15.out (own_msgs_at (show MOwn w15 w2.heap.size (.slice a3 L.length c3) L from (S15.out.row ⟨w2.heap.size, 38, 4, (.slice a3 L.length c3), L.length, mcells L⟩ (by simp)).1))).mono ?_
  clear d0_0 d0_1 d1_0 d1_1
  rintro e w16 ⟨rfl, b16⟩
  have S16 := Lib.hid (S15.out.below b16)
  clear b16 S15
  have d0_0 : w16.cell? ⟨G5, 0, none⟩ = some (.int .i64 cap) := S16.out.cell (b := (G5, 29, #[.int .i64 cap, .slice a4 l.length c4])) (by simp) 0
  have d0_1 : w16.cell? ⟨G5, 1, none⟩ = some (.slice a4 l.length c4) := S16.out.cell (b := (G5, 29, #[.int .i64 cap, .slice a4 l.length c4])) (by simp) 1
  have d1_0 : w16.cell? ⟨w.heap.size, 0, none⟩ = some (.int .i64 cap) := S16.out.cell (b := (w.heap.size, 24, #[.int .i64 cap, .slice a l.length c])) (by simp) 0
  have d1_1 : w16.cell? ⟨w.heap.size, 1, none⟩ = some (.slice a l.length c) := S16.out.cell (b := (w.heap.size, 24, #[.int .i64 cap, .slice a l.length c])) (by simp) 1
  go_wp2_with fail
  refine (CH.out _ w16 (MY6.out _ _ (show MOwn w16 w5.heap.size V6 Y6 from by have h := (S16.out.row ⟨w5.heap.size, 38, 4, V6, X6.length, mcells Y6⟩ (by simp)).1; unfold MOwn; rw [HY6.out]; exact h))).mono ?_
  clear d0_0 d0_1 d1_0 d1_1
  rintro e w17 ⟨rfl, b17⟩
  have S17 := Lib.hid (S16.out.below b17)
  clear b17 S16
  have d0_0 : w17.cell? ⟨G5, 0, none⟩ = some (.int .i64 cap) := S17.out.cell (b := (G5, 29, #[.int .i64 cap, .slice a4 l.length c4])) (by simp) 0
  have d0_1 : w17.cell? ⟨G5, 1, none⟩ = some (.slice a4 l.length c4) := S17.out.cell (b := (G5, 29, #[.int .i64 cap, .slice a4 l.length c4])) (by simp) 1
  have d1_0 : w17.cell? ⟨w.heap.size, 0, none⟩ = some (.int .i64 cap) := S17.out.cell (b := (w.heap.size, 24, #[.int .i64 cap, .slice a l.length c])) (by simp) 0
  have d1_1 : w17.cell? ⟨w.heap.size, 1, none⟩ = some (.slice a l.length c) := S17.out.cell (b := (w.heap.size, 24, #[.int .i64 cap, .slice a l.length c])) (by simp) 1
  go_wp2
  go_ret
  exact ⟨rfl, S17.out.bw⟩

set_option maxRecDepth 100000 in
theorem contract (H : Type) (enc : TypeId × Value → H) (W : World) (base : Nat) (args : Array Value) (ds gs : List (DataW H)) (before : List MemPlace)
    (hval : ∀ (j : Nat) t v, Tryd.f5.params[j]? = some t → args[j]? = some v → Value.okWide Tryd.prog W .any base t v)
    (hW : DataW.Whole enc Tryd.prog Tryd.f5.params.toList Rows.fnExactLatestOfSpec.vars false W args.toList ds gs before) (hsh : W.ShapedOpen Tryd.prog) :
    Calls Tryd.prog 5 args W fun e W' => ∃ v, e = .returned v ∧ Rows.fnExactLatestOfSpec.post enc Tryd.prog Tryd.f5 false true false false W args v W' := by
  have hW' := hW
  obtain ⟨p, q, hA0, hV, rfl, hfz, hnd⟩ := hW
  have hA : DataW.TrodAll enc Tryd.prog W 0 (fun _ => true) true Tryd.f5.params.toList args.toList ds p := hA0
  rw [Tryd.params5] at hA hval
  obtain ⟨v0, vs0, d0, ds0, p0, q0, hargs, rfl, rfl, h0, r0⟩ := trodAll_cons hA
  obtain ⟨v1, vs1, d1, ds1, p1, q1, rfl, rfl, rfl, h1, r1⟩ := trodAll_cons r0
  obtain ⟨v2, vs2, d2, ds2, p2, q2, rfl, rfl, rfl, h2, r2⟩ := trodAll_cons r1
  obtain ⟨rfl, rfl, rfl⟩ := trodAll_nil r2
  obtain rfl : args = #[v0, v1, v2] := by cases args; simp_all
  obtain ⟨rfl, rfl⟩ := trodVars_none hV
  obtain ⟨cs0, rfl, cz0⟩ := okWide_struct Tryd.underlying24 (hval 0 24 v0 rfl rfl)
  have k0 := h0
  have lt0 : ∀ x ∈ p0, x.block < W.heap.size := by obtain ⟨m, hm⟩ := k0; exact DataW.trod_lt m _ _ _ hm
  have w0 : ∃ c v l, cs0 = #[.int .i64 c, v] ∧ MsgsAt W v l ∧ ∀ y ∈ l, y.2.2.1.size ≤ maxLen := by
    obtain ⟨fuel, hf⟩ := h0
    obtain ⟨c, v, l, e, hk, hs⟩ := ring_read Tryd.underlying24 (by kernel_rfl) ⟨rfl, rfl⟩ ⟨rfl, rfl⟩ (by kernel_rfl) Tryd.underlying22 Tryd.underlying34 (by kernel_rfl) ⟨rfl, rfl⟩ ⟨rfl, rfl⟩ ⟨rfl, rfl⟩ ⟨rfl, rfl⟩ Tryd.underlying2 (by kernel_rfl) Tryd.underlying9 (by kernel_rfl) hf
    exact ⟨c, v, l, Array.toList_inj.1 e, hk, hs⟩
  obtain ⟨c0, v0, l0, rfl, w0, s0⟩ := w0
  obtain ⟨a1, rfl, rfl, rfl, w1⟩ := open_int Tryd.underlying2 (hval 1 2 v1 rfl rfl) h1
  obtain ⟨a2, rfl, rfl, rfl, w2⟩ := open_string Tryd.underlying9 (hval 2 9 v2 rfl rfl) h2
  clear hA0
  simp only [List.append_nil] at hW'
  obtain ⟨m, hm⟩ := maxLen_cell hsh
  refine (law W c0 v0 l0 w0 s0 a1 w1 a2 w2 m hm).mono fun e W' ⟨he, hg⟩ => ?_
  subst he
  exact ⟨_, rfl, _, _, _, [], _, [], hW', trodAll_cons_mk (shut_bool Tryd.underlying4 _) trodAll_mk0, trodAll_cons_mk (Below.trod laidOut (by kernel_rfl) (of_decide_eq_true (by kernel_rfl)) k0 hg lt0) (trodAll_cons_mk (shut_int Tryd.underlying2 w1) (trodAll_cons_mk (shut_string Tryd.underlying9 w2) (trodAll_mk0))), rfl, hg.frame _, fun h => by cases h⟩

theorem reads (os : Os) {H : Type} (enc : TypeId × Value → H) : ∃ places, DataW.whole enc Tryd.prog ((World.laidAll Tryd.prog os Rows.fnExactLatestOfRow.laid).forCall (fun _ _ => 0) ⟨#[], #[(.agg #[.int .i64 0, .slice none 0 0] : Value), (.int .i64 0 : Value), (.string ByteArray.empty : Value)], []⟩).memory Tryd.f5.params.toList Rows.fnExactLatestOfSpec.vars false (#[(.agg #[.int .i64 0, .slice none 0 0] : Value), (.int .i64 0 : Value), (.string ByteArray.empty : Value)] : Array Value).toList 8 = some ([.agg [.lit (.int .i64 0), .nil], .lit (.int .i64 0), .lit (.string [])], [], places) :=
  ⟨[], by kernel_rfl⟩

theorem laid_met (os : Os) : laidMetH Tryd.prog Rows.fnExactLatestOfRow.laid ((World.laidAll Tryd.prog os Rows.fnExactLatestOfRow.laid).forCall (fun _ _ => 0) ⟨#[], #[(.agg #[.int .i64 0, .slice none 0 0] : Value), (.int .i64 0 : Value), (.string ByteArray.empty : Value)], []⟩).memory := by
  rw [MakeChecks.laidMetH_plain _ _ _ (by kernel_rfl)]
  exact laidMet_laidAll _ (by kernel_rfl) (by kernel_rfl)

set_option maxRecDepth 100000 in
theorem lifted (os : Os) (started : os.Started) (H : Type) (enc : TypeId × Value → H) (F : Stop.Interp) :
    ReturnsInHanded {} Tryd.checked os 5 .any ((OpenSpec.ofChange Rows.fnExactLatestOfSpec).preRow enc Tryd.prog Tryd.f5 Rows.fnExactLatestOfRow.domain false Rows.fnExactLatestOfRow.laid) (((OpenSpec.ofChange Rows.fnExactLatestOfSpec).at F).post enc Tryd.prog Tryd.f5 false true false false) := by
  obtain ⟨places, hx⟩ := reads os enc
  refine returnsInHanded_of_row (C := Tryd.checked) (s := OpenSpec.ofChange Rows.fnExactLatestOfSpec) own started (by kernel_rfl) Tryd.func5
    (witness_row_at (enc := enc) (C := Tryd.checked) false (World.laidAll Tryd.prog os Rows.fnExactLatestOfRow.laid) #[(.agg #[.int .i64 0, .slice none 0 0] : Value), (.int .i64 0 : Value), (.string ByteArray.empty : Value)] (World.laidAll_os _ _ _) (by kernel_rfl) (by kernel_rfl) (by kernel_rfl)
      (OpenSpec.preRow_of_cond 8 hx (by kernel_rfl) (fun k hk => by cases hk) (by kernel_rfl) (laid_met os))) ?_
  intro W base args ds gs before hval hW _ _ _ _ hsh _
  exact contract H enc W base args ds gs before hval hW hsh

theorem said : Rows.FnExactLatestOfSaid :=
  OpenClaim.holds_of_cond 5 Tryd.f5 rfl rfl rfl rfl rfl rfl rfl ⟨rfl, rfl, rfl, rfl, rfl⟩ rfl rfl rfl rfl rfl (by kernel_rfl) Tryd.func5 (by kernel_rfl)
    (of_decide_eq_true (by kernel_rfl)) (by unfold Func.isWrapper; first | (rw [if_pos (by decide +kernel)]; kernel_rfl) | (rw [if_neg (by decide +kernel)]; exact ⟨rfl, rfl⟩))
    (fun os started H enc _ F => by rw [OpenClaim.pre_eq_preRow]; exact lifted os started H enc F)

theorem plain (f : FuncId) (fn : Func) (hf : Tryd.pinned.checked.prog.funcNamed Tryd.f5.name = some f) (hfn : Tryd.pinned.checked.prog.funcs[f]? = some fn) :
    false = Tryd.pinned.checked.prog.looks [] ∧ ∀ (j : Nat) t, fn.params[j]? = some t → Tryd.pinned.checked.prog.wantsStandIn t = false := by
  obtain rfl : f = 5 := Option.some.inj ((show Tryd.prog.funcNamed Tryd.f5.name = some 5 by kernel_rfl).symm.trans hf) |>.symm
  obtain rfl : fn = Tryd.f5 := (Option.some.inj (Tryd.func5.symm.trans hfn)).symm
  refine ⟨by kernel_rfl, fun j t ht => ?_⟩
  rw [Tryd.params5] at ht
  have hm := Array.mem_of_getElem? ht
  have hall : (Tryd.f5.params.all fun u => !Tryd.prog.wantsStandIn u) = true := by kernel_rfl
  rw [Tryd.params5] at hall
  rw [Array.all_eq_true_iff_forall_mem] at hall
  have := hall t hm
  exact (show Tryd.prog.wantsStandIn t = false by simpa using this)

theorem card : Rows.FnExactLatestOfCardSaid :=
  Claim7.holds_tied_plain_at .later [] _ _ _ _ said (fun _ h => by cases h) (by kernel_rfl) (fun _ h => by cases h) fnExactLatestOf_row_tie rfl ⟨rfl, rfl⟩ (by kernel_rfl) rfl plain (by kernel_rfl)
end Go.Proofs.YtddgfbmollfmeaaDoor.lawFnExactLatestOf
