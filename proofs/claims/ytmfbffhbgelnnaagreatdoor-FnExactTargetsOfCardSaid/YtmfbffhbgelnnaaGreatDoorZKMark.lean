/- The marks that the exact laws lay into rows of numbers and of knots, and the look whether they are still there. -/
import Derived.Test.YtmfbffhbgelnnaaGreatDoorZB1
import Derived.Deep.RegionHeld
set_option linter.unusedSimpArgs false
set_option linter.unusedVariables false
namespace Go.Proofs.YtmfbffhbgelnnaaGreatDoor
open Go.RowKit
set_option maxRecDepth 100000 in
set_option maxHeartbeats 400000 in
theorem markInts_any (v : Value) (l : List Int) (k0 B : Nat) (w : World) (hk1 : k0 + l.length ≤ 30000000)
    (hown : w.ownsRow B 2 1 v l.length (ints l)) :
    Calls Tryz.prog 19 #[v, .int .i64 k0] w fun e w' =>
      e = .returned (.int .i64 (k0 + l.length : Nat)) ∧ w'.ownsRow B 2 1 v l.length (ints (imarks k0 l.length)) ∧ w.grownBy w' v.ownBlock := by
  rcases hown.2 with ⟨rfl, h0⟩ | ⟨g, cap, cur, rfl, _⟩
  · have hl0 : l = [] := List.length_eq_zero_iff.1 h0
    subst hl0
    go_enter Tryz.func19, Tryz.ntmps19
    go_wp2
    go_loopw [1, 5] (fun m i wr => i = .int .i64 0 ∧ m = .int .i64 k0 ∧ wr = w) (fun _ _ _ => 0)
    case atStart => exact ⟨rfl, rfl, rfl⟩
    case round =>
      obtain ⟨rfl, rfl, rfl⟩ := hrel
      go_wp2
      go_ret
      exact ⟨rfl, World.ownsRow_nil _ _ _ _, grown_refl _ _⟩
  have HO : Hid (w.ownsRow B 2 1 (.slice (some ⟨g, 0, none⟩) l.length cap) l.length (ints (imarked l k0 0))) := Lib.hid (by simpa [imarked, imarks] using hown)
  clear hown
  go_enter Tryz.func19, Tryz.ntmps19
  go_wp2
  go_loopw [1, 5] (fun m i wr => ∃ k : Nat, k ≤ l.length ∧ i = .int .i64 k ∧ m = .int .i64 ((k0 : Int) + (k : Int)) ∧ Hid (wr.ownsRow B 2 1 (.slice (some ⟨g, 0, none⟩) l.length cap) l.length (ints (imarked l k0 k))) ∧ Hid (w.grownBy wr (some g))) (fun _ i _ => l.length - (intOf i).toNat)
  case atStart => exact ⟨0, Nat.zero_le _, rfl, congrArg (Value.int .i64) (by omega), HO, grown_refl _ _⟩
  case round =>
    obtain ⟨k, hk, rfl, rfl, H1, H2⟩ := hrel
    by_cases hlt : k < l.length
    · have hlen := imarked_length l k0 k hk
      have hfz := H1.out.frozenAt k
      obtain ⟨u, hu⟩ : ∃ u, wr.cell? ⟨g, k, none⟩ = some u := ⟨_, (H1.out.cellAt k (by omega)).trans (List.getElem?_eq_getElem (by simp [ints]; omega))⟩
      have H5 : Hid ((wr.setCell ⟨g, k, none⟩ (.int .i64 ((k0 : Int) + (k : Int)))).ownsRow B 2 1 (.slice (some ⟨g, 0, none⟩) l.length cap) l.length (ints (imarked l k0 (k + 1)))) := Lib.hid (by rw [← imarked_next l k0 k hlt, ← ints_set, Int.natCast_add]; exact (H1.out.stored k _).1)
      have H6 : Hid (w.grownBy (wr.setCell ⟨g, k, none⟩ (.int .i64 ((k0 : Int) + (k : Int)))) (some g)) := Lib.hid (grown_trans H2.out (H1.out.stored k _).2)
      clear H1 H2
      go_wp2
      go_roundw
      case rel => exact ⟨k + 1, by omega, by go_num, congrArg (Value.int .i64) (by omega), H5, H6⟩
      case measure => simp [intOf]; omega
    · obtain rfl : k = l.length := by omega
      have HE : Hid (wr.ownsRow B 2 1 (.slice (some ⟨g, 0, none⟩) l.length cap) l.length (ints (imarks k0 l.length))) := Lib.hid (by rw [← imarked_all]; exact H1.out)
      go_wp2
      go_ret
      exact ⟨congrArg (fun x => Ending.returned (Value.int .i64 x)) (by omega), HE.out, H2.out⟩

set_option maxRecDepth 100000 in
set_option maxHeartbeats 400000 in
theorem heldInts_any (v : Value) (k0 n : Nat) (w : World) (hk1 : k0 + n ≤ 30000000) (hv : IntsAt w v (imarks k0 n)) :
    Calls Tryz.prog 20 #[v, .int .i64 k0] w fun e w' => e = .returned (.int .i64 (k0 + n : Nat)) ∧ Below w.heap.size w w' := by
  obtain ⟨a, c, rfl, hc1, hc2, hc3⟩ := hv
  have HC := Lib.hid hc3
  have hn := imarks_length k0 n
  rw [hn] at hc1 ⊢
  clear hc3
  go_enter Tryz.func20, Tryz.ntmps20
  go_wp2
  go_loopw [1, 5] (fun m i wr => ∃ k : Nat, k ≤ n ∧ i = .int .i64 k ∧ m = .int .i64 ((k0 : Int) + (k : Int)) ∧ Hid (∃ d, wr = w.drewN d)) (fun _ i _ => n - (intOf i).toNat)
  case atStart => exact ⟨0, Nat.zero_le _, rfl, congrArg (Value.int .i64) (by omega), 0, rfl⟩
  case round =>
    obtain ⟨k, hk, rfl, rfl, HW⟩ := hrel
    obtain ⟨d, rfl⟩ := HW.out
    clear HW
    by_cases hlt : k < n
    · obtain ⟨b, o, rfl, hin⟩ : ∃ b o, a = some ⟨b, o, none⟩ ∧ IntsIn w b o (imarks k0 n) := by
        rcases HC.out with h | h
        · rw [h] at hn; simp at hn; omega
        · exact h
      have hcell := hin k (by omega)
      rw [imarks_at] at hcell
      clear hin
      go_wp2
      go_roundw
      case rel => exact ⟨k + 1, by omega, by go_num, congrArg (Value.int .i64) (by omega), _, rfl⟩
      case measure => simp [intOf]; omega
    · obtain rfl : k = n := by omega
      go_wp2
      go_ret
      exact ⟨congrArg (fun x => Ending.returned (Value.int .i64 x)) (by omega), below_drewN (Below.refl _ _) _⟩

set_option maxRecDepth 100000 in
set_option maxHeartbeats 800000 in
theorem markKnots_any (v : Value) (l : List KnotM) (us : List Value) (k0 B : Nat) (w : World) (hk1 : kend l k0 ≤ 30000000) (hk0 : 1 ≤ k0) (hown : KOwnU w B v l us) :
    Calls Tryz.prog 53 #[v, .int .i64 k0] w fun e w' =>
      e = .returned (.int .i64 (kend l k0)) ∧ KOwnU w' B v (kmark l k0) us ∧ GrownL w w' (v :: us) := by
  rcases hown.2.1.2 with ⟨rfl, h0⟩ | ⟨g, cap, cur, rfl, _, _, hlc, hcm, _⟩
  · have hl0 : l = [] := List.length_eq_zero_iff.1 h0
    subst hl0
    have HO := Lib.hid hown
    clear hown
    go_enter Tryz.func53, Tryz.ntmps53
    go_wp2
    go_loopw [1, 5] (fun m i wr => i = .int .i64 0 ∧ m = .int .i64 k0 ∧ wr = w) (fun _ _ _ => 0)
    case atStart => exact ⟨rfl, rfl, rfl⟩
    case round =>
      obtain ⟨rfl, rfl, rfl⟩ := hrel
      go_wp2
      go_ret
      exact ⟨rfl, HO.out, GrownL.refl _ _⟩
  unfold maxLen at hcm
  have HO : Hid (KOwnU w B (.slice (some ⟨g, 0, none⟩) l.length cap) (kstate l k0 0) us) := Lib.hid (by simpa [kstate, kmark] using hown)
  have HUS := Lib.hid hown.1
  clear hown
  have HK := Lib.hid hk1
  clear hk1
  go_enter Tryz.func53, Tryz.ntmps53
  go_wp2
  go_loopw [1, 5] (fun m i wr => ∃ k q : Nat, k ≤ l.length ∧ i = .int .i64 k ∧ m = .int .i64 q ∧ k0 ≤ q ∧ q ≤ 30000000 ∧ Hid (q = kend (l.take k) k0) ∧ Hid (KOwnU wr B (.slice (some ⟨g, 0, none⟩) l.length cap) (kstate l k0 k) us) ∧ Hid (GrownL w wr (.slice (some ⟨g, 0, none⟩) l.length cap :: us))) (fun _ i _ => l.length - (intOf i).toNat)
  case atStart => exact ⟨0, k0, Nat.zero_le _, rfl, rfl, Nat.le_refl _, by have := kend_le l k0; have := HK.out; omega, rfl, HO, GrownL.refl _ _⟩
  case round =>
    obtain ⟨k, q, hk, rfl, rfl, hq0, hq1, HQ, H1, H2⟩ := hrel
    by_cases hlt : k < l.length
    · have hlen := kstate_length l k0 k hk
      have hku : k < us.length := by rw [HUS.out]; exact hlt
      have hnx := kend_next l k0 k hlt
      have hbd := kend_bound l k0 (k + 1)
      have hkk := HK.out
      have hqq := HQ.out
      have CM := Lib.hid (markText_any q wr (by omega) (by omega))
      have hn1 := kstate_next l k0 k hlt
      rw [← hqq] at hn1
      have HN := Lib.hid hn1
      have HA := Lib.hid (kstate_at l k0 k hlt (by omega))
      have HQN : Hid (q + 1 + l[k].2.length = kend (l.take (k + 1)) k0) := Lib.hid (by rw [hnx, ← hqq])
      have hq2 : q + 1 + l[k].2.length ≤ 30000000 := by rw [HQN.out]; omega
      clear hnx hbd hkk hqq hn1
      go_wp2_with fail
      refine CM.out.mono ?_
      clear CM
      rintro e w1 ⟨rfl, hb⟩
      have H3 := Lib.hid (H1.out.below hb)
      have H4 := Lib.hid (H2.out.trans (GrownL.below hb))
      clear hb H1 H2
      have hT := H3.out.text (k := k) (mtext q) hlen.symm (by rw [hlen]; exact hlt)
      have G5 := Lib.hid (H4.out.trans (GrownL.grown (x := .slice (some ⟨g, 0, none⟩) l.length cap) (grown_setCell w1 g (k * 2) (.string (mtext q))) (by simp)))
      have hrow := H3.out.2.1
      rw [hlen] at hrow
      have f0 := hrow.frozenAt (k * 2)
      obtain ⟨z0, c0⟩ : ∃ u, w1.cell? ⟨g, k * 2, none⟩ = some u := ⟨_, (hrow.cellAt _ (by omega)).trans (List.getElem?_eq_getElem (by rw [hrow.1]; omega))⟩
      have c1 : w1.cell? ⟨g, k * 2 + 1, none⟩ = some us[k] := (hrow.cellAt _ (by omega)).trans (kcells_ids _ us k hku H3.out.1)
      have hnum := hT.2.2.1 k (by simp; omega) hku
      simp only [List.getElem_set_self] at hnum
      rw [HA.out] at hnum
      have CI := markInts_any us[k] l[k].2 (q + 1) B _ (by omega) hnum
      rw [show ((q + 1 : Nat) : Int) = (q : Int) + 1 by omega] at CI
      obtain ⟨ua, uc, hu⟩ := own_slice hnum
      rw [hu] at c1 CI
      have CI := Lib.hid CI
      have HT := Lib.hid hT
      have HU := Lib.hid hu
      clear hT hrow hnum H3 H4 hu
      obtain ⟨t, ht⟩ : ∃ t, mtext q = t := ⟨_, rfl⟩
      rw [ht] at G5 CI HT ⊢
      go_wp2_with fail
      refine CI.out.mono ?_
      clear CI
      rintro e w3 ⟨rfl, ho, hg⟩
      have hP := HT.out.nums (k := k) (z := imarks (q + 1) l[k].2.length) (by simp; omega) hku (by simp only [imarks_length, List.getElem_set_self]; rw [HA.out]) (by rw [HU.out, imarks_length]; exact ho) (by rw [HU.out]; exact hg)
      simp only [List.set_set, List.getElem_set_self] at hP
      rw [← ht, HN.out] at hP
      have HP := Lib.hid hP
      have HG := Lib.hid (G5.out.trans (GrownL.grown (x := us[k]) (by rw [HU.out]; exact hg) (List.mem_cons_of_mem _ (List.getElem_mem _))))
      clear hP ho hg HT G5 HN HA HU c0 c1 f0 ht
      go_wp2
      go_roundw
      case rel => exact ⟨k + 1, q + 1 + l[k].2.length, by omega, by go_num, rfl, by omega, by omega, HQN, HP, HG⟩
      case measure => simp [intOf]; omega
    · obtain rfl : k = l.length := by omega
      have HE : Hid (KOwnU wr B (.slice (some ⟨g, 0, none⟩) l.length cap) (kmark l k0) us) := Lib.hid (by have := H1.out; unfold kstate at this; rw [List.take_length, List.drop_length, List.append_nil] at this; exact this)
      have HQ2 : Hid (q = kend l k0) := Lib.hid (by have := HQ.out; rw [List.take_length] at this; exact this)
      go_wp2
      go_ret
      exact ⟨congrArg (fun x : Nat => Ending.returned (Value.int .i64 x)) HQ2.out, HE.out, H2.out⟩

set_option maxRecDepth 100000 in
set_option maxHeartbeats 800000 in
theorem heldKnots_any (v : Value) (l : List KnotM) (k0 : Nat) (w : World) (hk1 : kend l k0 ≤ 30000000) (hk0 : 1 ≤ k0) (hv : KnotsAt w v (kmark l k0)) :
    Calls Tryz.prog 57 #[v, .int .i64 k0] w fun e w' => e = .returned (.int .i64 (kend l k0)) ∧ Below w.heap.size w w' := by
  obtain ⟨a, c, rfl, hc1, hc2, hc3⟩ := hv
  have HC := Lib.hid hc3
  have HK := Lib.hid hk1
  have HL := Lib.hid (kmark_length l k0)
  rw [kmark_length] at hc1 ⊢
  unfold maxLen at hc2
  clear hc3 hk1
  go_enter Tryz.func57, Tryz.ntmps57
  go_wp2
  go_loopw [1, 5] (fun m i wr => ∃ k q : Nat, k ≤ l.length ∧ i = .int .i64 k ∧ m = .int .i64 q ∧ k0 ≤ q ∧ q ≤ 30000000 ∧ Hid (q = kend (l.take k) k0) ∧ Hid (Below w.heap.size w wr)) (fun _ i _ => l.length - (intOf i).toNat)
  case atStart => exact ⟨0, k0, Nat.zero_le _, rfl, rfl, Nat.le_refl _, by have := kend_le l k0; have := HK.out; omega, rfl, Below.refl _ _⟩
  case round =>
    obtain ⟨k, q, hk, rfl, rfl, hq0, hq1, HQ, HB⟩ := hrel
    by_cases hlt : k < l.length
    · obtain ⟨b, o, rfl, hin⟩ : ∃ b o, a = some ⟨b, o, none⟩ ∧ KnotsIn w b o (kmark l k0) := by
        rcases HC.out with h | h
        · have := HL.out; rw [h] at this; simp at this; omega
        · exact h
      obtain ⟨hp, u0, hu0, hids⟩ := (hin.below HB.out) k (by rw [HL.out]; exact hlt)
      rw [kmark_at l k0 k hlt (by rw [HL.out]; exact hlt)] at hp hids
      have hnx := kend_next l k0 k hlt
      have hbd := kend_bound l k0 (k + 1)
      have hkk := HK.out
      have hqq := HQ.out
      rw [← hqq] at hp hids hnx
      have HQN := Lib.hid hnx
      have hq2 : q + 1 + l[k].2.length ≤ 30000000 := by omega
      obtain ⟨n, hn⟩ : ∃ n, l[k].2.length = n := ⟨_, rfl⟩
      rw [hn] at hids HQN hq2
      have CM := Lib.hid (fun wx => markText_any q wx (by omega) (by omega))
      have ci := fun wx (h : IntsAt wx u0 (imarks (q + 1) n)) => heldInts_any u0 (q + 1) n wx (by omega) h
      rw [show ((q + 1 : Nat) : Int) = (q : Int) + 1 by omega] at ci
      have CI := Lib.hid ci
      have g9 : decide (((q + 1 + n : Nat) : Int) < 0) = false := decide_eq_false (by omega)
      clear ci
      have HI := Lib.hid hids
      obtain ⟨ua, uc, rfl, _, _, _⟩ := hids
      simp only [imarks_length] at hu0 CI HI
      obtain ⟨t, ht⟩ : ∃ t, mtext q = t := ⟨_, rfl⟩
      simp only [ht] at hp CM
      clear hin hnx hbd hkk hqq hn ht
      go_wp2_with fail
      refine wp_region_held_drew (S := fun wx => wx.cell? ⟨b, o + k * 2, none⟩ = some (.string t) ∧ wx.cell? ⟨b, o + k * 2 + 1, none⟩ = some (.slice ua n uc) ∧ Hid (Below wr.heap.size wr wx)) (by kernel_rfl) ?_ (fun hHeld => ?_)
      · exact ⟨hp, hu0, Lib.hid (Below.refl _ _).drew⟩
      change wpAnyH _ _ _ _ _ 8 #[false, false, false, false, false, false, false, false] _ _
      clear hp hu0
      refine wpAnyH_take (i := 0) (v := ?_) rfl (by kernel_rfl) (by kernel_rfl) (by kernel_rfl) (fun _ _ _ h => h) (Or.inl ⟨by rfl, ?_⟩) (by assumption) ?_
      rotate_left
      · intro w hSw; (try dsimp only at hSw); go_simp; try with_reducible rfl
      try simp only [Act.put, List.getElem_toArray, List.getElem_cons_succ, List.getElem_cons_zero, List.setIfInBounds_toArray, List.set_cons_zero, List.set_cons_succ]
      refine wpAnyH_take (i := 1) (v := ?_) rfl (by kernel_rfl) (by kernel_rfl) (by kernel_rfl) (fun _ _ _ h => h) (Or.inl ⟨by rfl, ?_⟩) (by assumption) ?_
      rotate_left
      · intro w hSw; (try dsimp only at hSw); go_simp; try with_reducible rfl
      try simp only [Act.put, List.getElem_toArray, List.getElem_cons_succ, List.getElem_cons_zero, List.setIfInBounds_toArray, List.set_cons_zero, List.set_cons_succ]
      refine wpAnyH_take (i := 2) (v := ?_) rfl (by kernel_rfl) (by kernel_rfl) (by kernel_rfl) (fun _ _ _ h => h) (Or.inl ⟨by rfl, ?_⟩) (by assumption) ?_
      rotate_left
      · intro w hSw; (try dsimp only at hSw); go_simp; try with_reducible rfl
      try simp only [Act.put, List.getElem_toArray, List.getElem_cons_succ, List.getElem_cons_zero, List.setIfInBounds_toArray, List.set_cons_zero, List.set_cons_succ]
      refine wpAnyH_take (i := 3) (v := ?_) rfl (by kernel_rfl) (by kernel_rfl) (by kernel_rfl) (fun _ _ _ h => h) (Or.inl ⟨by rfl, ?_⟩) (by assumption) ?_
      rotate_left
      · intro w hSw; (try dsimp only at hSw); go_simp; try with_reducible rfl
      try simp only [Act.put, List.getElem_toArray, List.getElem_cons_succ, List.getElem_cons_zero, List.setIfInBounds_toArray, List.set_cons_zero, List.set_cons_succ]
      refine wpAnyH_take (i := 4) (v := ?_) rfl (by kernel_rfl) (by kernel_rfl) (by kernel_rfl) (fun _ _ _ h => h) (Or.inl ⟨by rfl, ?_⟩) (by assumption) ?_
      rotate_left
      · intro w hSw; (try dsimp only at hSw); go_simp; try with_reducible rfl
      try simp only [Act.put, List.getElem_toArray, List.getElem_cons_succ, List.getElem_cons_zero, List.setIfInBounds_toArray, List.set_cons_zero, List.set_cons_succ]
      refine wpAnyH_take (i := 5) (v := ?_) rfl (by kernel_rfl) (by kernel_rfl) (by kernel_rfl) (fun _ _ _ h => h) (Or.inl ⟨by rfl, ?_⟩) (by assumption) ?_
      rotate_left
      · intro w hSw; (try dsimp only at hSw); go_simp; try with_reducible rfl
      try simp only [Act.put, List.getElem_toArray, List.getElem_cons_succ, List.getElem_cons_zero, List.setIfInBounds_toArray, List.set_cons_zero, List.set_cons_succ]
      refine wpAnyH_ready (rs := [6]) (by kernel_rfl) (by simp) (AllReadyH.cons rfl (fun K hK => ?_) AllReadyH.nil)
      rw [if_pos (by rfl)]
      go_simp; go_at_call 95; refine (CM.out _).mono ?_; rintro e wa ⟨rfl, hb⟩; go_wp2_with fail
      refine hK.out _ _ ?_ (fun hHeld => ?_)
      · exact ⟨(below_cell hb (World.block_lt_of_cell? _ _ hHeld.1)).trans hHeld.1, (below_cell hb (World.block_lt_of_cell? _ _ hHeld.2.1)).trans hHeld.2.1, Lib.hid (below_end hHeld.2.2.out hb)⟩
      clear hK K
      try simp only [Act.put, List.getElem_toArray, List.getElem_cons_succ, List.getElem_cons_zero, List.setIfInBounds_toArray, List.set_cons_zero, List.set_cons_succ]
      refine wpAnyH_take (i := 7) (v := ?_) rfl (by kernel_rfl) (by kernel_rfl) (by kernel_rfl) (fun _ _ _ h => h) (Or.inl ⟨by rfl, ?_⟩) (by assumption) ?_
      rotate_left
      · intro w hSw; (try dsimp only at hSw); go_simp; try with_reducible rfl
      try simp only [Act.put, List.getElem_toArray, List.getElem_cons_succ, List.getElem_cons_zero, List.setIfInBounds_toArray, List.set_cons_zero, List.set_cons_succ]
      refine wpAnyH_done (by kernel_rfl) ?_ _
      have hids2 := hHeld.2.1
      have I2 := Lib.hid (HI.out.below hHeld.2.2.out)
      have B2 := Lib.hid (below_end HB.out hHeld.2.2.out)
      clear hHeld HB HI CM
      go_wp2_with fail
      refine (CI.out _ I2.out).mono ?_
      clear CI I2
      rintro e w3 ⟨rfl, hb3⟩
      have B3 := Lib.hid (below_end B2.out hb3)
      have HQ3 : Hid (q + 1 + n = kend (l.take (k + 1)) k0) := Lib.hid HQN.out.symm
      clear hb3 B2 hids2 HQN
      go_wp2
      go_roundw
      case rel => exact ⟨k + 1, q + 1 + n, by omega, by go_num, rfl, by omega, by omega, HQ3, B3⟩
      case measure => simp [intOf]; omega
    · obtain rfl : k = l.length := by omega
      have HQ2 : Hid (q = kend l k0) := Lib.hid (by have := HQ.out; rw [List.take_length] at this; exact this)
      go_wp2
      go_ret
      exact ⟨congrArg (fun x : Nat => Ending.returned (Value.int .i64 x)) HQ2.out, HB.out⟩


end Go.Proofs.YtmfbffhbgelnnaaGreatDoor
