/- The exact laws' marks laid into messages. -/
import Derived.Test.YtnclkdhaabggkaaDoorZB4
import Derived.Test.YtnclkdhaabggkaaDoorZB1
import Derived.Deep.Draws
set_option linter.unusedSimpArgs false
set_option linter.unusedVariables false
namespace Go.Proofs.YtnclkdhaabggkaaDoor
open Go.RowKit

/-- The marks from k on, laid into one message; into the first n. -/
def mmark (k : Nat) : MsgM := ((k : Nat), (k + 1 : Nat), mtext (k + 2), (k + 3 : Nat))
def mmarks (k0 n : Nat) : List MsgM := (List.range n).map fun j => mmark (k0 + j * 4)
def mmarked (l : List MsgM) (k0 k : Nat) : List MsgM := mmarks k0 k ++ l.drop k

theorem mmarks_length (k0 n : Nat) : (mmarks k0 n).length = n := by simp [mmarks]
theorem mmarked_length (l : List MsgM) (k0 k : Nat) (h : k ≤ l.length) : (mmarked l k0 k).length = l.length := by simp [mmarked, mmarks]; omega
theorem mmarked_next (l : List MsgM) (k0 k : Nat) (h : k < l.length) : (mmarked l k0 k).set k (mmark (k0 + k * 4)) = mmarked l k0 (k + 1) := by
  unfold mmarked mmarks
  rw [List.set_append_right _ _ (by simp)]
  simp only [List.length_map, List.length_range, Nat.sub_self]
  rw [List.range_succ, List.map_append, List.append_assoc]
  congr 1
  rw [List.drop_eq_getElem_cons h]
  rfl
theorem mmarked_all (l : List MsgM) (k0 : Nat) : mmarked l k0 l.length = mmarks k0 l.length := by simp [mmarked]
theorem mmarks_at (k0 n k : Nat) (h : k < (mmarks k0 n).length) : (mmarks k0 n)[k] = mmark (k0 + k * 4) := by simp [mmarks]

set_option maxRecDepth 100000 in
set_option maxHeartbeats 1600000 in
theorem markMsgs_any (v : Value) (l : List MsgM) (k0 B : Nat) (w : World) (hk0 : 1 ≤ k0) (hk1 : k0 + l.length * 4 ≤ 8000000) (hown : MOwn w B v l) :
    Calls Tryd.prog 26 #[v, .int .i64 k0] w fun e w' =>
      e = .returned (.int .i64 (k0 + l.length * 4 : Nat)) ∧ MOwn w' B v (mmarks k0 l.length) ∧ w.grownBy w' v.ownBlock := by
  rcases hown.2 with ⟨rfl, h0⟩ | ⟨g, cap, cur, rfl, _, _, hlc, hcm, _⟩
  · have hl0 : l = [] := List.length_eq_zero_iff.1 h0
    subst hl0
    go_enter Tryd.func26, Tryd.ntmps26
    go_wp2
    go_loopw [1, 5] (fun m i wr => i = .int .i64 0 ∧ m = .int .i64 k0 ∧ wr = w) (fun _ _ _ => 0)
    case atStart => exact ⟨rfl, rfl, rfl⟩
    case round =>
      obtain ⟨rfl, rfl, rfl⟩ := hrel
      go_wp2
      go_ret
      exact ⟨rfl, World.ownsRow_nil _ _ _ _, grown_refl _ _⟩
  unfold maxLen at hcm
  have HO : Hid (MOwn w B (.slice (some ⟨g, 0, none⟩) l.length cap) (mmarked l k0 0)) := Lib.hid (by simpa [mmarked, mmarks] using hown)
  clear hown
  go_enter Tryd.func26, Tryd.ntmps26
  go_wp2
  go_loopw [1, 5] (fun m i wr => ∃ k q : Nat, k ≤ l.length ∧ i = .int .i64 k ∧ m = .int .i64 q ∧ q = k0 + k * 4 ∧ Hid (MOwn wr B (.slice (some ⟨g, 0, none⟩) l.length cap) (mmarked l k0 k)) ∧ Hid (w.grownBy wr (some g))) (fun _ i _ => l.length - (intOf i).toNat)
  case atStart => exact ⟨0, k0, Nat.zero_le _, rfl, rfl, by omega, HO, grown_refl _ _⟩
  case round =>
    obtain ⟨k, q, hk, rfl, rfl, hq, H1, H2⟩ := hrel
    by_cases hlt : k < l.length
    · have hlen := mmarked_length l k0 k hk
      have CM := Lib.hid (fun wx => markText_any (q + 2) wx (by omega) (by omega))
      rw [show ((q + 2 : Nat) : Int) = (k0 : Int) + (k : Int) * 4 + 1 + 1 by omega] at CM
      have hn1 := mmarked_next l k0 k hlt
      rw [← hq] at hn1
      have HN := Lib.hid hn1
      have hrow : wr.ownsRow B 30 4 (.slice (some ⟨g, 0, none⟩) l.length cap) l.length (mcells (mmarked l k0 k)) := by have := H1.out; unfold MOwn at this; rw [hlen] at this; exact this
      have f0 := hrow.frozenAt (k * 4)
      have f1 := hrow.frozenAt (k * 4 + 1)
      have hex : ∀ j, j < 4 → ∃ u, wr.cell? ⟨g, k * 4 + j, none⟩ = some u := fun j hj => ⟨_, (hrow.cellAt _ (by omega)).trans (List.getElem?_eq_getElem (by rw [hrow.1]; omega))⟩
      obtain ⟨z0, c0⟩ := hex 0 (by omega)
      obtain ⟨z1, c1⟩ := hex 1 (by omega)
      rw [Nat.add_zero] at c0
      have HR := Lib.hid hrow
      clear hrow hex hn1
      have HC4 : Hid (((((mcells (mmarked l k0 k)).set (k * 4) (.int .i64 ((k0 : Int) + (k : Int) * 4))).set (k * 4 + 1) (.int .i64 ((k0 : Int) + (k : Int) * 4 + 1))).set (k * 4 + 2) (.string (mtext (q + 2)))).set (k * 4 + 3) (.int .i64 ((k0 : Int) + (k : Int) * 4 + 1 + 1 + 1)) = mcells (mmarked l k0 (k + 1))) := Lib.hid (by
        rw [← HN.out, ← mcells_set _ _ (mmark q) (by rw [hlen]; exact hlt)]
        have e0 : ((q : Nat) : Int) = (k0 : Int) + (k : Int) * 4 := by omega
        have e1 : ((q + 1 : Nat) : Int) = (k0 : Int) + (k : Int) * 4 + 1 := by omega
        have e3 : ((q + 3 : Nat) : Int) = (k0 : Int) + (k : Int) * 4 + 1 + 1 + 1 := by omega
        simp only [mmark, e0, e1, e3])
      have hlen2 := mmarked_length l k0 (k + 1) (by omega)
      obtain ⟨t, ht⟩ : ∃ t, mtext (q + 2) = t := ⟨_, rfl⟩
      rw [ht] at CM HC4
      clear HN ht
      go_wp2_with fail
      have row2 := ((HR.out.stored (k * 4) (.int .i64 ((k0 : Int) + (k : Int) * 4))).1.stored (k * 4 + 1) (.int .i64 ((k0 : Int) + (k : Int) * 4 + 1))).1
      have grow2 := grown_trans H2.out (grown_trans (grown_setCell wr g (k * 4) (.int .i64 ((k0 : Int) + (k : Int) * 4))) (grown_setCell _ g (k * 4 + 1) (.int .i64 ((k0 : Int) + (k : Int) * 4 + 1))))
      refine (CM.out _).mono ?_
      clear CM
      rintro e w1 ⟨rfl, hb⟩
      have row3 := row_below row2 hb
      have G3 := Lib.hid (grown_trans grow2 (grown_below (r := some g) hb))
      have hrow4 := ((row3.stored (k * 4 + 2) (.string t)).1.stored (k * 4 + 3) (.int .i64 ((k0 : Int) + (k : Int) * 4 + 1 + 1 + 1))).1
      rw [HC4.out] at hrow4
      have R4 : Hid (MOwn _ B (.slice (some ⟨g, 0, none⟩) l.length cap) (mmarked l k0 (k + 1))) := Lib.hid (by unfold MOwn; rw [hlen2]; exact hrow4)
      have G4 := Lib.hid (grown_trans G3.out (grown_trans (grown_setCell w1 g (k * 4 + 2) (.string t)) (grown_setCell _ g (k * 4 + 3) (.int .i64 ((k0 : Int) + (k : Int) * 4 + 1 + 1 + 1)))))
      have f2 := row3.frozenAt (k * 4 + 2)
      have f3 := row3.frozenAt (k * 4 + 3)
      have hex : ∀ j, j < 4 → ∃ u, w1.cell? ⟨g, k * 4 + j, none⟩ = some u := fun j hj => ⟨_, (row3.cellAt _ (by omega)).trans (List.getElem?_eq_getElem (by rw [row3.1]; omega))⟩
      obtain ⟨z2, c2⟩ := hex 2 (by omega)
      obtain ⟨z3, c3⟩ := hex 3 (by omega)
      clear row2 grow2 row3 hrow4 hb hex HC4 HR G3 H1 H2 c0 c1 f0 f1
      go_wp2
      go_roundw
      case rel => exact ⟨k + 1, k0 + (k + 1) * 4, by omega, by go_num, congrArg (Value.int .i64) (by omega), rfl, R4, G4⟩
      case measure => simp [intOf]; omega
    · obtain rfl : k = l.length := by omega
      have HE : Hid (MOwn wr B (.slice (some ⟨g, 0, none⟩) l.length cap) (mmarks k0 l.length)) := Lib.hid (by rw [← mmarked_all]; exact H1.out)
      go_wp2
      go_ret
      exact ⟨congrArg (fun x : Nat => Ending.returned (Value.int .i64 x)) hq, HE.out, H2.out⟩

set_option maxRecDepth 100000 in
set_option maxHeartbeats 1600000 in
theorem heldMsgs_any (v : Value) (k0 n : Nat) (w : World) (hk0 : 1 ≤ k0) (hk1 : k0 + n * 4 ≤ 8000000) (hv : MsgsAt w v (mmarks k0 n)) :
    Calls Tryd.prog 27 #[v, .int .i64 k0] w fun e w' => e = .returned (.int .i64 (k0 + n * 4 : Nat)) ∧ Below w.heap.size w w' := by
  obtain ⟨a, c, rfl, hc1, hc2, hc3⟩ := hv
  have HC := Lib.hid hc3
  have hn := mmarks_length k0 n
  rw [hn] at hc1 ⊢
  unfold maxLen at hc2
  clear hc3
  go_enter Tryd.func27, Tryd.ntmps27
  go_wp2
  go_loopw [1, 5] (fun m i wr => ∃ k : Nat, k ≤ n ∧ i = .int .i64 k ∧ m = .int .i64 ((k0 : Int) + (k : Int) * 4) ∧ Hid (Below w.heap.size w wr)) (fun _ i _ => n - (intOf i).toNat)
  case atStart => exact ⟨0, Nat.zero_le _, rfl, congrArg (Value.int .i64) (by omega), Below.refl _ _⟩
  case round =>
    obtain ⟨k, hk, rfl, rfl, HB⟩ := hrel
    by_cases hlt : k < n
    · obtain ⟨b, o, rfl, hin⟩ : ∃ b o, a = some ⟨b, o, none⟩ ∧ MsgsIn w b o (mmarks k0 n) := by
        rcases HC.out with h | h
        · rw [h] at hn; simp at hn; omega
        · exact h
      obtain ⟨c0, c1, c2, c3⟩ := (hin.below HB.out) k (by omega)
      rw [mmarks_at] at c0 c1 c2 c3
      have c0' : wr.cell? ⟨b, o + k * 4, none⟩ = some (.int .i64 ((k0 : Int) + (k : Int) * 4)) := c0.trans (congrArg (fun x => some (Value.int .i64 x)) (by simp only [mmark]; omega))
      have c1' : wr.cell? ⟨b, o + k * 4 + 1, none⟩ = some (.int .i64 ((k0 : Int) + (k : Int) * 4 + 1)) := c1.trans (congrArg (fun x => some (Value.int .i64 x)) (by simp only [mmark]; omega))
      have c3' : wr.cell? ⟨b, o + k * 4 + 3, none⟩ = some (.int .i64 ((k0 : Int) + (k : Int) * 4 + 1 + 1 + 1)) := c3.trans (congrArg (fun x => some (Value.int .i64 x)) (by simp only [mmark]; omega))
      have c2' : wr.cell? ⟨b, o + k * 4 + 2, none⟩ = some (.string (mtext (k0 + k * 4 + 2))) := c2
      have CM := Lib.hid (fun wx => markText_any (k0 + k * 4 + 2) wx (by omega) (by omega))
      rw [show ((k0 + k * 4 + 2 : Nat) : Int) = (k0 : Int) + (k : Int) * 4 + 1 + 1 by omega] at CM
      obtain ⟨t, ht⟩ : ∃ t, mtext (k0 + k * 4 + 2) = t := ⟨_, rfl⟩
      rw [ht] at CM c2'
      clear c0 c1 c2 c3 hin ht
      go_wp2_with fail
      refine wp_region_held_drew (S := fun wx => wx.cell? ⟨b, o + k * 4 + 2, none⟩ = some (.string t) ∧ wx.cell? ⟨b, o + k * 4 + 3, none⟩ = some (.int .i64 ((k0 : Int) + (k : Int) * 4 + 1 + 1 + 1)) ∧ Hid (Below wr.heap.size wr wx)) (by kernel_rfl) ?_ (fun hHeld => ?_)
      · exact ⟨c2', c3', Lib.hid (Below.refl _ _).drew⟩
      change wpAnyH _ _ _ _ _ 8 #[false, false, false, false, false, false, false, false] _ _
      clear c0' c1' c2' c3'
      refine wpAnyH_take (i := 0) (v := ?_) rfl (by kernel_rfl) (by kernel_rfl) (by kernel_rfl) (fun _ _ _ h => h) (Or.inl ⟨by rfl, ?_⟩) (by assumption) ?_
      rotate_left
      · intro w hSw; (try dsimp only at hSw); go_simp; try with_reducible rfl
      try simp only [Act.put, List.getElem_toArray, List.getElem_cons_succ, List.getElem_cons_zero, List.setIfInBounds_toArray, List.set_cons_zero, List.set_cons_succ]
      refine wpAnyH_take (i := 1) (v := ?_) rfl (by kernel_rfl) (by kernel_rfl) (by kernel_rfl) (fun _ _ _ h => h) (Or.inl ⟨by rfl, ?_⟩) (by assumption) ?_
      rotate_left
      · intro w hSw; (try dsimp only at hSw); go_simp; try with_reducible rfl
      try simp only [Act.put, List.getElem_toArray, List.getElem_cons_succ, List.getElem_cons_zero, List.setIfInBounds_toArray, List.set_cons_zero, List.set_cons_succ]
      refine wpAnyH_take (i := 2) (v := ?_) rfl (by kernel_rfl) (by kernel_rfl) (by kernel_rfl) (fun _ _ _ h => h) (Or.inl ⟨by rfl, ?_⟩) (by assumption) ?_
      rotate_left
      · intro w hSw; (try dsimp only at hSw); go_simp; try with_reducible rfl
      try simp only [Act.put, List.getElem_toArray, List.getElem_cons_succ, List.getElem_cons_zero, List.setIfInBounds_toArray, List.set_cons_zero, List.set_cons_succ]
      refine wpAnyH_take (i := 3) (v := ?_) rfl (by kernel_rfl) (by kernel_rfl) (by kernel_rfl) (fun _ _ _ h => h) (Or.inl ⟨by rfl, ?_⟩) (by assumption) ?_
      rotate_left
      · intro w hSw; (try dsimp only at hSw); go_simp; try with_reducible rfl
      try simp only [Act.put, List.getElem_toArray, List.getElem_cons_succ, List.getElem_cons_zero, List.setIfInBounds_toArray, List.set_cons_zero, List.set_cons_succ]
      refine wpAnyH_take (i := 4) (v := ?_) rfl (by kernel_rfl) (by kernel_rfl) (by kernel_rfl) (fun _ _ _ h => h) (Or.inl ⟨by rfl, ?_⟩) (by assumption) ?_
      rotate_left
      · intro w hSw; (try dsimp only at hSw); go_simp; try with_reducible rfl
      try simp only [Act.put, List.getElem_toArray, List.getElem_cons_succ, List.getElem_cons_zero, List.setIfInBounds_toArray, List.set_cons_zero, List.set_cons_succ]
      refine wpAnyH_take (i := 5) (v := ?_) rfl (by kernel_rfl) (by kernel_rfl) (by kernel_rfl) (fun _ _ _ h => h) (Or.inl ⟨by rfl, ?_⟩) (by assumption) ?_
      rotate_left
      · intro w hSw; (try dsimp only at hSw); go_simp; try with_reducible rfl
      try simp only [Act.put, List.getElem_toArray, List.getElem_cons_succ, List.getElem_cons_zero, List.setIfInBounds_toArray, List.set_cons_zero, List.set_cons_succ]
      refine wpAnyH_ready (rs := [6]) (by kernel_rfl) (by simp) (AllReadyH.cons rfl (fun K hK => ?_) AllReadyH.nil)
      rw [if_pos (by rfl)]
      go_simp; go_at_call 40; refine (CM.out _).mono ?_; rintro e wa ⟨rfl, hb⟩; go_wp2_with fail
      refine hK.out _ _ ?_ (fun hHeld => ?_)
      · exact ⟨(below_cell hb (World.block_lt_of_cell? _ _ hHeld.1)).trans hHeld.1, (below_cell hb (World.block_lt_of_cell? _ _ hHeld.2.1)).trans hHeld.2.1, Lib.hid (below_end hHeld.2.2.out hb)⟩
      clear hK K
      try simp only [Act.put, List.getElem_toArray, List.getElem_cons_succ, List.getElem_cons_zero, List.setIfInBounds_toArray, List.set_cons_zero, List.set_cons_succ]
      refine wpAnyH_take (i := 7) (v := ?_) rfl (by kernel_rfl) (by kernel_rfl) (by kernel_rfl) (fun _ _ _ h => h) (Or.inl ⟨by rfl, ?_⟩) (by assumption) ?_
      rotate_left
      · intro w hSw; (try dsimp only at hSw); go_simp; try with_reducible rfl
      try simp only [Act.put, List.getElem_toArray, List.getElem_cons_succ, List.getElem_cons_zero, List.setIfInBounds_toArray, List.set_cons_zero, List.set_cons_succ]
      refine wpAnyH_done (by kernel_rfl) ?_ _
      have c3 := hHeld.2.1
      have B2 := Lib.hid (below_end HB.out hHeld.2.2.out)
      clear hHeld HB CM
      go_wp2
      go_roundw
      case rel => exact ⟨k + 1, by omega, by go_num, congrArg (Value.int .i64) (by omega), B2⟩
      case measure => simp [intOf]; omega
    · obtain rfl : k = n := by omega
      go_wp2
      go_ret
      exact ⟨congrArg (fun x => Ending.returned (Value.int .i64 x)) (by omega), HB.out⟩

end Go.Proofs.YtnclkdhaabggkaaDoor
