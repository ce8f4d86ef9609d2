/- The walk of the program's look at who is live. -/
import Derived.Test.YtmfbffhbgelnnaaGreatDoorZB12
import Derived.Test.YtmfbffhbgelnnaaGreatDoorZILinkT
import Derived.Deep.RegionHeld
import Derived.Deep.RegionHeld3
set_option linter.unusedSimpArgs false
set_option linter.unusedVariables false
namespace Go.Proofs.YtmfbffhbgelnnaaGreatDoor
open Go.RowKit Go.Sort

def liveP (b : BrokerM) : Bool := trieB b.trie && decide (trieTo b.subs b.subs.length = b.trie)

theorem trie_ids_len {T : List KnotM} (ht : trieB T = true) {x : KnotM} (hx : x ∈ T) : x.2.length ≤ 100 := rises_short (trie_rises ht hx)

set_option maxRecDepth 100000 in
set_option maxHeartbeats 3200000 in
theorem liveOk_any (b : BrokerM) (v : BrV) (m : Int) (w : World) (hs : BrSmall b) (hl : b.subs.length ≤ 100) (hr : subsB b.subs b.seq b.closed = true) (hv : BrAt w v b) (hm : w.cell? ⟨0, 0, none⟩ = some (.int .i64 m)) :
    Calls Tryz.prog 46 #[bragg b v] w fun e w' => e = .returned (.bool (liveP b)) ∧ Below w.heap.size w w' := by
  have C1 := Lib.hid (fun wx (h : KnotsAt wx v.t b.trie) hm => implTrieOk_any v.t b.trie m wx hs.trie h hm)
  have C2 := Lib.hid (fun (ht : trieB b.trie = true) wx (h : KnotsAt wx v.t b.trie) => placesIn_any v.t b.trie wx hs.trie.1 (fun x hx => trie_ids_len ht hx) h)
  have C3 := Lib.hid (fun wx (h : SubsAt wx v.s b.subs) => lives_any v.s b.subs wx hs.subs h)
  have HQ : Hid (liveP b = (trieB b.trie && decide (trieTo b.subs b.subs.length = b.trie))) := Lib.hid rfl
  have HP := Lib.hid (fun S ht hp ho => places_iff (T := b.trie) (S := S) hl hr ht hp ho)
  have HPL : Hid (trieB b.trie = true → (placesT b.trie).length ≤ 104857600) := Lib.hid (fun ht => by
    have h := placesT_len (T := b.trie) (fun x hx => trie_ids_len ht hx) b.trie.length
    rw [List.take_length] at h
    have := hs.trie.1
    have : b.trie.length * 100 ≤ 1048576 * 100 := Nat.mul_le_mul_right _ this
    omega)
  have HLL : Hid (∀ S : List PlaceM, S.Perm (livesTo b.subs b.subs.length) → S.length ≤ 1048576) := Lib.hid (fun S h => by rw [h.length_eq]; have := livesTo_len (l := b.subs) b.subs.length; omega)
  have HV := Lib.hid hv
  have HM := Lib.hid hm
  obtain ⟨a1, c1, a2, c2, a3, c3, a5, c5, rfl⟩ := hv.slices
  generalize liveP b = R at HQ ⊢
  obtain ⟨tb, htb⟩ : ∃ x, trieB b.trie = x := ⟨_, rfl⟩
  rw [htb] at C1 C2 HQ HP HPL
  clear hv hs hm hl hr htb
  go_enter Tryz.func46, Tryz.ntmps46
  dsimp only at C1 C2 C3
  go_upto_region 1 with (fail)
  have b0 : Below w.heap.size w (w.alloc (.cells (brcells b ⟨.slice a1 b.subs.length c1, .slice a2 b.trie.length c2, .slice a3 b.keep.length c3, .slice a5 b.ring.length c5⟩) 37)) := (Below.refl _ _).alloc (Nat.le_refl _) _
  have r0 : BBr (w.alloc (.cells (brcells b ⟨.slice a1 b.subs.length c1, .slice a2 b.trie.length c2, .slice a3 b.keep.length c3, .slice a5 b.ring.length c5⟩) 37)) w.heap.size 37 b ⟨.slice a1 b.subs.length c1, .slice a2 b.trie.length c2, .slice a3 b.keep.length c3, .slice a5 b.ring.length c5⟩ := BBr.new _ _ _ _
  change Code.wp _ _ _ _ (w.alloc (.cells (brcells b ⟨.slice a1 b.subs.length c1, .slice a2 b.trie.length c2, .slice a3 b.keep.length c3, .slice a5 b.ring.length c5⟩) 37))
  generalize w.alloc (.cells (brcells b ⟨.slice a1 b.subs.length c1, .slice a2 b.trie.length c2, .slice a3 b.keep.length c3, .slice a5 b.ring.length c5⟩) 37) = w0 at b0 r0 ⊢
  obtain ⟨_, x1, x2, _⟩ := r0.cells
  dsimp only at x1 x2
  have B0 := Lib.hid (below_end b0 (Below.refl w0.heap.size w0).drew)
  clear b0 r0
  have KS : Hid (∀ wx wy, (wx.cell? ⟨w.heap.size, 1, none⟩ = some (.slice a1 b.subs.length c1) ∧ wx.cell? ⟨w.heap.size, 2, none⟩ = some (.slice a2 b.trie.length c2) ∧ Hid (Below w.heap.size w wx)) → Below wx.heap.size wx wy → (wy.cell? ⟨w.heap.size, 1, none⟩ = some (.slice a1 b.subs.length c1) ∧ wy.cell? ⟨w.heap.size, 2, none⟩ = some (.slice a2 b.trie.length c2) ∧ Hid (Below w.heap.size w wy))) := Lib.hid (fun wx wy h hb => ⟨(hb.cell (World.block_lt_of_cell? _ _ h.1)).trans h.1, (hb.cell (World.block_lt_of_cell? _ _ h.2.1)).trans h.2.1, Lib.hid (below_end h.2.2.out hb)⟩)
  refine wp_region_held_drew (S := fun wx => wx.cell? ⟨w.heap.size, 1, none⟩ = some (.slice a1 b.subs.length c1) ∧ wx.cell? ⟨w.heap.size, 2, none⟩ = some (.slice a2 b.trie.length c2) ∧ Hid (Below w.heap.size w wx)) (by kernel_rfl) ?_ (fun hHeld => ?_)
  · exact ⟨x1, x2, B0⟩
  change wpAnyH _ _ _ _ _ 13 #[false, false, false, false, false, false, false, false, false, false, false, false, false] _ _
  clear x1 x2 B0
  refine wpAnyH_take (i := 0) (v := ?_) rfl (by kernel_rfl) (by kernel_rfl) (by kernel_rfl) (fun _ _ _ h => h) (Or.inl ⟨by rfl, ?_⟩) (by assumption) ?_
  rotate_left
  · intro w hSw; (try dsimp only at hSw); go_simp; try with_reducible rfl
  try simp only [Act.put, List.getElem_toArray, List.getElem_cons_succ, List.getElem_cons_zero, List.setIfInBounds_toArray, List.set_cons_zero, List.set_cons_succ]
  refine wpAnyH_take (i := 1) (v := ?_) rfl (by kernel_rfl) (by kernel_rfl) (by kernel_rfl) (fun _ _ _ h => h) (Or.inl ⟨by rfl, ?_⟩) (by assumption) ?_
  rotate_left
  · intro w hSw; (try dsimp only at hSw); go_simp; try with_reducible rfl
  try simp only [Act.put, List.getElem_toArray, List.getElem_cons_succ, List.getElem_cons_zero, List.setIfInBounds_toArray, List.set_cons_zero, List.set_cons_succ]
  refine wpAnyH_ready (rs := [2]) (by kernel_rfl) (by simp) (AllReadyH.cons rfl (fun K hK => ?_) AllReadyH.nil)
  rw [if_pos (by rfl)]
  go_simp; go_at_call 89; refine (C1.out _ (HV.out.trie.below hHeld.2.2.out) ((hHeld.2.2.out.cell (World.block_lt_of_cell? _ _ HM.out)).trans HM.out)).mono ?_; rintro e wa ⟨rfl, hb⟩; go_wp2_with fail
  refine hK.out _ _ ?_ (fun hHeld => ?_)
  · exact KS.out _ _ hHeld hb
  clear hK K
  try simp only [Act.put, List.getElem_toArray, List.getElem_cons_succ, List.getElem_cons_zero, List.setIfInBounds_toArray, List.set_cons_zero, List.set_cons_succ]
  cases tb
  · have HE := Lib.hid (show R = false by rw [HQ.out]; rfl)
    refine wpAnyH_take (i := 3) (v := ?_) rfl (by kernel_rfl) (by kernel_rfl) (by kernel_rfl) (fun _ _ _ h => h) (Or.inl ⟨by rfl, ?_⟩) (by assumption) ?_
    rotate_left
    · intro w hSw; (try dsimp only at hSw); go_simp; try with_reducible rfl
    try simp only [Act.put, List.getElem_toArray, List.getElem_cons_succ, List.getElem_cons_zero, List.setIfInBounds_toArray, List.set_cons_zero, List.set_cons_succ]
    refine wpAnyH_take (i := 4) (v := undef) rfl (by kernel_rfl) (by kernel_rfl) (by kernel_rfl) (fun _ _ _ h => h) (Or.inr ⟨by rfl, rfl⟩) (by assumption) ?_
    try simp only [Act.put, List.getElem_toArray, List.getElem_cons_succ, List.getElem_cons_zero, List.setIfInBounds_toArray, List.set_cons_zero, List.set_cons_succ]
    refine wpAnyH_take (i := 5) (v := undef) rfl (by kernel_rfl) (by kernel_rfl) (by kernel_rfl) (fun _ _ _ h => h) (Or.inr ⟨by rfl, rfl⟩) (by assumption) ?_
    try simp only [Act.put, List.getElem_toArray, List.getElem_cons_succ, List.getElem_cons_zero, List.setIfInBounds_toArray, List.set_cons_zero, List.set_cons_succ]
    refine wpAnyH_take (i := 6) (v := undef) rfl (by kernel_rfl) (by kernel_rfl) (by kernel_rfl) (fun _ _ _ h => h) (Or.inr ⟨by rfl, rfl⟩) (by assumption) ?_
    try simp only [Act.put, List.getElem_toArray, List.getElem_cons_succ, List.getElem_cons_zero, List.setIfInBounds_toArray, List.set_cons_zero, List.set_cons_succ]
    refine wpAnyH_take (i := 7) (v := undef) rfl (by kernel_rfl) (by kernel_rfl) (by kernel_rfl) (fun _ _ _ h => h) (Or.inr ⟨by rfl, rfl⟩) (by assumption) ?_
    try simp only [Act.put, List.getElem_toArray, List.getElem_cons_succ, List.getElem_cons_zero, List.setIfInBounds_toArray, List.set_cons_zero, List.set_cons_succ]
    refine wpAnyH_take (i := 8) (v := undef) rfl (by kernel_rfl) (by kernel_rfl) (by kernel_rfl) (fun _ _ _ h => h) (Or.inr ⟨by rfl, rfl⟩) (by assumption) ?_
    try simp only [Act.put, List.getElem_toArray, List.getElem_cons_succ, List.getElem_cons_zero, List.setIfInBounds_toArray, List.set_cons_zero, List.set_cons_succ]
    refine wpAnyH_take (i := 9) (v := undef) rfl (by kernel_rfl) (by kernel_rfl) (by kernel_rfl) (fun _ _ _ h => h) (Or.inr ⟨by rfl, rfl⟩) (by assumption) ?_
    try simp only [Act.put, List.getElem_toArray, List.getElem_cons_succ, List.getElem_cons_zero, List.setIfInBounds_toArray, List.set_cons_zero, List.set_cons_succ]
    refine wpAnyH_take (i := 10) (v := undef) rfl (by kernel_rfl) (by kernel_rfl) (by kernel_rfl) (fun _ _ _ h => h) (Or.inr ⟨by rfl, rfl⟩) (by assumption) ?_
    try simp only [Act.put, List.getElem_toArray, List.getElem_cons_succ, List.getElem_cons_zero, List.setIfInBounds_toArray, List.set_cons_zero, List.set_cons_succ]
    refine wpAnyH_take (i := 11) (v := ?_) rfl (by kernel_rfl) (by kernel_rfl) (by kernel_rfl) (fun _ _ _ h => h) (Or.inl ⟨by rfl, ?_⟩) (by assumption) ?_
    rotate_left
    · intro w hSw; (try dsimp only at hSw); go_simp; try with_reducible rfl
    try simp only [Act.put, List.getElem_toArray, List.getElem_cons_succ, List.getElem_cons_zero, List.setIfInBounds_toArray, List.set_cons_zero, List.set_cons_succ]
    refine wpAnyH_take (i := 12) (v := ?_) rfl (by kernel_rfl) (by kernel_rfl) (by kernel_rfl) (fun _ _ _ h => h) (Or.inl ⟨by rfl, ?_⟩) (by assumption) ?_
    rotate_left
    · intro w hSw; (try dsimp only at hSw); go_simp; try with_reducible rfl
    try simp only [Act.put, List.getElem_toArray, List.getElem_cons_succ, List.getElem_cons_zero, List.setIfInBounds_toArray, List.set_cons_zero, List.set_cons_succ]
    refine wpAnyH_done (by kernel_rfl) ?_ _
    have HB := hHeld.2.2
    clear hHeld
    go_wp2
    go_ret
    exact ⟨ret_bool HE.out.symm, HB.out⟩
  · skip
    refine wpAnyH_take (i := 3) (v := ?_) rfl (by kernel_rfl) (by kernel_rfl) (by kernel_rfl) (fun _ _ _ h => h) (Or.inl ⟨by rfl, ?_⟩) (by assumption) ?_
    rotate_left
    · intro w hSw; (try dsimp only at hSw); go_simp; try with_reducible rfl
    try simp only [Act.put, List.getElem_toArray, List.getElem_cons_succ, List.getElem_cons_zero, List.setIfInBounds_toArray, List.set_cons_zero, List.set_cons_succ]
    refine wpAnyH_take (i := 4) (v := ?_) rfl (by kernel_rfl) (by kernel_rfl) (by kernel_rfl) (fun _ _ _ h => h) (Or.inl ⟨by rfl, ?_⟩) (by assumption) ?_
    rotate_left
    · intro w hSw; (try dsimp only at hSw); go_simp; try with_reducible rfl
    try simp only [Act.put, List.getElem_toArray, List.getElem_cons_succ, List.getElem_cons_zero, List.setIfInBounds_toArray, List.set_cons_zero, List.set_cons_succ]
    refine wpAnyH_take (i := 5) (v := ?_) rfl (by kernel_rfl) (by kernel_rfl) (by kernel_rfl) (fun _ _ _ h => h) (Or.inl ⟨by rfl, ?_⟩) (by assumption) ?_
    rotate_left
    · intro w hSw; (try dsimp only at hSw); go_simp; try with_reducible rfl
    try simp only [Act.put, List.getElem_toArray, List.getElem_cons_succ, List.getElem_cons_zero, List.setIfInBounds_toArray, List.set_cons_zero, List.set_cons_succ]
    refine wpAnyH_take (i := 7) (v := ?_) rfl (by kernel_rfl) (by kernel_rfl) (by kernel_rfl) (fun _ _ _ h => h) (Or.inl ⟨by rfl, ?_⟩) (by assumption) ?_
    rotate_left
    · intro w hSw; (try dsimp only at hSw); go_simp; try with_reducible rfl
    try simp only [Act.put, List.getElem_toArray, List.getElem_cons_succ, List.getElem_cons_zero, List.setIfInBounds_toArray, List.set_cons_zero, List.set_cons_succ]
    refine wpAnyH_take (i := 8) (v := ?_) rfl (by kernel_rfl) (by kernel_rfl) (by kernel_rfl) (fun _ _ _ h => h) (Or.inl ⟨by rfl, ?_⟩) (by assumption) ?_
    rotate_left
    · intro w hSw; (try dsimp only at hSw); go_simp; try with_reducible rfl
    try simp only [Act.put, List.getElem_toArray, List.getElem_cons_succ, List.getElem_cons_zero, List.setIfInBounds_toArray, List.set_cons_zero, List.set_cons_succ]
    refine wpAnyH_ready (rs := [6]) (by kernel_rfl) (by simp) (AllReadyH.cons rfl (fun K hK => ?_) AllReadyH.nil)
    rw [if_pos (by rfl)]
    go_simp; go_at_call 91; refine (C2.out rfl _ (HV.out.trie.below hHeld.2.2.out)).mono ?_; rintro e w1 ⟨u1, rfl, ho1, hb1⟩; go_wp2_with fail
    refine hK.out _ _ ?_ (fun hHeld => ?_)
    · exact KS.out _ _ hHeld hb1
    clear hK K
    try simp only [Act.put, List.getElem_toArray, List.getElem_cons_succ, List.getElem_cons_zero, List.setIfInBounds_toArray, List.set_cons_zero, List.set_cons_succ]
    refine wpAnyH_ready (rs := [9]) (by kernel_rfl) (by simp) (AllReadyH.cons rfl (fun K hK => ?_) AllReadyH.nil)
    rw [if_pos (by rfl)]
    go_simp; go_at_call 62; refine (C3.out _ (HV.out.subs.below hHeld.2.2.out)).mono ?_; rintro e w2 ⟨u2, S, rfl, ho2, hp2, hw2, hb2⟩; go_wp2_with fail
    refine hK.out _ _ ?_ (fun hHeld => ?_)
    · exact KS.out _ _ hHeld hb2
    clear hK K
    try simp only [Act.put, List.getElem_toArray, List.getElem_cons_succ, List.getElem_cons_zero, List.setIfInBounds_toArray, List.set_cons_zero, List.set_cons_succ]
    have HO1 := Lib.hid (row_below ho1 hb2)
    have HO2 := Lib.hid ho2
    have HE := Lib.hid (show R = decide (placesT b.trie = S) by
      rw [HQ.out, Bool.true_and]
      by_cases h : placesT b.trie = S
      · rw [decide_eq_true h, decide_eq_true ((HP.out S (by trivial) hp2 hw2).1 h)]
      · rw [decide_eq_false h, decide_eq_false (fun e => h ((HP.out S (by trivial) hp2 hw2).2 e))])
    have HL1 := Lib.hid (HPL.out (by trivial))
    have HL2 := Lib.hid (HLL.out S hp2)
    clear ho1 hb1 ho2 hp2 hw2 hb2
    refine wpAnyH_ready (rs := [10]) (by kernel_rfl) (by simp) (AllReadyH.cons rfl (fun K hK => ?_) AllReadyH.nil)
    rw [if_pos (by rfl)]
    go_simp; go_at_call 90; refine (equalP_any u1 u2 (placesT b.trie) S _ _ _ (by have := HL1.out; omega) (by have := HL2.out; omega) HO1.out HO2.out).mono ?_; rintro e w3 ⟨rfl, hb3⟩; go_wp2_with fail
    refine hK.out _ _ ?_ (fun hHeld => ?_)
    · exact KS.out _ _ hHeld hb3
    clear hK K
    try simp only [Act.put, List.getElem_toArray, List.getElem_cons_succ, List.getElem_cons_zero, List.setIfInBounds_toArray, List.set_cons_zero, List.set_cons_succ]
    refine wpAnyH_take (i := 11) (v := ?_) rfl (by kernel_rfl) (by kernel_rfl) (by kernel_rfl) (fun _ _ _ h => h) (Or.inl ⟨by rfl, ?_⟩) (by assumption) ?_
    rotate_left
    · intro w hSw; (try dsimp only at hSw); go_simp; try with_reducible rfl
    try simp only [Act.put, List.getElem_toArray, List.getElem_cons_succ, List.getElem_cons_zero, List.setIfInBounds_toArray, List.set_cons_zero, List.set_cons_succ]
    refine wpAnyH_take (i := 12) (v := ?_) rfl (by kernel_rfl) (by kernel_rfl) (by kernel_rfl) (fun _ _ _ h => h) (Or.inl ⟨by rfl, ?_⟩) (by assumption) ?_
    rotate_left
    · intro w hSw; (try dsimp only at hSw); go_simp; try with_reducible rfl
    try simp only [Act.put, List.getElem_toArray, List.getElem_cons_succ, List.getElem_cons_zero, List.setIfInBounds_toArray, List.set_cons_zero, List.set_cons_succ]
    refine wpAnyH_done (by kernel_rfl) ?_ _
    have HB := hHeld.2.2
    clear hHeld
    go_wp2
    go_ret
    exact ⟨ret_bool HE.out.symm, HB.out⟩

end Go.Proofs.YtmfbffhbgelnnaaGreatDoor
