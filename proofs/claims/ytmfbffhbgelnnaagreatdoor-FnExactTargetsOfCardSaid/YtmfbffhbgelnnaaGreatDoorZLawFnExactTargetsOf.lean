/- The law FnExactTargetsOf holds at every argument: for every input it returns true and leaves the input as it was. -/
import Derived.Test.YtmfbffhbgelnnaaGreatDoorZB1
import Derived.Test.YtmfbffhbgelnnaaGreatDoorZEqSub
import Derived.Test.YtmfbffhbgelnnaaGreatDoorZToBr
import Derived.Test.YtmfbffhbgelnnaaGreatDoorZMkBr
import Derived.Test.YtmfbffhbgelnnaaGreatDoorZB13
import Derived.Test.YtmfbffhbgelnnaaGreatDoorZSBrok2
import Derived.Test.YtmfbffhbgelnnaaGreatDoorZBrRead
import Derived.Test.YtmfbffhbgelnnaaGreatDoorZB8
set_option linter.unusedSimpArgs false
set_option linter.unusedVariables false
namespace Go.Proofs.YtmfbffhbgelnnaaGreatDoor.lawFnExactTargetsOf
open Go.ChangeShapes Go.WideShapes Go.ChangeAt Go.RowKit Go.WideMaps Go.WideElems
open Go.ChangeMaps (open_string shut_string)

theorem apart_of {B n N : Nat} {s : Nat} {E : TypeId} {w : World} {u v : Value} {xs : List Value} (h : w.ownsRow B E s u n xs) (k : ∀ b, v.ownBlock = some b → b < B) : Apart u v := by
  cases e : u.ownBlock with
  | none => exact .inl e
  | some b => exact .inr (fun e2 => by have h1 := (h.lt b e).1; have h2 := k b (by rw [← e2, e]); omega)

set_option maxRecDepth 100000 in
set_option maxHeartbeats 6400000 in
theorem law (w : World) (b : BrokerM) (v : BrV) (hv : BrAt w v b) (hp : BrLen b) (t : ByteArray) (ht : t.size ≤ maxLen) (m : Int) (hm : w.cell? ⟨0, 0, none⟩ = some (.int .i64 m)) :
    Calls Tryz.prog 5 #[bragg b v, .string t] w fun e w' => e = .returned (.bool true) ∧ Below w.heap.size w w' := by
  unfold maxLen at ht
  have cz := fun wx (h : BrAt wx v b) => szBroker_any b v 1048576 wx (by omega) (by omega) hp h
  have HV := Lib.hid hv
  obtain ⟨a1, ac1, a2, ac2, a3, ac3, a5, ac5, rfl⟩ := hv.slices
  have X0 : (w.alloc (.cells (brcells b ⟨.slice a1 b.subs.length ac1, .slice a2 b.trie.length ac2, .slice a3 b.keep.length ac3, .slice a5 b.ring.length ac5⟩) 28)).heap[w.heap.size]? = some (.cells (brcells b ⟨.slice a1 b.subs.length ac1, .slice a2 b.trie.length ac2, .slice a3 b.keep.length ac3, .slice a5 b.ring.length ac5⟩) 28 (0, 0)) := heap_alloc_new _ _
  have b0 := (Below.refl w.heap.size w).alloc (Nat.le_refl _) (.cells (brcells b ⟨.slice a1 b.subs.length ac1, .slice a2 b.trie.length ac2, .slice a3 b.keep.length ac3, .slice a5 b.ring.length ac5⟩) 28)
  by_cases htl : 1048576 < t.size
  · go_enter Tryz.func5, Tryz.ntmps5
    go_upto_region 1 with (fail)
    change Code.wp _ _ _ _ (w.alloc (.cells (brcells b ⟨.slice a1 b.subs.length ac1, .slice a2 b.trie.length ac2, .slice a3 b.keep.length ac3, .slice a5 b.ring.length ac5⟩) 28))
    generalize w.alloc (.cells (brcells b ⟨.slice a1 b.subs.length ac1, .slice a2 b.trie.length ac2, .slice a3 b.keep.length ac3, .slice a5 b.ring.length ac5⟩) 28) = w0 at X0 b0 ⊢
    have B0 := Lib.hid b0
    clear X0 b0 cz
    go_wp2
    go_ret
    exact ⟨rfl, B0.out⟩
  by_cases hz : szBr b 1048576 < 0
  · have g1 : decide (szBr b 1048576 < 0) = true := decide_eq_true hz
    go_enter Tryz.func5, Tryz.ntmps5
    go_upto_region 4 with (fail)
    change Code.wp _ _ _ _ (w.alloc (.cells (brcells b ⟨.slice a1 b.subs.length ac1, .slice a2 b.trie.length ac2, .slice a3 b.keep.length ac3, .slice a5 b.ring.length ac5⟩) 28))
    generalize w.alloc (.cells (brcells b ⟨.slice a1 b.subs.length ac1, .slice a2 b.trie.length ac2, .slice a3 b.keep.length ac3, .slice a5 b.ring.length ac5⟩) 28) = w0 at X0 b0 ⊢
    go_wp2_with (refine wpList_load_row rfl 28 (.tmp 2) rfl w.heap.size rfl 28 (brcells b ⟨.slice a1 b.subs.length ac1, .slice a2 b.trie.length ac2, .slice a3 b.keep.length ac3, .slice a5 b.ring.length ac5⟩) (0, 0) _ X0 Tryz.underlying28 rfl (by kernel_rfl) ?_)
    refine (cz _ (HV.out.below b0)).mono ?_
    clear cz
    rintro e w1 ⟨rfl, b1⟩
    have B1 := Lib.hid (below_end b0 b1)
    clear b1 b0 X0
    go_wp2
    go_ret
    exact ⟨rfl, B1.out⟩
  have g1 : decide (szBr b 1048576 < 0) = false := decide_eq_false hz
  have hsm : BrSmall b := szBr_small (by omega) (by omega) (by omega : 0 ≤ szBr b 1048576)
  have hbend : bend b ≤ 30000000 := szBr_bend (by omega)
  have hi4 : (targetsM b t).length ≤ 100 := by
    unfold targetsM
    split
    · exact rises_short idsL_rises
    · exact Nat.zero_le _
  have CT := Lib.hid (fun wx (h : BrAt wx ⟨.slice a1 b.subs.length ac1, .slice a2 b.trie.length ac2, .slice a3 b.keep.length ac3, .slice a5 b.ring.length ac5⟩ b) => toBroker_any b ⟨.slice a1 b.subs.length ac1, .slice a2 b.trie.length ac2, .slice a3 b.keep.length ac3, .slice a5 b.ring.length ac5⟩ wx (by have := hsm.subs; omega) (fun s hs => by have := (hsm.qs s hs).1; omega) (by have := hsm.trie.1; omega) (fun x hx => by have := (hsm.trie.2 x hx).2; omega) (by have := hsm.keep; omega) (by have := hsm.ring; omega) h)
  have CS := Lib.hid (fun u wx (h : BrAt wx u b) => specTargets_any b u t wx hsm (by omega) h)
  have CI := Lib.hid (fun u wx (h : BrAt wx u b) h2 => implTargets_any b u t m wx hsm (by omega) h h2)
  have CE := Lib.hid (fun u1 u2 wx (h1 : BrAt wx u1 b) (h2 : BrAt wx u2 b) => eqBroker_any b u1 u2 wx (by have := hsm.subs; omega) (fun s hs => by have := (hsm.qs s hs).1; omega) (by have := hsm.trie.1; omega) (fun x hx => by have := (hsm.trie.2 x hx).2; omega) (by have := hsm.keep; omega) (by have := hsm.ring; omega) h1 h2)
  have CK := Lib.hid (fun u qs us B wx (h : BrOwn wx B u b qs us) => markBroker_any b u qs us B wx hbend h)
  obtain ⟨I, hI⟩ : ∃ I, targetsM b t = I := ⟨_, rfl⟩
  rw [hI] at CS CI hi4
  have CQ := Lib.hid (fun u1 u2 wx (h1 : IntsAt wx u1 I) (h2 : IntsAt wx u2 I) => eqInts_any u1 u2 I wx (by omega) h1 h2)
  have CM := Lib.hid (fun u B wx (h : wx.ownsRow B 2 1 u I.length (ints I)) => markInts_any u I 1 B wx (by omega) h)
  have CH := Lib.hid (fun u wx (h : IntsAt wx u (imarks 1 I.length)) => heldInts_any u 1 I.length wx (by omega) h)
  obtain ⟨K1, hK1⟩ : ∃ K, bend b = K := ⟨_, rfl⟩
  obtain ⟨N1, hN1⟩ : ∃ N, 1 + I.length = N := ⟨_, rfl⟩
  rw [hK1] at CK; rw [hN1] at CM CH
  have g2 : decide ((K1 : Int) < 0) = false := decide_eq_false (by omega)
  have g3 : decide ((N1 : Int) < 0) = false := decide_eq_false (by omega)
  have g4 : ((N1 : Int) != (N1 : Int)) = false := by simp
  obtain ⟨z, hz2⟩ : ∃ z, szBr b 1048576 = z := ⟨_, rfl⟩
  simp only [hz2] at g1 cz
  have HM := Lib.hid hm
  have hlt : 0 < w.heap.size := World.block_lt_of_cell? _ _ hm
  clear hI hm hz hz2 hsm hp hv hbend hK1 hN1 hi4
  go_enter Tryz.func5, Tryz.ntmps5
  go_upto_region 4 with (fail)
  change Code.wp _ _ _ _ (w.alloc (.cells (brcells b ⟨.slice a1 b.subs.length ac1, .slice a2 b.trie.length ac2, .slice a3 b.keep.length ac3, .slice a5 b.ring.length ac5⟩) 28))
  generalize w.alloc (.cells (brcells b ⟨.slice a1 b.subs.length ac1, .slice a2 b.trie.length ac2, .slice a3 b.keep.length ac3, .slice a5 b.ring.length ac5⟩) 28) = w0 at X0 b0 ⊢
  have hw0 : w.heap.size < w0.heap.size := (Array.getElem?_eq_some_iff.1 X0).1
  go_wp2_with (refine wpList_load_row rfl 28 (.tmp 2) rfl w.heap.size rfl 28 (brcells b ⟨.slice a1 b.subs.length ac1, .slice a2 b.trie.length ac2, .slice a3 b.keep.length ac3, .slice a5 b.ring.length ac5⟩) (0, 0) _ X0 Tryz.underlying28 rfl (by kernel_rfl) ?_)
  refine (cz w0 (HV.out.below b0)).mono ?_
  clear cz
  rintro e w1 ⟨rfl, b1⟩
  have B1 := Lib.hid (below_end b0 b1)
  have X1 := (b1.block _ hw0).trans X0
  clear b1 b0 X0 hw0
  go_wp2_with (refine wpList_load_row rfl 28 (.tmp 2) rfl w.heap.size rfl 28 (brcells b ⟨.slice a1 b.subs.length ac1, .slice a2 b.trie.length ac2, .slice a3 b.keep.length ac3, .slice a5 b.ring.length ac5⟩) (0, 0) _ X1 Tryz.underlying28 rfl (by kernel_rfl) ?_)
  refine (CT.out w1 (HV.out.below B1.out)).mono ?_
  rintro e w2 ⟨u2, _, _, rfl, k2, b2⟩
  have K2 := Lib.hid k2.at
  have B2 := Lib.hid (below_end B1.out b2)
  have X2 := (b2.block _ (Array.getElem?_eq_some_iff.1 X1).1).trans X1
  clear b2 k2 B1 X1
  go_wp2_with fail
  refine (CS.out _ w2 K2.out).mono ?_
  rintro e w3 ⟨u3, rfl, o3, b3⟩
  have R3 := Lib.hid (own_ints_at o3)
  have B3 := Lib.hid (below_end B2.out b3)
  have X3 := (b3.block _ (Array.getElem?_eq_some_iff.1 X2).1).trans X2
  obtain ⟨sa, sc, hsv⟩ := own_slice o3
  subst hsv
  clear b3 o3 K2 B2 X2
  go_wp2_with (refine wpList_load_row rfl 28 (.tmp 2) rfl w.heap.size rfl 28 (brcells b ⟨.slice a1 b.subs.length ac1, .slice a2 b.trie.length ac2, .slice a3 b.keep.length ac3, .slice a5 b.ring.length ac5⟩) (0, 0) _ X3 Tryz.underlying28 rfl (by kernel_rfl) ?_)
  refine (CT.out w3 (HV.out.below B3.out)).mono ?_
  rintro e w4 ⟨u4, qs, us, rfl, k4, b4⟩
  obtain ⟨d1, dc1, d2, dc2, d3, dc3, d5, dc5, rfl⟩ := k4.at.slices
  have L4 := k4.lt
  have C4 := Lib.hid b4
  have B4 := Lib.hid (below_end B3.out b4)
  have X4 := (b4.block _ (Array.getElem?_eq_some_iff.1 X3).1).trans X3
  have s3 : w.heap.size < w3.heap.size := (Array.getElem?_eq_some_iff.1 X3).1
  clear b4 B3 X3
  go_upto_region 9 with (fail)
  have Y5 : (w4.alloc (.cells (brcells b ⟨.slice d1 b.subs.length dc1, .slice d2 b.trie.length dc2, .slice d3 b.keep.length dc3, .slice d5 b.ring.length dc5⟩) 37)).heap[w4.heap.size]? = some (.cells (brcells b ⟨.slice d1 b.subs.length dc1, .slice d2 b.trie.length dc2, .slice d3 b.keep.length dc3, .slice d5 b.ring.length dc5⟩) 37 (0, 0)) := heap_alloc_new _ _
  have b5 := (Below.refl w4.heap.size w4).alloc (Nat.le_refl _) (.cells (brcells b ⟨.slice d1 b.subs.length dc1, .slice d2 b.trie.length dc2, .slice d3 b.keep.length dc3, .slice d5 b.ring.length dc5⟩) 37)
  change Code.wp _ _ _ _ (w4.alloc (.cells (brcells b ⟨.slice d1 b.subs.length dc1, .slice d2 b.trie.length dc2, .slice d3 b.keep.length dc3, .slice d5 b.ring.length dc5⟩) 37))
  generalize w4.alloc (.cells (brcells b ⟨.slice d1 b.subs.length dc1, .slice d2 b.trie.length dc2, .slice d3 b.keep.length dc3, .slice d5 b.ring.length dc5⟩) 37) = w5 at Y5 b5 ⊢
  have K5 := Lib.hid (k4.below b5)
  have C5 := Lib.hid (below_end C4.out b5)
  have B5 := Lib.hid (below_end B4.out b5)
  have X5 := (b5.block _ (Array.getElem?_eq_some_iff.1 X4).1).trans X4
  have s45 : w4.heap.size < w5.heap.size := (Array.getElem?_eq_some_iff.1 Y5).1
  clear b5 k4 C4 B4 X4
  obtain ⟨G, hG⟩ : ∃ G, w4.heap.size = G := ⟨_, rfl⟩
  rw [hG] at Y5 L4 s45 ⊢
  clear hG
  have NEP := Lib.hid (show ∀ y ∈ brRows ⟨.slice d1 b.subs.length dc1, .slice d2 b.trie.length dc2, .slice d3 b.keep.length dc3, .slice d5 b.ring.length dc5⟩ qs us, ∀ k, y.ownBlock = some k → k ≠ w.heap.size from fun y hy k hk => by have := (L4 y hy k hk).1; omega)
  have GE3 := Lib.hid (show ∀ y ∈ brRows ⟨.slice d1 b.subs.length dc1, .slice d2 b.trie.length dc2, .slice d3 b.keep.length dc3, .slice d5 b.ring.length dc5⟩ qs us, ∀ k, y.ownBlock = some k → w3.heap.size ≤ k from fun y hy k hk => (L4 y hy k hk).1)
  have LT5 := Lib.hid (show ∀ y ∈ brRows ⟨.slice d1 b.subs.length dc1, .slice d2 b.trie.length dc2, .slice d3 b.keep.length dc3, .slice d5 b.ring.length dc5⟩ qs us, ∀ k, y.ownBlock = some k → k < w5.heap.size from fun y hy k hk => Nat.lt_trans (L4 y hy k hk).2 s45)
  clear L4
  go_wp2_with (refine wpList_load_row rfl 37 (.tmp 7) rfl G rfl 37 (brcells b ⟨.slice d1 b.subs.length dc1, .slice d2 b.trie.length dc2, .slice d3 b.keep.length dc3, .slice d5 b.ring.length dc5⟩) (0, 0) _ Y5 Tryz.underlying37 rfl (by kernel_rfl) ?_)
  refine (CI.out _ w5 K5.out.at ((B5.out.cell hlt).trans HM.out)).mono ?_
  rintro e w6 ⟨u6, rfl, o6, b6⟩
  have K6 := Lib.hid (K5.out.below b6)
  have C6 := Lib.hid (below_end C5.out b6)
  have B6 := Lib.hid (below_end B5.out b6)
  have X6 := (b6.block _ (Array.getElem?_eq_some_iff.1 X5).1).trans X5
  have Y6 := (b6.block _ (Array.getElem?_eq_some_iff.1 Y5).1).trans Y5
  have A6 : Hid (∀ y ∈ brRows ⟨.slice d1 b.subs.length dc1, .slice d2 b.trie.length dc2, .slice d3 b.keep.length dc3, .slice d5 b.ring.length dc5⟩ qs us, Apart u6 y) := Lib.hid (fun y hy => apart_of (N := 0) o6 (LT5.out y hy))
  have GU : Hid (∀ k, u6.ownBlock = some k → w3.heap.size ≤ k ∧ w.heap.size < k) := Lib.hid (fun k hk => by have h1 := (o6.lt k hk).1; have h2 := C5.out.size; omega)
  obtain ⟨ia, ic, hiv⟩ := own_slice o6
  subst hiv
  have O6 := Lib.hid o6
  clear b6 o6 K5 C5 B5 X5 Y5 LT5 s45
  go_wp2_with fail
  refine (CQ.out _ _ w6 (own_ints_at O6.out) (R3.out.below C6.out)).mono ?_
  rintro e w7 ⟨rfl, b7⟩
  have K7 := Lib.hid (K6.out.below b7)
  have O7 := Lib.hid (row_below O6.out b7)
  have C7 := Lib.hid (below_end C6.out b7)
  have B7 := Lib.hid (below_end B6.out b7)
  have X7 := (b7.block _ (Array.getElem?_eq_some_iff.1 X6).1).trans X6
  have Y7 := (b7.block _ (Array.getElem?_eq_some_iff.1 Y6).1).trans Y6
  clear b7 K6 O6 C6 B6 X6 Y6
  go_upto_region 12 with (fail)
  have HH : Hid (Below w7.heap.size w7 w7.drew) := Lib.hid (Below.refl _ _).drew
  refine wp_region_held_drew (S := fun wx => wx.heap[w.heap.size]? = some (.cells (brcells b ⟨.slice a1 b.subs.length ac1, .slice a2 b.trie.length ac2, .slice a3 b.keep.length ac3, .slice a5 b.ring.length ac5⟩) 28 (0, 0)) ∧ wx.heap[G]? = some (.cells (brcells b ⟨.slice d1 b.subs.length dc1, .slice d2 b.trie.length dc2, .slice d3 b.keep.length dc3, .slice d5 b.ring.length dc5⟩) 37 (0, 0)) ∧ Hid (Below w7.heap.size w7 wx)) (by kernel_rfl) ?_ (fun hHeld => ?_)
  · exact ⟨X7, Y7, HH⟩
  change wpAnyH _ _ _ _ _ 5 #[false, false, false, false, false] _ _
  clear X7 Y7 HH
  refine wpAnyH_take (i := 0) (v := bragg b ⟨.slice d1 b.subs.length dc1, .slice d2 b.trie.length dc2, .slice d3 b.keep.length dc3, .slice d5 b.ring.length dc5⟩) rfl (by kernel_rfl) (by kernel_rfl) (by kernel_rfl) (fun _ _ _ h => h) (yieldsIf_load_mid rfl 37 (.tmp 7) rfl G 0 rfl [.int .i64 b.max, .slice d1 b.subs.length dc1, .slice d2 b.trie.length dc2, .slice d3 b.keep.length dc3, .int .i64 b.rcap, .slice d5 b.ring.length dc5, .int .i64 b.seq, .bool b.closed] _ (fun wx h => range_of_heap h.2.1) Tryz.underlying37 rfl (by kernel_rfl)) (by assumption) ?_
  try simp only [Act.put, List.getElem_toArray, List.getElem_cons_succ, List.getElem_cons_zero, List.setIfInBounds_toArray, List.set_cons_zero, List.set_cons_succ]
  refine wpAnyH_take (i := 1) (v := bragg b ⟨.slice a1 b.subs.length ac1, .slice a2 b.trie.length ac2, .slice a3 b.keep.length ac3, .slice a5 b.ring.length ac5⟩) rfl (by kernel_rfl) (by kernel_rfl) (by kernel_rfl) (fun _ _ _ h => h) (yieldsIf_load_mid rfl 28 (.tmp 2) rfl w.heap.size 0 rfl [.int .i64 b.max, .slice a1 b.subs.length ac1, .slice a2 b.trie.length ac2, .slice a3 b.keep.length ac3, .int .i64 b.rcap, .slice a5 b.ring.length ac5, .int .i64 b.seq, .bool b.closed] _ (fun wx h => range_of_heap h.1) Tryz.underlying28 rfl (by kernel_rfl)) (by assumption) ?_
  try simp only [Act.put, List.getElem_toArray, List.getElem_cons_succ, List.getElem_cons_zero, List.setIfInBounds_toArray, List.set_cons_zero, List.set_cons_succ]
  refine wpAnyH_ready (rs := [2]) (by kernel_rfl) (by simp) (AllReadyH.cons rfl (fun K hK => ?_) AllReadyH.nil)
  rw [if_pos (by rfl)]
  go_simp; go_at_call 9; refine (CT.out _ (HV.out.below (below_end B7.out hHeld.2.2.out))).mono ?_; rintro e w8 ⟨u8, _, _, rfl, k8, b8⟩; have K8 := Lib.hid k8.at; clear k8; obtain ⟨f1, fc1, f2, fc2, f3, fc3, f5, fc5, rfl⟩ := K8.out.slices; go_wp2_with fail
  refine hK.out _ _ ?_ (fun hHeld => ?_)
  · exact ⟨(b8.block _ (Array.getElem?_eq_some_iff.1 hHeld.1).1).trans hHeld.1, (b8.block _ (Array.getElem?_eq_some_iff.1 hHeld.2.1).1).trans hHeld.2.1, Lib.hid (below_end hHeld.2.2.out b8)⟩
  clear hK K
  try simp only [Act.put, List.getElem_toArray, List.getElem_cons_succ, List.getElem_cons_zero, List.setIfInBounds_toArray, List.set_cons_zero, List.set_cons_succ]
  clear b8
  refine wpAnyH_ready (rs := [3]) (by kernel_rfl) (by simp) (AllReadyH.cons rfl (fun K hK => ?_) AllReadyH.nil)
  rw [if_pos (by rfl)]
  go_simp; go_at_call 11; refine (CE.out _ _ _ (K7.out.at.below hHeld.2.2.out) K8.out).mono ?_; rintro e w9 ⟨rfl, b9⟩; go_wp2_with fail
  refine hK.out _ _ ?_ (fun hHeld => ?_)
  · exact ⟨(b9.block _ (Array.getElem?_eq_some_iff.1 hHeld.1).1).trans hHeld.1, (b9.block _ (Array.getElem?_eq_some_iff.1 hHeld.2.1).1).trans hHeld.2.1, Lib.hid (below_end hHeld.2.2.out b9)⟩
  clear hK K
  try simp only [Act.put, List.getElem_toArray, List.getElem_cons_succ, List.getElem_cons_zero, List.setIfInBounds_toArray, List.set_cons_zero, List.set_cons_succ]
  refine wpAnyH_take (i := 4) (v := ?_) rfl (by kernel_rfl) (by kernel_rfl) (by kernel_rfl) (fun _ _ _ h => h) (Or.inl ⟨by rfl, ?_⟩) (by assumption) ?_
  rotate_left
  · intro w hSw; (try dsimp only at hSw); go_simp; try with_reducible rfl
  try simp only [Act.put, List.getElem_toArray, List.getElem_cons_succ, List.getElem_cons_zero, List.setIfInBounds_toArray, List.set_cons_zero, List.set_cons_succ]
  refine wpAnyH_done (by kernel_rfl) ?_ _
  obtain ⟨XA, YA, HHA⟩ := hHeld
  rename_i wA
  have KA := Lib.hid (K7.out.below HHA.out)
  have OA := Lib.hid (row_below O7.out HHA.out)
  have CA := Lib.hid (below_end C7.out HHA.out)
  have BA := Lib.hid (below_end B7.out HHA.out)
  clear HHA K7 O7 C7 B7 K8
  go_upto_region 15 with (fail)
  go_wp2_with (refine wpList_load_row rfl 37 (.tmp 7) rfl G rfl 37 (brcells b ⟨.slice d1 b.subs.length dc1, .slice d2 b.trie.length dc2, .slice d3 b.keep.length dc3, .slice d5 b.ring.length dc5⟩) (0, 0) _ YA Tryz.underlying37 rfl (by kernel_rfl) ?_)
  refine (CK.out _ _ _ _ _ KA.out).mono ?_
  rintro e wB ⟨rfl, _, gB⟩
  have OB := Lib.hid (own_keptL OA.out gB A6.out)
  have CB := Lib.hid (CA.out.trans (gB.toBelow CA.out.size GE3.out))
  have BB := Lib.hid (BA.out.trans (gB.toBelow BA.out.size (fun y hy k hk => Nat.le_trans (Nat.le_of_lt s3) (GE3.out y hy k hk))))
  have XB := gB.box XA NEP.out
  clear gB XA YA KA OA CA BA A6 CK CE GE3 NEP
  go_wp2_with fail
  refine (CQ.out _ _ wB (own_ints_at OB.out) (R3.out.below CB.out)).mono ?_
  rintro e wC ⟨rfl, bC⟩
  have OC := Lib.hid (row_below OB.out bC)
  have CC := Lib.hid (below_end CB.out bC)
  have BC := Lib.hid (below_end BB.out bC)
  have XC := (bC.block _ (Array.getElem?_eq_some_iff.1 XB).1).trans XB
  clear bC OB CB BB XB
  go_wp2_with fail
  refine (CM.out _ _ wC OC.out).mono ?_
  rintro e wD ⟨rfl, oD, gD⟩
  have OD := Lib.hid (own_ints_at (l := imarks 1 I.length) oD)
  have CD := Lib.hid (CC.out.grown gD CC.out.size (fun k h => (GU.out k h).1))
  have BD := Lib.hid (BC.out.grown gD BC.out.size (fun k h => Nat.le_of_lt (GU.out k h).2))
  have XD := (gD.block _ (Array.getElem?_eq_some_iff.1 XC).1 (fun e => by have := (GU.out _ e.symm).2; omega)).trans XC
  clear oD gD OC CC BC XC CM
  go_wp2_with fail
  refine (CH.out _ wD OD.out).mono ?_
  rintro e wE ⟨rfl, bE⟩
  have OE := Lib.hid (OD.out.below bE)
  have CE2 := Lib.hid (below_end CD.out bE)
  have BE := Lib.hid (below_end BD.out bE)
  have XE := (bE.block _ (Array.getElem?_eq_some_iff.1 XD).1).trans XD
  clear bE OD CD BD XD
  go_wp2_with (refine wpList_load_row rfl 28 (.tmp 2) rfl w.heap.size rfl 28 (brcells b ⟨.slice a1 b.subs.length ac1, .slice a2 b.trie.length ac2, .slice a3 b.keep.length ac3, .slice a5 b.ring.length ac5⟩) (0, 0) _ XE Tryz.underlying28 rfl (by kernel_rfl) ?_)
  refine (CT.out wE (HV.out.below BE.out)).mono ?_
  rintro e wF ⟨uF, _, _, rfl, kF, bF⟩
  have KF := Lib.hid kF.at
  have OF := Lib.hid (OE.out.below bF)
  have CF := Lib.hid (below_end CE2.out bF)
  have BF := Lib.hid (below_end BE.out bF)
  clear bF kF OE CE2 BE XE
  go_wp2_with fail
  refine (CI.out _ wF KF.out ((BF.out.cell hlt).trans HM.out)).mono ?_
  rintro e wG ⟨uG, rfl, oG, bG⟩
  have QG := Lib.hid (own_ints_at oG)
  have OG := Lib.hid (OF.out.below bG)
  have CG := Lib.hid (below_end CF.out bG)
  have BG := Lib.hid (below_end BF.out bG)
  clear bG oG OF CF BF KF
  go_wp2_with fail
  refine (CQ.out _ _ wG QG.out (R3.out.below CG.out)).mono ?_
  rintro e wH ⟨rfl, bH⟩
  have OH := Lib.hid (OG.out.below bH)
  have BH := Lib.hid (below_end BG.out bH)
  clear bH OG CG BG QG
  go_wp2_with fail
  refine (CH.out _ wH OH.out).mono ?_
  rintro e wI ⟨rfl, bI⟩
  have BI := Lib.hid (below_end BH.out bI)
  clear bI OH BH
  go_wp2
  go_ret
  exact ⟨rfl, BI.out⟩

set_option maxRecDepth 100000 in
theorem contract (H : Type) (enc : TypeId × Value → H) (W : World) (base : Nat) (args : Array Value) (ds gs : List (DataW H)) (before : List MemPlace)
    (hval : ∀ (j : Nat) t v, Tryz.f5.params[j]? = some t → args[j]? = some v → Value.okWide Tryz.prog W .any base t v)
    (hW : DataW.Whole enc Tryz.prog Tryz.f5.params.toList Rows.fnExactTargetsOfSpec.vars false W args.toList ds gs before) (hsh : W.ShapedOpen Tryz.prog) :
    Calls Tryz.prog 5 args W fun e W' => ∃ v, e = .returned v ∧ Rows.fnExactTargetsOfSpec.post enc Tryz.prog Tryz.f5 false true false false W args v W' := by
  have hW' := hW
  obtain ⟨p, q, hA0, hV, rfl, hfz, hnd⟩ := hW
  have hA : DataW.TrodAll enc Tryz.prog W 0 (fun _ => true) true Tryz.f5.params.toList args.toList ds p := hA0
  rw [Tryz.params5] at hA hval
  obtain ⟨v0, vs0, d0, ds0, p0, q0, hargs, rfl, rfl, h0, r0⟩ := trodAll_cons hA
  obtain ⟨v1, vs1, d1, ds1, p1, q1, rfl, rfl, rfl, h1, r1⟩ := trodAll_cons r0
  obtain ⟨rfl, rfl, rfl⟩ := trodAll_nil r1
  obtain rfl : args = #[v0, v1] := by cases args; simp_all
  obtain ⟨rfl, rfl⟩ := trodVars_none hV
  obtain ⟨cs0, rfl, cz0⟩ := okWide_struct Tryz.underlying28 (hval 0 28 v0 rfl rfl)
  have k0 := h0
  have lt0 : ∀ x ∈ p0, x.block < W.heap.size := by obtain ⟨m, hm⟩ := k0; exact DataW.trod_lt m _ _ _ hm
  have w0 : ∃ (b : BrokerM) (v : BrV), cs0 = brcells b v ∧ BrAt W v b ∧ BrLen b := by
    obtain ⟨fuel, hf⟩ := h0
    obtain ⟨b, v, e, hk, hs⟩ := broker_read hf
    exact ⟨b, v, Array.toList_inj.1 e, hk, hs⟩
  obtain ⟨b0, v0, rfl, w0, s0⟩ := w0
  obtain ⟨a1, rfl, rfl, rfl, w1⟩ := open_string Tryz.underlying9 (hval 1 9 v1 rfl rfl) h1
  clear hA0
  simp only [List.append_nil] at hW'
  obtain ⟨m, hm⟩ := maxLen_cell hsh
  refine (law W b0 v0 w0 s0 a1 w1 m hm).mono fun e W' ⟨he, hg⟩ => ?_
  subst he
  exact ⟨_, rfl, _, _, _, [], _, [], hW', trodAll_cons_mk (shut_bool Tryz.underlying4 _) trodAll_mk0, trodAll_cons_mk (Below.trod laidOut (by kernel_rfl) (of_decide_eq_true (by kernel_rfl)) k0 hg lt0) (trodAll_cons_mk (shut_string Tryz.underlying9 w1) (trodAll_mk0)), rfl, hg.frame _, fun h => by cases h⟩

theorem reads (os : Os) {H : Type} (enc : TypeId × Value → H) : ∃ places, DataW.whole enc Tryz.prog ((World.laidAll Tryz.prog os Rows.fnExactTargetsOfRow.laid).forCall (fun _ _ => 0) ⟨#[], #[(.agg #[.int .i64 0, .slice none 0 0, .slice none 0 0, .slice none 0 0, .int .i64 0, .slice none 0 0, .int .i64 0, .bool false] : Value), (.string ByteArray.empty : Value)], []⟩).memory Tryz.f5.params.toList Rows.fnExactTargetsOfSpec.vars false (#[(.agg #[.int .i64 0, .slice none 0 0, .slice none 0 0, .slice none 0 0, .int .i64 0, .slice none 0 0, .int .i64 0, .bool false] : Value), (.string ByteArray.empty : Value)] : Array Value).toList 8 = some ([.agg [.lit (.int .i64 0), .nil, .nil, .nil, .agg [.lit (.int .i64 0), .nil], .lit (.int .i64 0), .lit (.bool false)], .lit (.string [])], [], places) :=
  ⟨[], by kernel_rfl⟩

theorem laid_met (os : Os) : laidMetH Tryz.prog Rows.fnExactTargetsOfRow.laid ((World.laidAll Tryz.prog os Rows.fnExactTargetsOfRow.laid).forCall (fun _ _ => 0) ⟨#[], #[(.agg #[.int .i64 0, .slice none 0 0, .slice none 0 0, .slice none 0 0, .int .i64 0, .slice none 0 0, .int .i64 0, .bool false] : Value), (.string ByteArray.empty : Value)], []⟩).memory := by
  rw [MakeChecks.laidMetH_plain _ _ _ (by kernel_rfl)]
  exact laidMet_laidAll _ (by kernel_rfl) (by kernel_rfl)

set_option maxRecDepth 100000 in
theorem lifted (os : Os) (started : os.Started) (H : Type) (enc : TypeId × Value → H) (F : Stop.Interp) :
    ReturnsInHanded {} Tryz.checked os 5 .any ((OpenSpec.ofChange Rows.fnExactTargetsOfSpec).preRow enc Tryz.prog Tryz.f5 Rows.fnExactTargetsOfRow.domain false Rows.fnExactTargetsOfRow.laid) (((OpenSpec.ofChange Rows.fnExactTargetsOfSpec).at F).post enc Tryz.prog Tryz.f5 false true false false) := by
  obtain ⟨places, hx⟩ := reads os enc
  refine returnsInHanded_of_row (C := Tryz.checked) (s := OpenSpec.ofChange Rows.fnExactTargetsOfSpec) own started (by kernel_rfl) Tryz.func5
    (witness_row_at (enc := enc) (C := Tryz.checked) false (World.laidAll Tryz.prog os Rows.fnExactTargetsOfRow.laid) #[(.agg #[.int .i64 0, .slice none 0 0, .slice none 0 0, .slice none 0 0, .int .i64 0, .slice none 0 0, .int .i64 0, .bool false] : Value), (.string ByteArray.empty : Value)] (World.laidAll_os _ _ _) (by kernel_rfl) (by kernel_rfl) (by kernel_rfl)
      (OpenSpec.preRow_of_cond 8 hx (by kernel_rfl) (fun k hk => by cases hk) (by kernel_rfl) (laid_met os))) ?_
  intro W base args ds gs before hval hW _ _ _ _ hsh _
  exact contract H enc W base args ds gs before hval hW hsh

theorem said : Rows.FnExactTargetsOfSaid :=
  OpenClaim.holds_of_cond 5 Tryz.f5 rfl rfl rfl rfl rfl rfl rfl ⟨rfl, rfl, rfl, rfl, rfl⟩ rfl rfl rfl rfl rfl (by kernel_rfl) Tryz.func5 (by kernel_rfl)
    (of_decide_eq_true (by kernel_rfl)) (by unfold Func.isWrapper; first | (rw [if_pos (by decide +kernel)]; kernel_rfl) | (rw [if_neg (by decide +kernel)]; exact ⟨rfl, rfl⟩))
    (fun os started H enc _ F => by rw [OpenClaim.pre_eq_preRow]; exact lifted os started H enc F)

theorem plain (f : FuncId) (fn : Func) (hf : Tryz.pinned.checked.prog.funcNamed Tryz.f5.name = some f) (hfn : Tryz.pinned.checked.prog.funcs[f]? = some fn) :
    ∀ (j : Nat) t, fn.params[j]? = some t → Tryz.pinned.checked.prog.wantsStandIn t = false := by
  obtain rfl : f = 5 := Option.some.inj ((show Tryz.prog.funcNamed Tryz.f5.name = some 5 by kernel_rfl).symm.trans hf) |>.symm
  obtain rfl : fn = Tryz.f5 := (Option.some.inj (Tryz.func5.symm.trans hfn)).symm
  intro j t ht
  rw [Tryz.params5] at ht
  have hm := Array.mem_of_getElem? ht
  have hall : (Tryz.f5.params.all fun u => !Tryz.prog.wantsStandIn u) = true := by kernel_rfl
  rw [Tryz.params5] at hall
  rw [Array.all_eq_true_iff_forall_mem] at hall
  have := hall t hm
  exact (show Tryz.prog.wantsStandIn t = false by simpa using this)

theorem card : Rows.FnExactTargetsOfCardSaid :=
  Claim7.holds_tied_plain_at .later [] _ _ _ _ said (fun _ h => by cases h) (by kernel_rfl) (fun _ h => by cases h) fnExactTargetsOf_row_tie rfl ⟨rfl, rfl⟩ (by kernel_rfl) rfl (fun f fn hf hfn => ⟨by kernel_rfl, plain f fn hf hfn⟩) (by kernel_rfl)
end Go.Proofs.YtmfbffhbgelnnaaGreatDoor.lawFnExactTargetsOf
