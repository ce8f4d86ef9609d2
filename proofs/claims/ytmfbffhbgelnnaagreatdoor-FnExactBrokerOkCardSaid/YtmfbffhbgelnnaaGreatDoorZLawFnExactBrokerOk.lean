/- The law FnExactBrokerOk holds at every argument: for every input it returns true and leaves the input as it was. -/
import Derived.Test.YtmfbffhbgelnnaaGreatDoorZB1
import Derived.Test.YtmfbffhbgelnnaaGreatDoorZEqSub
import Derived.Test.YtmfbffhbgelnnaaGreatDoorZToBr
import Derived.Test.YtmfbffhbgelnnaaGreatDoorZB13
import Derived.Test.YtmfbffhbgelnnaaGreatDoorZSBrok2
import Derived.Test.YtmfbffhbgelnnaaGreatDoorZBrRead
set_option linter.unusedSimpArgs false
set_option linter.unusedVariables false
namespace Go.Proofs.YtmfbffhbgelnnaaGreatDoor.lawFnExactBrokerOk
open Go.ChangeShapes Go.WideShapes Go.ChangeAt Go.RowKit Go.WideMaps Go.WideElems
open Go.ChangeMaps (open_string shut_string)

set_option maxRecDepth 100000 in
set_option maxHeartbeats 3200000 in
theorem law (w : World) (b : BrokerM) (v : BrV) (hv : BrAt w v b) (hp : BrLen b) (m : Int) (hm : w.cell? ⟨0, 0, none⟩ = some (.int .i64 m)) :
    Calls Tryz.prog 3 #[bragg b v] w fun e w' => e = .returned (.bool true) ∧ Below w.heap.size w w' := by
  have cz := fun wx (h : BrAt wx v b) => szBroker_any b v 1048576 wx (by omega) (by omega) hp h
  have HV := Lib.hid hv
  obtain ⟨a1, ac1, a2, ac2, a3, ac3, a5, ac5, rfl⟩ := hv.slices
  by_cases hz : szBr b 1048576 < 0
  · have g1 : decide (szBr b 1048576 < 0) = true := decide_eq_true hz
    go_enter Tryz.func3, Tryz.ntmps3
    go_upto_region 2 with (fail)
    have X0 : (w.alloc (.cells (brcells b ⟨.slice a1 b.subs.length ac1, .slice a2 b.trie.length ac2, .slice a3 b.keep.length ac3, .slice a5 b.ring.length ac5⟩) 28)).heap[w.heap.size]? = some (.cells (brcells b ⟨.slice a1 b.subs.length ac1, .slice a2 b.trie.length ac2, .slice a3 b.keep.length ac3, .slice a5 b.ring.length ac5⟩) 28 (0, 0)) := heap_alloc_new _ _
    have b0 := (Below.refl w.heap.size w).alloc (Nat.le_refl _) (.cells (brcells b ⟨.slice a1 b.subs.length ac1, .slice a2 b.trie.length ac2, .slice a3 b.keep.length ac3, .slice a5 b.ring.length ac5⟩) 28)
    change Code.wp _ _ _ _ (w.alloc (.cells (brcells b ⟨.slice a1 b.subs.length ac1, .slice a2 b.trie.length ac2, .slice a3 b.keep.length ac3, .slice a5 b.ring.length ac5⟩) 28))
    generalize w.alloc (.cells (brcells b ⟨.slice a1 b.subs.length ac1, .slice a2 b.trie.length ac2, .slice a3 b.keep.length ac3, .slice a5 b.ring.length ac5⟩) 28) = w0 at X0 b0 ⊢
    go_wp2_with (refine wpList_load_row rfl 28 (.tmp 1) rfl w.heap.size rfl 28 (brcells b ⟨.slice a1 b.subs.length ac1, .slice a2 b.trie.length ac2, .slice a3 b.keep.length ac3, .slice a5 b.ring.length ac5⟩) (0, 0) _ X0 Tryz.underlying28 rfl (by kernel_rfl) ?_)
    refine (cz _ (HV.out.below b0)).mono ?_
    clear cz
    rintro e w1 ⟨rfl, b1⟩
    have B1 := Lib.hid (below_end b0 b1)
    clear b1 b0
    go_wp2
    go_ret
    exact ⟨rfl, B1.out⟩
  have g1 : decide (szBr b 1048576 < 0) = false := decide_eq_false hz
  have hsm : BrSmall b := szBr_small (by omega) (by omega) (by omega : 0 ≤ szBr b 1048576)
  have CT := Lib.hid (fun wx (h : BrAt wx ⟨.slice a1 b.subs.length ac1, .slice a2 b.trie.length ac2, .slice a3 b.keep.length ac3, .slice a5 b.ring.length ac5⟩ b) => toBroker_any b ⟨.slice a1 b.subs.length ac1, .slice a2 b.trie.length ac2, .slice a3 b.keep.length ac3, .slice a5 b.ring.length ac5⟩ wx (by have := hsm.subs; omega) (fun s hs => by have := (hsm.qs s hs).1; omega) (by have := hsm.trie.1; omega) (fun x hx => by have := (hsm.trie.2 x hx).2; omega) (by have := hsm.keep; omega) (by have := hsm.ring; omega) h)
  have CS := Lib.hid (fun u wx (h : BrAt wx u b) => specBrokerOk_any b u wx hsm h)
  have CI := Lib.hid (fun u wx (h : BrAt wx u b) h2 => implBrokerOk_any b u m wx hsm h h2)
  have CE := Lib.hid (fun u1 u2 wx (h1 : BrAt wx u1 b) (h2 : BrAt wx u2 b) => eqBroker_any b u1 u2 wx (by have := hsm.subs; omega) (fun s hs => by have := (hsm.qs s hs).1; omega) (by have := hsm.trie.1; omega) (fun x hx => by have := (hsm.trie.2 x hx).2; omega) (by have := hsm.keep; omega) (by have := hsm.ring; omega) h1 h2)
  obtain ⟨r, hr⟩ : ∃ r, brokerB b = r := ⟨_, rfl⟩
  rw [hr] at CS CI
  obtain ⟨z, hz2⟩ : ∃ z, szBr b 1048576 = z := ⟨_, rfl⟩
  simp only [hz2] at g1 cz
  have HM := Lib.hid hm
  have hlt : 0 < w.heap.size := World.block_lt_of_cell? _ _ hm
  have e1 : (r != r) = false := by simp
  clear hr hm hz hz2 hsm hp hv
  go_enter Tryz.func3, Tryz.ntmps3
  go_upto_region 2 with (fail)
  have X0 : (w.alloc (.cells (brcells b ⟨.slice a1 b.subs.length ac1, .slice a2 b.trie.length ac2, .slice a3 b.keep.length ac3, .slice a5 b.ring.length ac5⟩) 28)).heap[w.heap.size]? = some (.cells (brcells b ⟨.slice a1 b.subs.length ac1, .slice a2 b.trie.length ac2, .slice a3 b.keep.length ac3, .slice a5 b.ring.length ac5⟩) 28 (0, 0)) := heap_alloc_new _ _
  have b0 := (Below.refl w.heap.size w).alloc (Nat.le_refl _) (.cells (brcells b ⟨.slice a1 b.subs.length ac1, .slice a2 b.trie.length ac2, .slice a3 b.keep.length ac3, .slice a5 b.ring.length ac5⟩) 28)
  change Code.wp _ _ _ _ (w.alloc (.cells (brcells b ⟨.slice a1 b.subs.length ac1, .slice a2 b.trie.length ac2, .slice a3 b.keep.length ac3, .slice a5 b.ring.length ac5⟩) 28))
  generalize w.alloc (.cells (brcells b ⟨.slice a1 b.subs.length ac1, .slice a2 b.trie.length ac2, .slice a3 b.keep.length ac3, .slice a5 b.ring.length ac5⟩) 28) = w0 at X0 b0 ⊢
  have hw0 : w.heap.size < w0.heap.size := (Array.getElem?_eq_some_iff.1 X0).1
  go_wp2_with (refine wpList_load_row rfl 28 (.tmp 1) rfl w.heap.size rfl 28 (brcells b ⟨.slice a1 b.subs.length ac1, .slice a2 b.trie.length ac2, .slice a3 b.keep.length ac3, .slice a5 b.ring.length ac5⟩) (0, 0) _ X0 Tryz.underlying28 rfl (by kernel_rfl) ?_)
  refine (cz w0 (HV.out.below b0)).mono ?_
  clear cz
  rintro e w1 ⟨rfl, b1⟩
  have B1 := Lib.hid (below_end b0 b1)
  have X1 := (b1.block _ hw0).trans X0
  clear b1 b0 X0 hw0
  go_wp2_with (refine wpList_load_row rfl 28 (.tmp 1) rfl w.heap.size rfl 28 (brcells b ⟨.slice a1 b.subs.length ac1, .slice a2 b.trie.length ac2, .slice a3 b.keep.length ac3, .slice a5 b.ring.length ac5⟩) (0, 0) _ X1 Tryz.underlying28 rfl (by kernel_rfl) ?_)
  refine (CT.out w1 (HV.out.below B1.out)).mono ?_
  rintro e w2 ⟨u2, _, _, rfl, k2, b2⟩
  have K2 := Lib.hid k2.at
  have B2 := Lib.hid (below_end B1.out b2)
  have X2 := (b2.block _ (Array.getElem?_eq_some_iff.1 X1).1).trans X1
  clear b2 k2 B1 X1
  go_wp2_with fail
  refine (CS.out _ w2 K2.out).mono ?_
  rintro e w3 ⟨rfl, b3⟩
  have B3 := Lib.hid (below_end B2.out b3)
  have X3 := (b3.block _ (Array.getElem?_eq_some_iff.1 X2).1).trans X2
  clear b3 K2 B2 X2
  go_wp2_with (refine wpList_load_row rfl 28 (.tmp 1) rfl w.heap.size rfl 28 (brcells b ⟨.slice a1 b.subs.length ac1, .slice a2 b.trie.length ac2, .slice a3 b.keep.length ac3, .slice a5 b.ring.length ac5⟩) (0, 0) _ X3 Tryz.underlying28 rfl (by kernel_rfl) ?_)
  refine (CT.out w3 (HV.out.below B3.out)).mono ?_
  rintro e w4 ⟨u4, _, _, rfl, k4, b4⟩
  have K4 := Lib.hid k4.at
  obtain ⟨d1, dc1, d2, dc2, d3, dc3, d5, dc5, rfl⟩ := K4.out.slices
  have B4 := Lib.hid (below_end B3.out b4)
  have X4 := (b4.block _ (Array.getElem?_eq_some_iff.1 X3).1).trans X3
  clear b4 k4 B3 X3
  go_upto_region 7 with (fail)
  have Y4 : (w4.alloc (.cells (brcells b ⟨.slice d1 b.subs.length dc1, .slice d2 b.trie.length dc2, .slice d3 b.keep.length dc3, .slice d5 b.ring.length dc5⟩) 37)).heap[w4.heap.size]? = some (.cells (brcells b ⟨.slice d1 b.subs.length dc1, .slice d2 b.trie.length dc2, .slice d3 b.keep.length dc3, .slice d5 b.ring.length dc5⟩) 37 (0, 0)) := heap_alloc_new _ _
  have b4 := (Below.refl w4.heap.size w4).alloc (Nat.le_refl _) (.cells (brcells b ⟨.slice d1 b.subs.length dc1, .slice d2 b.trie.length dc2, .slice d3 b.keep.length dc3, .slice d5 b.ring.length dc5⟩) 37)
  change Code.wp _ _ _ _ (w4.alloc (.cells (brcells b ⟨.slice d1 b.subs.length dc1, .slice d2 b.trie.length dc2, .slice d3 b.keep.length dc3, .slice d5 b.ring.length dc5⟩) 37))
  generalize w4.alloc (.cells (brcells b ⟨.slice d1 b.subs.length dc1, .slice d2 b.trie.length dc2, .slice d3 b.keep.length dc3, .slice d5 b.ring.length dc5⟩) 37) = w4b at Y4 b4 ⊢
  have K5 := Lib.hid (K4.out.below b4)
  have B5 := Lib.hid (below_end B4.out b4)
  have X5 := (b4.block _ (Array.getElem?_eq_some_iff.1 X4).1).trans X4
  clear b4 K4 B4 X4
  obtain ⟨G, hG⟩ : ∃ G, w4.heap.size = G := ⟨_, rfl⟩
  rw [hG] at Y4 ⊢
  clear hG
  go_wp2_with (refine wpList_load_row rfl 37 (.tmp 5) rfl G rfl 37 (brcells b ⟨.slice d1 b.subs.length dc1, .slice d2 b.trie.length dc2, .slice d3 b.keep.length dc3, .slice d5 b.ring.length dc5⟩) (0, 0) _ Y4 Tryz.underlying37 rfl (by kernel_rfl) ?_)
  refine (CI.out _ w4b K5.out ((B5.out.cell hlt).trans HM.out)).mono ?_
  rintro e w5 ⟨rfl, b5⟩
  have K6 := Lib.hid (K5.out.below b5)
  have B6 := Lib.hid (below_end B5.out b5)
  have X6 := (b5.block _ (Array.getElem?_eq_some_iff.1 X5).1).trans X5
  have Y6 := (b5.block _ (Array.getElem?_eq_some_iff.1 Y4).1).trans Y4
  clear b5 K5 B5 X5 Y4
  go_upto_region 10 with (fail)
  have HH : Hid (Below w5.heap.size w5 w5.drew) := Lib.hid (Below.refl _ _).drew
  refine wp_region_held_drew (S := fun wx => wx.heap[w.heap.size]? = some (.cells (brcells b ⟨.slice a1 b.subs.length ac1, .slice a2 b.trie.length ac2, .slice a3 b.keep.length ac3, .slice a5 b.ring.length ac5⟩) 28 (0, 0)) ∧ wx.heap[G]? = some (.cells (brcells b ⟨.slice d1 b.subs.length dc1, .slice d2 b.trie.length dc2, .slice d3 b.keep.length dc3, .slice d5 b.ring.length dc5⟩) 37 (0, 0)) ∧ Hid (Below w5.heap.size w5 wx)) (by kernel_rfl) ?_ (fun hHeld => ?_)
  · exact ⟨X6, Y6, HH⟩
  change wpAnyH _ _ _ _ _ 5 #[false, false, false, false, false] _ _
  clear X6 Y6 HH
  refine wpAnyH_take (i := 0) (v := bragg b ⟨.slice d1 b.subs.length dc1, .slice d2 b.trie.length dc2, .slice d3 b.keep.length dc3, .slice d5 b.ring.length dc5⟩) rfl (by kernel_rfl) (by kernel_rfl) (by kernel_rfl) (fun _ _ _ h => h) (yieldsIf_load_mid rfl 37 (.tmp 5) rfl G 0 rfl [.int .i64 b.max, .slice d1 b.subs.length dc1, .slice d2 b.trie.length dc2, .slice d3 b.keep.length dc3, .int .i64 b.rcap, .slice d5 b.ring.length dc5, .int .i64 b.seq, .bool b.closed] _ (fun wx h => range_of_heap h.2.1) Tryz.underlying37 rfl (by kernel_rfl)) (by assumption) ?_
  try simp only [Act.put, List.getElem_toArray, List.getElem_cons_succ, List.getElem_cons_zero, List.setIfInBounds_toArray, List.set_cons_zero, List.set_cons_succ]
  refine wpAnyH_take (i := 1) (v := bragg b ⟨.slice a1 b.subs.length ac1, .slice a2 b.trie.length ac2, .slice a3 b.keep.length ac3, .slice a5 b.ring.length ac5⟩) rfl (by kernel_rfl) (by kernel_rfl) (by kernel_rfl) (fun _ _ _ h => h) (yieldsIf_load_mid rfl 28 (.tmp 1) rfl w.heap.size 0 rfl [.int .i64 b.max, .slice a1 b.subs.length ac1, .slice a2 b.trie.length ac2, .slice a3 b.keep.length ac3, .int .i64 b.rcap, .slice a5 b.ring.length ac5, .int .i64 b.seq, .bool b.closed] _ (fun wx h => range_of_heap h.1) Tryz.underlying28 rfl (by kernel_rfl)) (by assumption) ?_
  try simp only [Act.put, List.getElem_toArray, List.getElem_cons_succ, List.getElem_cons_zero, List.setIfInBounds_toArray, List.set_cons_zero, List.set_cons_succ]
  refine wpAnyH_ready (rs := [2]) (by kernel_rfl) (by simp) (AllReadyH.cons rfl (fun K hK => ?_) AllReadyH.nil)
  rw [if_pos (by rfl)]
  go_simp; go_at_call 9; refine (CT.out _ (HV.out.below (below_end B6.out hHeld.2.2.out))).mono ?_; rintro e w6 ⟨u6, _, _, rfl, k6, b6⟩; have K7 := Lib.hid k6.at; clear k6; obtain ⟨f1, fc1, f2, fc2, f3, fc3, f5, fc5, rfl⟩ := K7.out.slices; go_wp2_with fail
  refine hK.out _ _ ?_ (fun hHeld => ?_)
  · exact ⟨(b6.block _ (Array.getElem?_eq_some_iff.1 hHeld.1).1).trans hHeld.1, (b6.block _ (Array.getElem?_eq_some_iff.1 hHeld.2.1).1).trans hHeld.2.1, Lib.hid (below_end hHeld.2.2.out b6)⟩
  clear hK K
  try simp only [Act.put, List.getElem_toArray, List.getElem_cons_succ, List.getElem_cons_zero, List.setIfInBounds_toArray, List.set_cons_zero, List.set_cons_succ]
  clear b6
  refine wpAnyH_ready (rs := [3]) (by kernel_rfl) (by simp) (AllReadyH.cons rfl (fun K hK => ?_) AllReadyH.nil)
  rw [if_pos (by rfl)]
  go_simp; go_at_call 11; refine (CE.out _ _ _ (K6.out.below hHeld.2.2.out) K7.out).mono ?_; rintro e w7 ⟨rfl, b7⟩; go_wp2_with fail
  refine hK.out _ _ ?_ (fun hHeld => ?_)
  · exact ⟨(b7.block _ (Array.getElem?_eq_some_iff.1 hHeld.1).1).trans hHeld.1, (b7.block _ (Array.getElem?_eq_some_iff.1 hHeld.2.1).1).trans hHeld.2.1, Lib.hid (below_end hHeld.2.2.out b7)⟩
  clear hK K
  try simp only [Act.put, List.getElem_toArray, List.getElem_cons_succ, List.getElem_cons_zero, List.setIfInBounds_toArray, List.set_cons_zero, List.set_cons_succ]
  refine wpAnyH_take (i := 4) (v := ?_) rfl (by kernel_rfl) (by kernel_rfl) (by kernel_rfl) (fun _ _ _ h => h) (Or.inl ⟨by rfl, ?_⟩) (by assumption) ?_
  rotate_left
  · intro w hSw; (try dsimp only at hSw); go_simp; try with_reducible rfl
  try simp only [Act.put, List.getElem_toArray, List.getElem_cons_succ, List.getElem_cons_zero, List.setIfInBounds_toArray, List.set_cons_zero, List.set_cons_succ]
  refine wpAnyH_done (by kernel_rfl) ?_ _
  have B8 := Lib.hid (below_end B6.out hHeld.2.2.out)
  clear hHeld
  go_wp2
  go_ret
  exact ⟨rfl, B8.out⟩

set_option maxRecDepth 100000 in
theorem contract (H : Type) (enc : TypeId × Value → H) (W : World) (base : Nat) (args : Array Value) (ds gs : List (DataW H)) (before : List MemPlace)
    (hval : ∀ (j : Nat) t v, Tryz.f3.params[j]? = some t → args[j]? = some v → Value.okWide Tryz.prog W .any base t v)
    (hW : DataW.Whole enc Tryz.prog Tryz.f3.params.toList Rows.fnExactBrokerOkSpec.vars false W args.toList ds gs before) (hsh : W.ShapedOpen Tryz.prog) :
    Calls Tryz.prog 3 args W fun e W' => ∃ v, e = .returned v ∧ Rows.fnExactBrokerOkSpec.post enc Tryz.prog Tryz.f3 false true false false W args v W' := by
  have hW' := hW
  obtain ⟨p, q, hA0, hV, rfl, hfz, hnd⟩ := hW
  have hA : DataW.TrodAll enc Tryz.prog W 0 (fun _ => true) true Tryz.f3.params.toList args.toList ds p := hA0
  rw [Tryz.params3] at hA hval
  obtain ⟨v0, vs0, d0, ds0, p0, q0, hargs, rfl, rfl, h0, r0⟩ := trodAll_cons hA
  obtain ⟨rfl, rfl, rfl⟩ := trodAll_nil r0
  obtain rfl : args = #[v0] := by cases args; simp_all
  obtain ⟨rfl, rfl⟩ := trodVars_none hV
  obtain ⟨cs0, rfl, cz0⟩ := okWide_struct Tryz.underlying28 (hval 0 28 v0 rfl rfl)
  have k0 := h0
  have lt0 : ∀ x ∈ p0, x.block < W.heap.size := by obtain ⟨m, hm⟩ := k0; exact DataW.trod_lt m _ _ _ hm
  have w0 : ∃ (b : BrokerM) (v : BrV), cs0 = brcells b v ∧ BrAt W v b ∧ BrLen b := by
    obtain ⟨fuel, hf⟩ := h0
    obtain ⟨b, v, e, hk, hs⟩ := broker_read hf
    exact ⟨b, v, Array.toList_inj.1 e, hk, hs⟩
  obtain ⟨b0, v0, rfl, w0, s0⟩ := w0
  clear hA0
  simp only [List.append_nil] at hW'
  obtain ⟨m, hm⟩ := maxLen_cell hsh
  refine (law W b0 v0 w0 s0 m hm).mono fun e W' ⟨he, hg⟩ => ?_
  subst he
  exact ⟨_, rfl, _, _, _, [], _, [], hW', trodAll_cons_mk (shut_bool Tryz.underlying4 _) trodAll_mk0, trodAll_cons_mk (Below.trod laidOut (by kernel_rfl) (of_decide_eq_true (by kernel_rfl)) k0 hg lt0) (trodAll_mk0), rfl, hg.frame _, fun h => by cases h⟩

theorem reads (os : Os) {H : Type} (enc : TypeId × Value → H) : ∃ places, DataW.whole enc Tryz.prog ((World.laidAll Tryz.prog os Rows.fnExactBrokerOkRow.laid).forCall (fun _ _ => 0) ⟨#[], #[(.agg #[.int .i64 0, .slice none 0 0, .slice none 0 0, .slice none 0 0, .int .i64 0, .slice none 0 0, .int .i64 0, .bool false] : Value)], []⟩).memory Tryz.f3.params.toList Rows.fnExactBrokerOkSpec.vars false (#[(.agg #[.int .i64 0, .slice none 0 0, .slice none 0 0, .slice none 0 0, .int .i64 0, .slice none 0 0, .int .i64 0, .bool false] : Value)] : Array Value).toList 8 = some ([.agg [.lit (.int .i64 0), .nil, .nil, .nil, .agg [.lit (.int .i64 0), .nil], .lit (.int .i64 0), .lit (.bool false)]], [], places) :=
  ⟨[], by kernel_rfl⟩

theorem laid_met (os : Os) : laidMetH Tryz.prog Rows.fnExactBrokerOkRow.laid ((World.laidAll Tryz.prog os Rows.fnExactBrokerOkRow.laid).forCall (fun _ _ => 0) ⟨#[], #[(.agg #[.int .i64 0, .slice none 0 0, .slice none 0 0, .slice none 0 0, .int .i64 0, .slice none 0 0, .int .i64 0, .bool false] : Value)], []⟩).memory := by
  rw [MakeChecks.laidMetH_plain _ _ _ (by kernel_rfl)]
  exact laidMet_laidAll _ (by kernel_rfl) (by kernel_rfl)

set_option maxRecDepth 100000 in
theorem lifted (os : Os) (started : os.Started) (H : Type) (enc : TypeId × Value → H) (F : Stop.Interp) :
    ReturnsInHanded {} Tryz.checked os 3 .any ((OpenSpec.ofChange Rows.fnExactBrokerOkSpec).preRow enc Tryz.prog Tryz.f3 Rows.fnExactBrokerOkRow.domain false Rows.fnExactBrokerOkRow.laid) (((OpenSpec.ofChange Rows.fnExactBrokerOkSpec).at F).post enc Tryz.prog Tryz.f3 false true false false) := by
  obtain ⟨places, hx⟩ := reads os enc
  refine returnsInHanded_of_row (C := Tryz.checked) (s := OpenSpec.ofChange Rows.fnExactBrokerOkSpec) own started (by kernel_rfl) Tryz.func3
    (witness_row_at (enc := enc) (C := Tryz.checked) false (World.laidAll Tryz.prog os Rows.fnExactBrokerOkRow.laid) #[(.agg #[.int .i64 0, .slice none 0 0, .slice none 0 0, .slice none 0 0, .int .i64 0, .slice none 0 0, .int .i64 0, .bool false] : Value)] (World.laidAll_os _ _ _) (by kernel_rfl) (by kernel_rfl) (by kernel_rfl)
      (OpenSpec.preRow_of_cond 8 hx (by kernel_rfl) (fun k hk => by cases hk) (by kernel_rfl) (laid_met os))) ?_
  intro W base args ds gs before hval hW _ _ _ _ hsh _
  exact contract H enc W base args ds gs before hval hW hsh

theorem said : Rows.FnExactBrokerOkSaid :=
  OpenClaim.holds_of_cond 3 Tryz.f3 rfl rfl rfl rfl rfl rfl rfl ⟨rfl, rfl, rfl, rfl, rfl⟩ rfl rfl rfl rfl rfl (by kernel_rfl) Tryz.func3 (by kernel_rfl)
    (of_decide_eq_true (by kernel_rfl)) (by unfold Func.isWrapper; first | (rw [if_pos (by decide +kernel)]; kernel_rfl) | (rw [if_neg (by decide +kernel)]; exact ⟨rfl, rfl⟩))
    (fun os started H enc _ F => by rw [OpenClaim.pre_eq_preRow]; exact lifted os started H enc F)

theorem plain (f : FuncId) (fn : Func) (hf : Tryz.pinned.checked.prog.funcNamed Tryz.f3.name = some f) (hfn : Tryz.pinned.checked.prog.funcs[f]? = some fn) :
    ∀ (j : Nat) t, fn.params[j]? = some t → Tryz.pinned.checked.prog.wantsStandIn t = false := by
  obtain rfl : f = 3 := Option.some.inj ((show Tryz.prog.funcNamed Tryz.f3.name = some 3 by kernel_rfl).symm.trans hf) |>.symm
  obtain rfl : fn = Tryz.f3 := (Option.some.inj (Tryz.func3.symm.trans hfn)).symm
  intro j t ht
  rw [Tryz.params3] at ht
  have hm := Array.mem_of_getElem? ht
  have hall : (Tryz.f3.params.all fun u => !Tryz.prog.wantsStandIn u) = true := by kernel_rfl
  rw [Tryz.params3] at hall
  rw [Array.all_eq_true_iff_forall_mem] at hall
  have := hall t hm
  exact (show Tryz.prog.wantsStandIn t = false by simpa using this)

theorem card : Rows.FnExactBrokerOkCardSaid :=
  Claim7.holds_tied_plain_at .later [] _ _ _ _ said (fun _ h => by cases h) (by kernel_rfl) (fun _ h => by cases h) fnExactBrokerOk_row_tie rfl ⟨rfl, rfl⟩ (by kernel_rfl) rfl (fun f fn hf hfn => ⟨by kernel_rfl, plain f fn hf hfn⟩) (by kernel_rfl)
end Go.Proofs.YtmfbffhbgelnnaaGreatDoor.lawFnExactBrokerOk
