/- The law FnExactNewBroker holds at every argument: for every input it returns true and leaves the input as it was. -/
import Derived.Test.YtmfbffhbgelnnaaGreatDoorZB1
import Derived.Test.YtmfbffhbgelnnaaGreatDoorZEqSub
import Derived.Test.YtmfbffhbgelnnaaGreatDoorZB9
import Derived.Test.YtmfbffhbgelnnaaGreatDoorZB13
import Derived.Test.YtmfbffhbgelnnaaGreatDoorZSBrok2
set_option linter.unusedSimpArgs false
set_option linter.unusedVariables false
namespace Go.Proofs.YtmfbffhbgelnnaaGreatDoor.lawFnExactNewBroker
open Go.ChangeShapes Go.WideShapes Go.ChangeAt Go.RowKit Go.WideMaps Go.WideElems
open Go.ChangeMaps (open_string shut_string)

theorem subsAt_nil {w w' : World} {v : Value} (h : SubsAt w v []) : SubsAt w' v [] := by
  obtain ⟨a, c, e, h1, h2, _⟩ := h
  exact ⟨a, c, e, h1, h2, .inl rfl⟩
theorem msgsAt_nil {w w' : World} {v : Value} (h : MsgsAt w v []) : MsgsAt w' v [] := by
  obtain ⟨a, c, e, h1, h2, _⟩ := h
  exact ⟨a, c, e, h1, h2, .inl rfl⟩
/-- A broker of nobody, whatever its trie holds now. -/
theorem bare_at {w w' : World} {v : BrV} {x : BrokerM} (l : List KnotM) (h : BrAt w v x) (h1 : x.subs = []) (h2 : x.keep = []) (h3 : x.ring = []) (ht : KnotsAt w' v.t l) : BrAt w' v { x with trie := l } := by
  obtain ⟨a, b, c, d⟩ := h
  rw [h1] at a
  rw [h2] at c
  rw [h3] at d
  exact ⟨by show SubsAt _ _ x.subs; rw [h1]; exact subsAt_nil a, ht, by show MsgsAt _ _ x.keep; rw [h2]; exact msgsAt_nil c, by show MsgsAt _ _ x.ring; rw [h3]; exact msgsAt_nil d⟩
theorem vtrie_at {w : World} {u : Value} {x : BrokerM} (h : KnotsAt w u x.trie) (h1 : x.subs = []) (h2 : x.keep = []) (h3 : x.ring = []) : BrAt w (vTrie u) x := by
  refine ⟨?_, h, ?_, ?_⟩
  · rw [h1]; exact ⟨none, 0, rfl, by simp, by unfold maxLen; omega, .inl rfl⟩
  · rw [h2]; exact ⟨none, 0, rfl, by simp, by unfold maxLen; omega, .inl rfl⟩
  · rw [h3]; exact ⟨none, 0, rfl, by simp, by unfold maxLen; omega, .inl rfl⟩

set_option maxRecDepth 100000 in
set_option maxHeartbeats 6400000 in
theorem law (w : World) (n : Int) (_hn : (Lit.int .i64 n).wf = true) (r : Int) (_hr : (Lit.int .i64 r).wf = true) (m : Int) (hm : w.cell? ⟨0, 0, none⟩ = some (.int .i64 m)) :
    Calls Tryz.prog 4 #[.int .i64 n, .int .i64 r] w fun e w' => e = .returned (.bool true) ∧ Below w.heap.size w w' := by
  have CS := Lib.hid (fun wx => specNewBroker_any n r wx)
  have CI := Lib.hid (fun wx h => implNewBroker_any n r m wx h)
  have h1 : (newBrM n r).1.subs = [] := by unfold newBrM bareBr; split <;> rfl
  have h2 : (newBrM n r).1.keep = [] := by unfold newBrM bareBr; split <;> rfl
  have h3 : (newBrM n r).1.ring = [] := by unfold newBrM bareBr; split <;> rfl
  have h4 : (newBrM n r).1.trie = [knotZ] ∨ (newBrM n r).1.trie = [] := by unfold newBrM bareBr; split; exact .inl rfl; exact .inr rfl
  obtain ⟨x, ok, hN⟩ : ∃ x ok, newBrM n r = (x, ok) := ⟨_, _, rfl⟩
  simp only [hN] at CS CI h1 h2 h3 h4
  have hbe : bend x = kend x.trie 1 := by unfold bend; rw [h1, h2, h3]; rfl
  have hke : kend x.trie 1 ≤ 2 := by rcases h4 with h | h <;> rw [h] <;> simp [kend, knotZ]
  have hsn : 1 + send x.subs = 1 := by rw [h1]; rfl
  have htl : x.trie.length ≤ 1 ∧ ∀ y ∈ x.trie, y.2.length ≤ 4000000 := by
    rcases h4 with h | h
    · rw [h]; exact ⟨by simp, fun y hy => by rw [List.mem_singleton.1 hy]; exact Nat.zero_le _⟩
    · rw [h]; exact ⟨by simp, fun y hy => by simp at hy⟩
  have CE := Lib.hid (fun u1 u2 wx (k1 : BrAt wx u1 x) (k2 : BrAt wx u2 x) => eqBroker_any x u1 u2 wx (by rw [h1]; simp) (by rw [h1]; simp) (by omega) htl.2 (by rw [h2]; simp) (by rw [h3]; simp) k1 k2)
  have ck := fun u qs us B wx (h : BrOwn wx B u x qs us) => markBroker_any x u qs us B wx (by omega) h
  rw [hsn] at ck
  have CK := Lib.hid ck
  have CH := Lib.hid (fun u wx (h : BrAt wx u { x with trie := kmark x.trie 1 }) => heldBare_any x.trie { x with trie := kmark x.trie 1 } u wx (by omega) h1 h2 h3 rfl h)
  rw [← hbe] at CH
  have HB1 := Lib.hid (fun (wx wy : World) (u : BrV) (h : BrAt wx u x) (k : KnotsAt wy u.t (kmark x.trie 1)) => bare_at (kmark x.trie 1) h h1 h2 h3 k)
  have HB2 := Lib.hid (fun (wx : World) (u : Value) (k : KnotsAt wx u x.trie) => vtrie_at k h1 h2 h3)
  have HZT := Lib.hid (show ∀ (wx wy : World) (u : BrV), BrAt wx u x → BrAt wx u x from fun _ _ _ h => h)
  obtain ⟨ky, hky⟩ : ∃ ky, ((bend x : Nat) : Int) = ky := ⟨_, rfl⟩
  have g4 : decide (ky < 0) = false := decide_eq_false (by omega)
  have g5 : (ky != ky) = false := by simp
  have g6 : (ok != ok) = false := by simp
  simp only [hky] at CK CH
  have HM := Lib.hid hm
  have HLT : Hid (0 < w.heap.size) := Lib.hid (World.block_lt_of_cell? _ _ hm)
  clear hm hky hN h1 h2 h3 h4 hbe hke hsn htl ck HZT _hn _hr
  go_enter Tryz.func4, Tryz.ntmps4
  go_wp2_with fail
  refine (CS.out w).mono ?_
  rintro e w1 ⟨u0, rfl, k0, b1⟩
  have A1 := HB2.out _ _ (own_knots_at k0)
  obtain ⟨z1, zc1, z2, zc2, z3, zc3, z5, zc5, hz⟩ := A1.slices
  rw [hz] at A1
  try rw [hz]
  injection hz with hz1 hz2 hz3 hz5
  subst hz2
  go_upto_region 2 with (fail)
  have q2 := (Below.refl w1.heap.size w1).alloc (Nat.le_refl _) (.cells (brcells x ⟨.slice z1 x.subs.length zc1, .slice z2 x.trie.length zc2, .slice z3 x.keep.length zc3, .slice z5 x.ring.length zc5⟩) 37)
  have Y2 : BBr (w1.alloc (.cells (brcells x ⟨.slice z1 x.subs.length zc1, .slice z2 x.trie.length zc2, .slice z3 x.keep.length zc3, .slice z5 x.ring.length zc5⟩) 37)) w1.heap.size 37 x ⟨.slice z1 x.subs.length zc1, .slice z2 x.trie.length zc2, .slice z3 x.keep.length zc3, .slice z5 x.ring.length zc5⟩ := BBr.new _ _ _ _
  change Code.wp _ _ _ _ (w1.alloc (.cells (brcells x ⟨.slice z1 x.subs.length zc1, .slice z2 x.trie.length zc2, .slice z3 x.keep.length zc3, .slice z5 x.ring.length zc5⟩) 37))
  generalize w1.alloc (.cells (brcells x ⟨.slice z1 x.subs.length zc1, .slice z2 x.trie.length zc2, .slice z3 x.keep.length zc3, .slice z5 x.ring.length zc5⟩) 37) = w2 at Y2 q2 ⊢
  have A2 := Lib.hid (A1.below q2)
  have B2 := Lib.hid (below_end b1 q2)
  obtain ⟨G5, hG5⟩ : ∃ G, w1.heap.size = G := ⟨_, rfl⟩
  rw [hG5] at Y2 ⊢
  have hs5 : G5 < w2.heap.size := Y2.lt
  clear q2 hG5 A1 b1 k0 hz1 hz3 hz5
  go_wp2_with fail
  refine (CI.out _ ((B2.out.cell HLT.out).trans HM.out)).mono ?_
  rintro e w3 ⟨u, qs, us, rfl, o3, b3⟩
  have L3 := o3.lt
  have HB2s := Lib.hid B2.out.size
  obtain ⟨d1, dc1, d2, dc2, d3, dc3, d5, dc5, rfl⟩ := o3.at.slices
  have C3 := Lib.hid b3
  have Y3 := Y2.below b3
  have B3 := Lib.hid (below_end B2.out b3)
  clear b3 B2
  go_upto_region 3 with (fail)
  have q4 := (Below.refl w3.heap.size w3).alloc (Nat.le_refl _) (.cells (brcells x ⟨.slice d1 x.subs.length dc1, .slice d2 x.trie.length dc2, .slice d3 x.keep.length dc3, .slice d5 x.ring.length dc5⟩) 37)
  have Z4 : BBr (w3.alloc (.cells (brcells x ⟨.slice d1 x.subs.length dc1, .slice d2 x.trie.length dc2, .slice d3 x.keep.length dc3, .slice d5 x.ring.length dc5⟩) 37)) w3.heap.size 37 x ⟨.slice d1 x.subs.length dc1, .slice d2 x.trie.length dc2, .slice d3 x.keep.length dc3, .slice d5 x.ring.length dc5⟩ := BBr.new _ _ _ _
  change Code.wp _ _ _ _ (w3.alloc (.cells (brcells x ⟨.slice d1 x.subs.length dc1, .slice d2 x.trie.length dc2, .slice d3 x.keep.length dc3, .slice d5 x.ring.length dc5⟩) 37))
  generalize w3.alloc (.cells (brcells x ⟨.slice d1 x.subs.length dc1, .slice d2 x.trie.length dc2, .slice d3 x.keep.length dc3, .slice d5 x.ring.length dc5⟩) 37) = w4 at Z4 q4 ⊢
  have Y4 := Y3.below q4
  have B4 := Lib.hid (below_end B3.out q4)
  have C4 := Lib.hid (below_end C3.out q4)
  have O4 := o3.below q4
  obtain ⟨G7, hG7⟩ : ∃ G, w3.heap.size = G := ⟨_, rfl⟩
  rw [hG7] at Z4 L3 ⊢
  have NE5 := Lib.hid (show ∀ y ∈ brRows ⟨.slice d1 x.subs.length dc1, .slice d2 x.trie.length dc2, .slice d3 x.keep.length dc3, .slice d5 x.ring.length dc5⟩ qs us, ∀ k, y.ownBlock = some k → k ≠ G5 from fun y hy k hk => by have := (L3 y hy k hk).1; omega)
  have NE7 := Lib.hid (show ∀ y ∈ brRows ⟨.slice d1 x.subs.length dc1, .slice d2 x.trie.length dc2, .slice d3 x.keep.length dc3, .slice d5 x.ring.length dc5⟩ qs us, ∀ k, y.ownBlock = some k → k ≠ G7 from fun y hy k hk => by have := (L3 y hy k hk).2; omega)
  have GE := Lib.hid (show ∀ y ∈ brRows ⟨.slice d1 x.subs.length dc1, .slice d2 x.trie.length dc2, .slice d3 x.keep.length dc3, .slice d5 x.ring.length dc5⟩ qs us, ∀ k, y.ownBlock = some k → w.heap.size ≤ k from fun y hy k hk => Nat.le_trans HB2s.out (L3 y hy k hk).1)
  have GE2 := Lib.hid (show ∀ y ∈ brRows ⟨.slice d1 x.subs.length dc1, .slice d2 x.trie.length dc2, .slice d3 x.keep.length dc3, .slice d5 x.ring.length dc5⟩ qs us, ∀ k, y.ownBlock = some k → w2.heap.size ≤ k from fun y hy k hk => (L3 y hy k hk).1)
  clear q4 hG7 B3 C3 o3 Y3 L3 HB2s hs5
  go_wp2_with (first | refine wpList_load_row rfl 37 (.tmp 7) rfl G7 rfl 37 (brcells x ⟨.slice d1 x.subs.length dc1, .slice d2 x.trie.length dc2, .slice d3 x.keep.length dc3, .slice d5 x.ring.length dc5⟩) (0, 0) _ Z4 Tryz.underlying37 rfl (by kernel_rfl) ?_ | refine wpList_load_row rfl 37 (.tmp 5) rfl G5 rfl 37 (brcells x ⟨.slice z1 x.subs.length zc1, .slice z2 x.trie.length zc2, .slice z3 x.keep.length zc3, .slice z5 x.ring.length zc5⟩) (0, 0) _ Y4 Tryz.underlying37 rfl (by kernel_rfl) ?_)
  refine (CE.out _ _ _ O4.at (A2.out.below C4.out)).mono ?_
  rintro e w5 ⟨rfl, b5⟩
  have Y5 := Y4.below b5
  have Z5 := Z4.below b5
  have O5 := O4.below b5
  have B5 := Lib.hid (below_end B4.out b5)
  have C5 := Lib.hid (below_end C4.out b5)
  clear b5 C4 Y4 Z4 O4 B4
  go_upto_region 6 with (fail)
  go_wp2_with (first | refine wpList_load_row rfl 37 (.tmp 7) rfl G7 rfl 37 (brcells x ⟨.slice d1 x.subs.length dc1, .slice d2 x.trie.length dc2, .slice d3 x.keep.length dc3, .slice d5 x.ring.length dc5⟩) (0, 0) _ Z5 Tryz.underlying37 rfl (by kernel_rfl) ?_)
  refine (CK.out _ _ _ _ _ O5).mono ?_
  rintro e w6 ⟨rfl, k6, g6b⟩
  have Y6 : BBr w6 G5 37 x ⟨.slice z1 x.subs.length zc1, .slice z2 x.trie.length zc2, .slice z3 x.keep.length zc3, .slice z5 x.ring.length zc5⟩ := g6b.box Y5 NE5.out
  have Z6 : BBr w6 G7 37 x ⟨.slice d1 x.subs.length dc1, .slice d2 x.trie.length dc2, .slice d3 x.keep.length dc3, .slice d5 x.ring.length dc5⟩ := g6b.box Z5 NE7.out
  have M6 := Lib.hid (HB1.out _ w6 ⟨.slice d1 x.subs.length dc1, .slice d2 x.trie.length dc2, .slice d3 x.keep.length dc3, .slice d5 x.ring.length dc5⟩ O5.at (own_knots_at ⟨_, k6⟩))
  have C6 := Lib.hid (C5.out.trans (g6b.toBelow C5.out.size GE2.out))
  have B6 := Lib.hid (B5.out.trans (g6b.toBelow B5.out.size GE.out))
  clear g6b k6 C5 GE2 Y5 Z5 O5 B5 NE5 NE7 GE CK HB1
  go_upto_region 8 with (fail)
  go_wp2_with (first | refine wpList_load_row rfl 37 (.tmp 7) rfl G7 rfl 37 (brcells x ⟨.slice d1 x.subs.length dc1, .slice d2 x.trie.length dc2, .slice d3 x.keep.length dc3, .slice d5 x.ring.length dc5⟩) (0, 0) _ Z6 Tryz.underlying37 rfl (by kernel_rfl) ?_)
  refine (CH.out _ _ M6.out).mono ?_
  rintro e w7 ⟨rfl, b7⟩
  have Y7 := Y6.below b7
  have Z7 := Z6.below b7
  have M7 := Lib.hid (M6.out.below b7)
  have B7 := Lib.hid (below_end B6.out b7)
  have C7 := Lib.hid (below_end C6.out b7)
  clear b7 C6 Y6 Z6 M6 B6
  go_wp2_with fail
  refine (CI.out _ ((B7.out.cell HLT.out).trans HM.out)).mono ?_
  rintro e w8 ⟨u2, qs2, us2, rfl, o8, b8⟩
  obtain ⟨f1, fc1, f2, fc2, f3, fc3, f5, fc5, rfl⟩ := o8.at.slices
  have Y8 := Y7.below b8
  have Z8 := Z7.below b8
  have M8 := Lib.hid (M7.out.below b8)
  have B8 := Lib.hid (below_end B7.out b8)
  have C8 := Lib.hid (below_end C7.out b8)
  have H8 := Lib.hid o8.at
  clear b8 o8 C7 Y7 Z7 M7 B7
  go_upto_region 14 with (fail)
  have q9 := (Below.refl w8.heap.size w8).alloc (Nat.le_refl _) (.cells (brcells x ⟨.slice f1 x.subs.length fc1, .slice f2 x.trie.length fc2, .slice f3 x.keep.length fc3, .slice f5 x.ring.length fc5⟩) 37)
  have X9 : BBr (w8.alloc (.cells (brcells x ⟨.slice f1 x.subs.length fc1, .slice f2 x.trie.length fc2, .slice f3 x.keep.length fc3, .slice f5 x.ring.length fc5⟩) 37)) w8.heap.size 37 x ⟨.slice f1 x.subs.length fc1, .slice f2 x.trie.length fc2, .slice f3 x.keep.length fc3, .slice f5 x.ring.length fc5⟩ := BBr.new _ _ _ _
  change Code.wp _ _ _ _ (w8.alloc (.cells (brcells x ⟨.slice f1 x.subs.length fc1, .slice f2 x.trie.length fc2, .slice f3 x.keep.length fc3, .slice f5 x.ring.length fc5⟩) 37))
  generalize w8.alloc (.cells (brcells x ⟨.slice f1 x.subs.length fc1, .slice f2 x.trie.length fc2, .slice f3 x.keep.length fc3, .slice f5 x.ring.length fc5⟩) 37) = w9 at X9 q9 ⊢
  have Y9 := Y8.below q9
  have Z9 := Z8.below q9
  have M9 := Lib.hid (M8.out.below q9)
  have H9 := Lib.hid (H8.out.below q9)
  have B9 := Lib.hid (below_end B8.out q9)
  have C9 := Lib.hid (below_end C8.out q9)
  obtain ⟨G11, hG11⟩ : ∃ G, w8.heap.size = G := ⟨_, rfl⟩
  rw [hG11] at X9 ⊢
  clear q9 hG11 C8 Y8 Z8 M8 H8 B8
  go_wp2_with (first | refine wpList_load_row rfl 37 (.tmp 11) rfl G11 rfl 37 (brcells x ⟨.slice f1 x.subs.length fc1, .slice f2 x.trie.length fc2, .slice f3 x.keep.length fc3, .slice f5 x.ring.length fc5⟩) (0, 0) _ X9 Tryz.underlying37 rfl (by kernel_rfl) ?_ | refine wpList_load_row rfl 37 (.tmp 5) rfl G5 rfl 37 (brcells x ⟨.slice z1 x.subs.length zc1, .slice z2 x.trie.length zc2, .slice z3 x.keep.length zc3, .slice z5 x.ring.length zc5⟩) (0, 0) _ Y9 Tryz.underlying37 rfl (by kernel_rfl) ?_)
  refine (CE.out _ _ _ H9.out (A2.out.below C9.out)).mono ?_
  rintro e wa ⟨rfl, ba⟩
  have Za := Z9.below ba
  have Ma := Lib.hid (M9.out.below ba)
  have Ba := Lib.hid (below_end B9.out ba)
  clear ba C9 X9 Y9 Z9 M9 H9 B9
  go_upto_region 17 with (fail)
  go_wp2_with (first | refine wpList_load_row rfl 37 (.tmp 7) rfl G7 rfl 37 (brcells x ⟨.slice d1 x.subs.length dc1, .slice d2 x.trie.length dc2, .slice d3 x.keep.length dc3, .slice d5 x.ring.length dc5⟩) (0, 0) _ Za Tryz.underlying37 rfl (by kernel_rfl) ?_)
  refine (CH.out _ _ Ma.out).mono ?_
  rintro e wb ⟨rfl, bb⟩
  have Bb := Lib.hid (below_end Ba.out bb)
  clear bb Za Ma Ba
  go_wp2
  go_ret
  exact ⟨rfl, Bb.out⟩

set_option maxRecDepth 100000 in
theorem contract (H : Type) (enc : TypeId × Value → H) (W : World) (base : Nat) (args : Array Value) (ds gs : List (DataW H)) (before : List MemPlace)
    (hval : ∀ (j : Nat) t v, Tryz.f4.params[j]? = some t → args[j]? = some v → Value.okWide Tryz.prog W .any base t v)
    (hW : DataW.Whole enc Tryz.prog Tryz.f4.params.toList Rows.fnExactNewBrokerSpec.vars false W args.toList ds gs before) (hsh : W.ShapedOpen Tryz.prog) :
    Calls Tryz.prog 4 args W fun e W' => ∃ v, e = .returned v ∧ Rows.fnExactNewBrokerSpec.post enc Tryz.prog Tryz.f4 false true false false W args v W' := by
  have hW' := hW
  obtain ⟨p, q, hA0, hV, rfl, hfz, hnd⟩ := hW
  have hA : DataW.TrodAll enc Tryz.prog W 0 (fun _ => true) true Tryz.f4.params.toList args.toList ds p := hA0
  rw [Tryz.params4] at hA hval
  obtain ⟨v0, vs0, d0, ds0, p0, q0, hargs, rfl, rfl, h0, r0⟩ := trodAll_cons hA
  obtain ⟨v1, vs1, d1, ds1, p1, q1, rfl, rfl, rfl, h1, r1⟩ := trodAll_cons r0
  obtain ⟨rfl, rfl, rfl⟩ := trodAll_nil r1
  obtain rfl : args = #[v0, v1] := by cases args; simp_all
  obtain ⟨rfl, rfl⟩ := trodVars_none hV
  obtain ⟨a0, rfl, rfl, rfl, w0⟩ := open_int Tryz.underlying2 (hval 0 2 v0 rfl rfl) h0
  obtain ⟨a1, rfl, rfl, rfl, w1⟩ := open_int Tryz.underlying2 (hval 1 2 v1 rfl rfl) h1
  clear hA0
  simp only [List.append_nil] at hW'
  obtain ⟨m, hm⟩ := maxLen_cell hsh
  refine (law W a0 w0 a1 w1 m hm).mono fun e W' ⟨he, hg⟩ => ?_
  subst he
  exact ⟨_, rfl, _, _, _, [], [], [], hW', trodAll_cons_mk (shut_bool Tryz.underlying4 _) trodAll_mk0, trodAll_cons_mk (shut_int Tryz.underlying2 w0) (trodAll_cons_mk (shut_int Tryz.underlying2 w1) (trodAll_mk0)), rfl, hg.frame _, fun h => by cases h⟩

theorem reads (os : Os) {H : Type} (enc : TypeId × Value → H) : ∃ places, DataW.whole enc Tryz.prog ((World.laidAll Tryz.prog os Rows.fnExactNewBrokerRow.laid).forCall (fun _ _ => 0) ⟨#[], #[(.int .i64 0 : Value), (.int .i64 0 : Value)], []⟩).memory Tryz.f4.params.toList Rows.fnExactNewBrokerSpec.vars false (#[(.int .i64 0 : Value), (.int .i64 0 : Value)] : Array Value).toList 8 = some ([.lit (.int .i64 0), .lit (.int .i64 0)], [], places) :=
  ⟨[], by kernel_rfl⟩

theorem laid_met (os : Os) : laidMetH Tryz.prog Rows.fnExactNewBrokerRow.laid ((World.laidAll Tryz.prog os Rows.fnExactNewBrokerRow.laid).forCall (fun _ _ => 0) ⟨#[], #[(.int .i64 0 : Value), (.int .i64 0 : Value)], []⟩).memory := by
  rw [MakeChecks.laidMetH_plain _ _ _ (by kernel_rfl)]
  exact laidMet_laidAll _ (by kernel_rfl) (by kernel_rfl)

set_option maxRecDepth 100000 in
theorem lifted (os : Os) (started : os.Started) (H : Type) (enc : TypeId × Value → H) (F : Stop.Interp) :
    ReturnsInHanded {} Tryz.checked os 4 .any ((OpenSpec.ofChange Rows.fnExactNewBrokerSpec).preRow enc Tryz.prog Tryz.f4 Rows.fnExactNewBrokerRow.domain false Rows.fnExactNewBrokerRow.laid) (((OpenSpec.ofChange Rows.fnExactNewBrokerSpec).at F).post enc Tryz.prog Tryz.f4 false true false false) := by
  obtain ⟨places, hx⟩ := reads os enc
  refine returnsInHanded_of_row (C := Tryz.checked) (s := OpenSpec.ofChange Rows.fnExactNewBrokerSpec) own started (by kernel_rfl) Tryz.func4
    (witness_row_at (enc := enc) (C := Tryz.checked) false (World.laidAll Tryz.prog os Rows.fnExactNewBrokerRow.laid) #[(.int .i64 0 : Value), (.int .i64 0 : Value)] (World.laidAll_os _ _ _) (by kernel_rfl) (by kernel_rfl) (by kernel_rfl)
      (OpenSpec.preRow_of_cond 8 hx (by kernel_rfl) (fun k hk => by cases hk) (by kernel_rfl) (laid_met os))) ?_
  intro W base args ds gs before hval hW _ _ _ _ hsh _
  exact contract H enc W base args ds gs before hval hW hsh

theorem said : Rows.FnExactNewBrokerSaid :=
  OpenClaim.holds_of_cond 4 Tryz.f4 rfl rfl rfl rfl rfl rfl rfl ⟨rfl, rfl, rfl, rfl, rfl⟩ rfl rfl rfl rfl rfl (by kernel_rfl) Tryz.func4 (by kernel_rfl)
    (of_decide_eq_true (by kernel_rfl)) (by unfold Func.isWrapper; first | (rw [if_pos (by decide +kernel)]; kernel_rfl) | (rw [if_neg (by decide +kernel)]; exact ⟨rfl, rfl⟩))
    (fun os started H enc _ F => by rw [OpenClaim.pre_eq_preRow]; exact lifted os started H enc F)

theorem plain (f : FuncId) (fn : Func) (hf : Tryz.pinned.checked.prog.funcNamed Tryz.f4.name = some f) (hfn : Tryz.pinned.checked.prog.funcs[f]? = some fn) :
    ∀ (j : Nat) t, fn.params[j]? = some t → Tryz.pinned.checked.prog.wantsStandIn t = false := by
  obtain rfl : f = 4 := Option.some.inj ((show Tryz.prog.funcNamed Tryz.f4.name = some 4 by kernel_rfl).symm.trans hf) |>.symm
  obtain rfl : fn = Tryz.f4 := (Option.some.inj (Tryz.func4.symm.trans hfn)).symm
  intro j t ht
  rw [Tryz.params4] at ht
  have hm := Array.mem_of_getElem? ht
  have hall : (Tryz.f4.params.all fun u => !Tryz.prog.wantsStandIn u) = true := by kernel_rfl
  rw [Tryz.params4] at hall
  rw [Array.all_eq_true_iff_forall_mem] at hall
  have := hall t hm
  exact (show Tryz.prog.wantsStandIn t = false by simpa using this)

theorem card : Rows.FnExactNewBrokerCardSaid :=
  Claim7.holds_tied_plain_at .later [] _ _ _ _ said (fun _ h => by cases h) (by kernel_rfl) (fun _ h => by cases h) fnExactNewBroker_row_tie rfl ⟨rfl, rfl⟩ (by kernel_rfl) rfl (fun f fn hf hfn => ⟨by kernel_rfl, plain f fn hf hfn⟩) (by kernel_rfl)
end Go.Proofs.YtmfbffhbgelnnaaGreatDoor.lawFnExactNewBroker
