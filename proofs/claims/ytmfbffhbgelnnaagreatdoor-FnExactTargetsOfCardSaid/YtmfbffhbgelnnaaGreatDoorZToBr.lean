/- The copy of a broker that the exact laws make of their argument. -/
import Derived.Test.YtmfbffhbgelnnaaGreatDoorZB5
import Derived.Test.YtmfbffhbgelnnaaGreatDoorZB1
set_option linter.unusedSimpArgs false
set_option linter.unusedVariables false
namespace Go.Proofs.YtmfbffhbgelnnaaGreatDoor
open Go.RowKit

theorem heap_size_setCell (w : World) (g : Nat) {j : Nat} {x : Value} : (w.setCell ⟨g, j, none⟩ x).heap.size = w.heap.size := by simp [World.setCell]
theorem kownU_mono {w : World} {A B : Nat} {v : Value} {l : List KnotM} {us : List Value} (h : KOwnU w B v l us) (hA : A ≤ B) : KOwnU w A v l us :=
  ⟨h.1, own_mono h.2.1 hA, fun j a b => own_mono (h.2.2.1 j a b) hA, h.2.2.2⟩
theorem kownU_grownN {w w' : World} {B g : Nat} {v : Value} {l : List KnotM} {us : List Value} (h : KOwnU w B v l us) (hg : g < B) (hw : w.grownBy w' (some g)) : KOwnU w' B v l us :=
  ⟨h.1, own_grownN h.2.1 hg hw, fun j a b => own_grownN (h.2.2.1 j a b) hg hw, h.2.2.2⟩

/-- The rows of a broker are own ones, no two in one block. -/
structure BrOwn (w : World) (B : Nat) (v : BrV) (b : BrokerM) (qs us : List Value) : Prop where
  s : SOwnU w B v.s b.subs qs
  t : KOwnU w B v.t b.trie us
  k : MOwn w B v.k b.keep
  r : MOwn w B v.r b.ring
  ap : ((v.s :: qs) ++ ((v.t :: us) ++ [v.k, v.r])).Pairwise Apart
theorem BrOwn.at {w : World} {B : Nat} {v : BrV} {b : BrokerM} {qs us : List Value} (h : BrOwn w B v b qs us) : BrAt w v b :=
  ⟨own_subs_at ⟨_, h.s⟩, own_knots_at ⟨_, h.t⟩, own_msgs_at h.k, own_msgs_at h.r⟩
theorem BrOwn.below {w w' : World} {B : Nat} {v : BrV} {b : BrokerM} {qs us : List Value} (h : BrOwn w B v b qs us) (hb : Below w.heap.size w w') : BrOwn w' B v b qs us :=
  ⟨h.s.below hb, h.t.below hb, row_below h.k hb, row_below h.r hb, h.ap⟩
theorem apart_later {L M : List Value} {N : Nat} (h1 : L.Pairwise Apart) (h2 : M.Pairwise Apart) (ha : ∀ x ∈ L, ∀ b, x.ownBlock = some b → b < N) (hb : ∀ y ∈ M, ∀ b, y.ownBlock = some b → N ≤ b) : (L ++ M).Pairwise Apart := by
  rw [List.pairwise_append]
  refine ⟨h1, h2, fun x hx y hy => ?_⟩
  cases e : x.ownBlock with
  | none => exact .inl e
  | some k => exact .inr (fun e2 => by have h3 := ha x hx k e; have h4 := hb y hy k (by rw [← e2, e]); omega)
theorem brown_mk {w : World} {B N1 N2 N3 : Nat} {v : BrV} {b : BrokerM} {qs us : List Value} (hB : B ≤ N1) (h12 : N1 ≤ N2) (h23 : N2 ≤ N3) (S : SOwnU w B v.s b.subs qs) (hS : ∀ y ∈ v.s :: qs, ∀ k, y.ownBlock = some k → k < N1)
    (T : KOwnU w N1 v.t b.trie us) (hT : ∀ y ∈ v.t :: us, ∀ k, y.ownBlock = some k → k < N2) (K : MOwn w N2 v.k b.keep) (hK : ∀ k, v.k.ownBlock = some k → k < N3) (R : MOwn w N3 v.r b.ring) : BrOwn w B v b qs us := by
  refine ⟨S, kownU_mono T hB, own_mono K (by omega), own_mono R (by omega), ?_⟩
  refine apart_later (N := N1) S.2.2.2 (apart_later (N := N2) T.2.2.2 (apart_later (L := [v.k]) (M := [v.r]) (N := N3) (by simp) (by simp) ?_ ?_) hT ?_) hS ?_
  · intro x hx; rw [List.mem_singleton.1 hx]; exact hK
  · intro x hx k hk; rw [List.mem_singleton.1 hx] at hk; exact (World.ownsRow.lt R k hk).1
  · intro x hx k hk
    rcases List.mem_cons.1 hx with h | h
    · rw [h] at hk; exact (World.ownsRow.lt K k hk).1
    · rw [List.mem_singleton.1 h] at hk; have := (World.ownsRow.lt R k hk).1; omega
  · intro x hx k hk
    rcases List.mem_append.1 hx with h | h
    · exact (T.lt x h k hk).1
    · rcases List.mem_cons.1 h with h | h
      · rw [h] at hk; have := (World.ownsRow.lt K k hk).1; omega
      · rw [List.mem_singleton.1 h] at hk; have := (World.ownsRow.lt R k hk).1; omega

set_option maxRecDepth 100000 in
set_option maxHeartbeats 6400000 in
theorem toBroker_any (b : BrokerM) (v : BrV) (w : World) (h1 : b.subs.length ≤ 2000000) (h2 : ∀ s ∈ b.subs, s.box.q.length ≤ 2000000) (h3 : b.trie.length ≤ 2000000) (h4 : ∀ x ∈ b.trie, x.2.length ≤ 2000000) (h5 : b.keep.length ≤ 2000000) (h6 : b.ring.length ≤ 2000000) (hv : BrAt w v b) :
    Calls Tryz.prog 9 #[bragg b v] w fun e w' => ∃ (u : BrV) (qs us : List Value), e = .returned (bragg b u) ∧ BrOwn w' w.heap.size u b qs us ∧ Below w.heap.size w w' := by
  have HV := Lib.hid hv
  obtain ⟨vs, vt, vk, vr⟩ := v
  obtain ⟨a1, c1, hz, _, _, _⟩ := HV.out.subs
  dsimp only at hz
  subst hz
  obtain ⟨a2, c2, hz, _, _, _⟩ := HV.out.trie
  dsimp only at hz
  subst hz
  obtain ⟨a3, c3, hz, _, _, _⟩ := HV.out.keep
  dsimp only at hz
  subst hz
  obtain ⟨a5, c5, hz, _, _, _⟩ := HV.out.ring
  dsimp only at hz
  subst hz
  have C1 := Lib.hid (fun wx (k : BrAt wx ⟨.slice a1 b.subs.length c1, .slice a2 b.trie.length c2, .slice a3 b.keep.length c3, .slice a5 b.ring.length c5⟩ b) => toSubs_any _ b.subs wx h1 h2 k.subs)
  have C2 := Lib.hid (fun wx (k : BrAt wx ⟨.slice a1 b.subs.length c1, .slice a2 b.trie.length c2, .slice a3 b.keep.length c3, .slice a5 b.ring.length c5⟩ b) => toKnots_any _ b.trie wx (by omega) (fun x hx => by have := h4 x hx; omega) k.trie)
  have C3 := Lib.hid (fun wx (k : BrAt wx ⟨.slice a1 b.subs.length c1, .slice a2 b.trie.length c2, .slice a3 b.keep.length c3, .slice a5 b.ring.length c5⟩ b) => toMsgs_any _ b.keep wx h5 k.keep)
  have C4 := Lib.hid (fun wx (k : BrAt wx ⟨.slice a1 b.subs.length c1, .slice a2 b.trie.length c2, .slice a3 b.keep.length c3, .slice a5 b.ring.length c5⟩ b) => toRing_any b.rcap _ b.ring wx h6 k.ring)
  clear hv h1 h2 h3 h4 h5 h6
  go_enter Tryz.func9, Tryz.ntmps9
  dsimp only at C1 C2 C3 C4
  go_upto_region 1 with (fail)
  have e1 : (w.alloc (.cells (brcells b ⟨.slice a1 b.subs.length c1, .slice a2 b.trie.length c2, .slice a3 b.keep.length c3, .slice a5 b.ring.length c5⟩) 28)).heap.size = w.heap.size + 1 := by simp
  have hb1 : Below w.heap.size w (w.alloc (.cells (brcells b ⟨.slice a1 b.subs.length c1, .slice a2 b.trie.length c2, .slice a3 b.keep.length c3, .slice a5 b.ring.length c5⟩) 28)) := (Below.refl _ _).alloc (Nat.le_refl _) _
  have q1 : BBr (w.alloc (.cells (brcells b ⟨.slice a1 b.subs.length c1, .slice a2 b.trie.length c2, .slice a3 b.keep.length c3, .slice a5 b.ring.length c5⟩) 28)) w.heap.size 28 b ⟨.slice a1 b.subs.length c1, .slice a2 b.trie.length c2, .slice a3 b.keep.length c3, .slice a5 b.ring.length c5⟩ := BBr.new _ _ _ _
  change Code.wp _ _ _ _ ((w.alloc (.cells (brcells b ⟨.slice a1 b.subs.length c1, .slice a2 b.trie.length c2, .slice a3 b.keep.length c3, .slice a5 b.ring.length c5⟩) 28)).alloc (.cells #[.int .i64 0, .slice none 0 0, .slice none 0 0, .slice none 0 0, .int .i64 0, .slice none 0 0, .int .i64 0, .bool false] 37))
  generalize w.alloc (.cells (brcells b ⟨.slice a1 b.subs.length c1, .slice a2 b.trie.length c2, .slice a3 b.keep.length c3, .slice a5 b.ring.length c5⟩) 28) = w1 at e1 hb1 q1 ⊢
  have e2 : (w1.alloc (.cells #[.int .i64 0, .slice none 0 0, .slice none 0 0, .slice none 0 0, .int .i64 0, .slice none 0 0, .int .i64 0, .bool false] 37)).heap.size = w.heap.size + 1 + 1 := by simp [e1]
  have hq2 := (Below.refl w1.heap.size w1).alloc (Nat.le_refl _) (.cells #[.int .i64 0, .slice none 0 0, .slice none 0 0, .slice none 0 0, .int .i64 0, .slice none 0 0, .int .i64 0, .bool false] 37)
  have hb2 := below_end hb1 hq2
  have r2 : (w1.alloc (.cells #[.int .i64 0, .slice none 0 0, .slice none 0 0, .slice none 0 0, .int .i64 0, .slice none 0 0, .int .i64 0, .bool false] 37)).heap[w.heap.size + 1]? = some (.cells #[.int .i64 0, .slice none 0 0, .slice none 0 0, .slice none 0 0, .int .i64 0, .slice none 0 0, .int .i64 0, .bool false] 37 (0, 0)) := by rw [← e1]; exact heap_alloc_new _ _
  have q2 := q1.below hq2
  generalize w1.alloc (.cells #[.int .i64 0, .slice none 0 0, .slice none 0 0, .slice none 0 0, .int .i64 0, .slice none 0 0, .int .i64 0, .bool false] 37) = w2 at e2 hb2 r2 q2 ⊢
  clear e1 hb1 q1 hq2
  have x0 := q2.cells.1
  go_upto_region 3 with (fail)
  have hq3 := (Below.refl w2.heap.size w2).alloc (Nat.le_refl _) (.cells #[.int .i64 b.max, .slice none 0 0, .slice none 0 0, .slice none 0 0, .int .i64 0, .slice none 0 0, .int .i64 0, .bool false] 37)
  have k3 : (w2.alloc (.cells #[.int .i64 b.max, .slice none 0 0, .slice none 0 0, .slice none 0 0, .int .i64 0, .slice none 0 0, .int .i64 0, .bool false] 37)).heap[w2.heap.size]? = some (.cells #[.int .i64 b.max, .slice none 0 0, .slice none 0 0, .slice none 0 0, .int .i64 0, .slice none 0 0, .int .i64 0, .bool false] 37 (0, 0)) := heap_alloc_new _ _
  have hb3 := below_end hb2 hq3
  have r3 := (hq3.block _ (by omega)).trans r2
  have q3 := q2.below hq3
  rw [e2] at k3
  try rw [e2]
  change Code.wp _ _ _ _ (w2.alloc (.cells #[.int .i64 b.max, .slice none 0 0, .slice none 0 0, .slice none 0 0, .int .i64 0, .slice none 0 0, .int .i64 0, .bool false] 37))
  generalize w2.alloc (.cells #[.int .i64 b.max, .slice none 0 0, .slice none 0 0, .slice none 0 0, .int .i64 0, .slice none 0 0, .int .i64 0, .bool false] 37) = w3 at k3 hb3 r3 q3 ⊢
  clear e2 hb2 r2 q2 hq3 x0
  have x1 := q3.cells.2.1
  dsimp only at x1
  go_wp2_with fail
  refine (C1.out _ (HV.out.below hb3)).mono ?_
  rintro e w4 ⟨u, rfl, ⟨qs, S0'⟩, hb⟩
  obtain ⟨xs, zs, hu⟩ := own_slice S0'.2.1
  subst hu
  have s3 : w.heap.size + 1 + 1 < w3.heap.size := (Array.getElem?_eq_some_iff.1 k3).1
  have k4 := (hb.block _ s3).trans k3
  have r4 := (hb.block _ (by omega)).trans r3
  have q4 := q3.below hb
  have hb4 := below_end hb3 hb
  have S4 : SOwnU w4 (w.heap.size + 1 + 1 + 1) _ _ _ := SOwnU.mono S0' s3
  clear hb hb3 k3 r3 q3 x1 s3 S0' C1
  have y := (cell_of_heap k4 1 : w4.cell? ⟨w.heap.size + 1 + 1, 1, none⟩ = some (.slice none 0 0))
  have f : w4.frozen? ⟨w.heap.size + 1 + 1, 1, none⟩ = false := frozen_of_row _ _ _ _ _ k4
  go_upto_region 4 with (fail)
  have g := grown_setCell w4 (w.heap.size + 1 + 1) 1 (.slice xs b.subs.length zs)
  have sz : w.heap.size + 1 + 1 < w4.heap.size := (Array.getElem?_eq_some_iff.1 k4).1
  have k5 : (w4.setCell ⟨w.heap.size + 1 + 1, 1, none⟩ (.slice xs b.subs.length zs)).heap[w.heap.size + 1 + 1]? = some (.cells #[.int .i64 b.max, .slice xs b.subs.length zs, .slice none 0 0, .slice none 0 0, .int .i64 0, .slice none 0 0, .int .i64 0, .bool false] 37 (0, 0)) := heap_setCell_same _ _ 1 _ _ (.slice xs b.subs.length zs) k4
  have r5 := (g.block _ (by omega) (fun e => by injection e with e; omega)).trans r4
  have q5 : BBr _ _ _ _ _ := (g.block _ (by omega) (fun e => by injection e with e; omega)).trans q4
  have hb5 := hb4.trans (below_of_grown (n := w.heap.size) g (by omega) hb4.size)
  have hz5 := g.size
  have S5 := SOwnU.grownN S4 (by omega) g
  generalize w4.setCell ⟨w.heap.size + 1 + 1, 1, none⟩ (.slice xs b.subs.length zs) = w5 at k5 r5 q5 hb5 hz5 S5 ⊢
  clear y f g sz k4 r4 q4 hb4 S4
  have L1 := S5.lt
  have x2 := q5.cells.2.2.1
  dsimp only at x2
  obtain ⟨N1, hN1⟩ : ∃ N1, w5.heap.size = N1 := ⟨_, rfl⟩
  have sz1 : w.heap.size + 1 + 1 < w5.heap.size := (Array.getElem?_eq_some_iff.1 k5).1
  have HL1 := Lib.hid (fun y hy k hk => hN1 ▸ (L1 y hy k hk).2)
  clear L1
  go_wp2_with fail
  refine (C2.out _ (HV.out.below hb5)).mono ?_
  rintro e w6 ⟨u, rfl, ⟨us, T0⟩, hb⟩
  obtain ⟨xt, zt, hu⟩ := own_slice T0.2.1
  subst hu
  rw [hN1] at T0
  have hn1 : N1 ≤ w6.heap.size := hN1 ▸ hb.size
  have k6 := (hb.block _ sz1).trans k5
  have r6 := (hb.block _ (by omega)).trans r5
  have q6 := q5.below hb
  have hb6 := below_end hb5 hb
  have S6 := S5.below hb
  have T6 := T0
  have m1 : w.heap.size + 1 + 1 < N1 := hN1 ▸ sz1
  clear hb hb5 k5 r5 q5 x2 sz1 S5 T0 hN1 C2
  have y := (cell_of_heap k6 2 : w6.cell? ⟨w.heap.size + 1 + 1, 2, none⟩ = some (.slice none 0 0))
  have f : w6.frozen? ⟨w.heap.size + 1 + 1, 2, none⟩ = false := frozen_of_row _ _ _ _ _ k6
  go_upto_region 5 with (fail)
  have g := grown_setCell w6 (w.heap.size + 1 + 1) 2 (.slice xt b.trie.length zt)
  have sz : w.heap.size + 1 + 1 < w6.heap.size := (Array.getElem?_eq_some_iff.1 k6).1
  have k7 : (w6.setCell ⟨w.heap.size + 1 + 1, 2, none⟩ (.slice xt b.trie.length zt)).heap[w.heap.size + 1 + 1]? = some (.cells #[.int .i64 b.max, .slice xs b.subs.length zs, .slice xt b.trie.length zt, .slice none 0 0, .int .i64 0, .slice none 0 0, .int .i64 0, .bool false] 37 (0, 0)) := heap_setCell_same _ _ 2 _ _ (.slice xt b.trie.length zt) k6
  have r7 := (g.block _ (by omega) (fun e => by injection e with e; omega)).trans r6
  have q7 : BBr _ _ _ _ _ := (g.block _ (by omega) (fun e => by injection e with e; omega)).trans q6
  have hb7 := hb6.trans (below_of_grown (n := w.heap.size) g (by omega) hb6.size)
  have hz7 := g.size
  have S7 := SOwnU.grownN S6 (by omega) g
  have T7 := kownU_grownN T6 (by omega) g
  generalize w6.setCell ⟨w.heap.size + 1 + 1, 2, none⟩ (.slice xt b.trie.length zt) = w7 at k7 r7 q7 hb7 hz7 S7 T7 ⊢
  clear y f g sz k6 r6 q6 hb6 S6 T6
  have L2 := T7.lt
  have x3 := q7.cells.2.2.2.1
  dsimp only at x3
  obtain ⟨N2, hN2⟩ : ∃ N2, w7.heap.size = N2 := ⟨_, rfl⟩
  have sz1 : w.heap.size + 1 + 1 < w7.heap.size := (Array.getElem?_eq_some_iff.1 k7).1
  have HL2 := Lib.hid (fun y hy k hk => hN2 ▸ (L2 y hy k hk).2)
  have hn2 : N1 ≤ N2 := by omega
  clear L2
  go_wp2_with fail
  refine (C3.out _ (HV.out.below hb7)).mono ?_
  rintro e w8 ⟨u, rfl, K0, hb⟩
  obtain ⟨xk, zk, hu⟩ := own_slice K0
  subst hu
  rw [hN2] at K0
  have k8 := (hb.block _ sz1).trans k7
  have r8 := (hb.block _ (by omega)).trans r7
  have q8 := q7.below hb
  have hb8 := below_end hb7 hb
  have S8 := S7.below hb
  have T8 := T7.below hb
  have K8 := K0
  have hn3 : N2 ≤ w8.heap.size := hN2 ▸ hb.size
  clear hb hb7 k7 r7 q7 x3 sz1 S7 T7 K0 hN2 C3
  have y := (cell_of_heap k8 3 : w8.cell? ⟨w.heap.size + 1 + 1, 3, none⟩ = some (.slice none 0 0))
  have f : w8.frozen? ⟨w.heap.size + 1 + 1, 3, none⟩ = false := frozen_of_row _ _ _ _ _ k8
  go_upto_region 6 with (fail)
  have g := grown_setCell w8 (w.heap.size + 1 + 1) 3 (.slice xk b.keep.length zk)
  have sz : w.heap.size + 1 + 1 < w8.heap.size := (Array.getElem?_eq_some_iff.1 k8).1
  have k9 : (w8.setCell ⟨w.heap.size + 1 + 1, 3, none⟩ (.slice xk b.keep.length zk)).heap[w.heap.size + 1 + 1]? = some (.cells #[.int .i64 b.max, .slice xs b.subs.length zs, .slice xt b.trie.length zt, .slice xk b.keep.length zk, .int .i64 0, .slice none 0 0, .int .i64 0, .bool false] 37 (0, 0)) := heap_setCell_same _ _ 3 _ _ (.slice xk b.keep.length zk) k8
  have r9 := (g.block _ (by omega) (fun e => by injection e with e; omega)).trans r8
  have q9 : BBr _ _ _ _ _ := (g.block _ (by omega) (fun e => by injection e with e; omega)).trans q8
  have hb9 := hb8.trans (below_of_grown (n := w.heap.size) g (by omega) hb8.size)
  have hz9 := g.size
  have S9 := SOwnU.grownN S8 (by omega) g
  have T9 := kownU_grownN T8 (by omega) g
  have K9 := own_grownN K8 (by omega) g
  generalize w8.setCell ⟨w.heap.size + 1 + 1, 3, none⟩ (.slice xk b.keep.length zk) = w9 at k9 r9 q9 hb9 hz9 S9 T9 K9 ⊢
  clear y f g sz k8 r8 q8 hb8 S8 T8 K8
  have L3 := fun k hk => (World.ownsRow.lt K9 k hk).2
  have x4 := q9.cells.2.2.2.2.1
  have x5 := q9.cells.2.2.2.2.2.1
  dsimp only at x4 x5
  obtain ⟨N3, hN3⟩ : ∃ N3, w9.heap.size = N3 := ⟨_, rfl⟩
  have sz1 : w.heap.size + 1 + 1 < w9.heap.size := (Array.getElem?_eq_some_iff.1 k9).1
  have HL3 := Lib.hid (fun k hk => hN3 ▸ L3 k hk)
  have hn4 : N2 ≤ N3 := by omega
  clear L3
  go_wp2_with fail
  refine (C4.out _ (HV.out.below hb9)).mono ?_
  rintro e wa ⟨u, rfl, R0, hb⟩
  obtain ⟨xr, zr, hu⟩ := own_slice R0
  subst hu
  rw [hN3] at R0
  have ka := (hb.block _ sz1).trans k9
  have ra := (hb.block _ (by omega)).trans r9
  have qa := q9.below hb
  have hba := below_end hb9 hb
  have Sa := S9.below hb
  have Ta := T9.below hb
  have Ka := row_below K9 hb
  have Ra := R0
  clear hb hb9 k9 r9 q9 x4 x5 sz1 S9 T9 K9 R0 hN3 C4
  go_upto_region 7 with (refine wpList_store_mid rfl 35 (.tmp 22) (.tmp 21) rfl (w.heap.size + 1 + 1) 4 (#[.int .i64 b.rcap, .slice xr b.ring.length zr]) rfl rfl (there_of_heap ka (by show 4 + 2 ≤ 8; omega)) (by kernel_rfl) (by simp [Value.oneCell']) ?_)
  have g := grown_setCells (w.heap.size + 1 + 1) [.int .i64 b.rcap, .slice xr b.ring.length zr] 4 wa
  have sz : w.heap.size + 1 + 1 < wa.heap.size := (Array.getElem?_eq_some_iff.1 ka).1
  have kb := heap_setCells (w.heap.size + 1 + 1) 37 [.int .i64 b.rcap, .slice xr b.ring.length zr] 4 wa _ ka
  simp only [setA, List.setIfInBounds_toArray, List.set_cons_succ, List.set_cons_zero] at kb
  have rb := (g.block _ (by omega) (fun e => by injection e with e; omega)).trans ra
  have qb : BBr _ _ _ _ _ := (g.block _ (by omega) (fun e => by injection e with e; omega)).trans qa
  have hbb := hba.trans (below_of_grown (n := w.heap.size) g (by omega) hba.size)
  have Sb := SOwnU.grownN Sa (by omega) g
  have Tb := kownU_grownN Ta (by omega) g
  have Kb := own_grownN Ka (by omega) g
  have Rb := own_grownN Ra (by omega) g
  change Code.wp _ _ _ _ (wa.setCells (w.heap.size + 1 + 1) 4 [.int .i64 b.rcap, .slice xr b.ring.length zr])
  generalize wa.setCells (w.heap.size + 1 + 1) 4 [.int .i64 b.rcap, .slice xr b.ring.length zr] = wb at kb rb qb hbb Sb Tb Kb Rb ⊢
  clear g sz ka ra qa hba Sa Ta Ka Ra
  have x6 := qb.cells.2.2.2.2.2.2.1
  have y := (cell_of_heap kb 6 : wb.cell? ⟨w.heap.size + 1 + 1, 6, none⟩ = some (.int .i64 0))
  have f : wb.frozen? ⟨w.heap.size + 1 + 1, 6, none⟩ = false := frozen_of_row _ _ _ _ _ kb
  go_upto_region 8 with (fail)
  have g := grown_setCell wb (w.heap.size + 1 + 1) 6 (.int .i64 b.seq)
  have sz : w.heap.size + 1 + 1 < wb.heap.size := (Array.getElem?_eq_some_iff.1 kb).1
  have kc : (wb.setCell ⟨w.heap.size + 1 + 1, 6, none⟩ (.int .i64 b.seq)).heap[w.heap.size + 1 + 1]? = some (.cells #[.int .i64 b.max, .slice xs b.subs.length zs, .slice xt b.trie.length zt, .slice xk b.keep.length zk, .int .i64 b.rcap, .slice xr b.ring.length zr, .int .i64 b.seq, .bool false] 37 (0, 0)) := heap_setCell_same _ _ 6 _ _ (.int .i64 b.seq) kb
  have rc := (g.block _ (by omega) (fun e => by injection e with e; omega)).trans rb
  have qc : BBr _ _ _ _ _ := (g.block _ (by omega) (fun e => by injection e with e; omega)).trans qb
  have hbc := hbb.trans (below_of_grown (n := w.heap.size) g (by omega) hbb.size)
  have hzc := g.size
  have Sc := SOwnU.grownN Sb (by omega) g
  have Tc := kownU_grownN Tb (by omega) g
  have Kc := own_grownN Kb (by omega) g
  have Rc := own_grownN Rb (by omega) g
  generalize wb.setCell ⟨w.heap.size + 1 + 1, 6, none⟩ (.int .i64 b.seq) = wc at kc rc qc hbc hzc Sc Tc Kc Rc ⊢
  clear y f g sz kb rb qb hbb Sb Tb Kb Rb
  clear x6
  have x7 := qc.cells.2.2.2.2.2.2.2
  have y := (cell_of_heap kc 7 : wc.cell? ⟨w.heap.size + 1 + 1, 7, none⟩ = some (.bool false))
  have f : wc.frozen? ⟨w.heap.size + 1 + 1, 7, none⟩ = false := frozen_of_row _ _ _ _ _ kc
  go_upto_region 9 with (fail)
  have g := grown_setCell wc (w.heap.size + 1 + 1) 7 (.bool b.closed)
  have sz : w.heap.size + 1 + 1 < wc.heap.size := (Array.getElem?_eq_some_iff.1 kc).1
  have kd : (wc.setCell ⟨w.heap.size + 1 + 1, 7, none⟩ (.bool b.closed)).heap[w.heap.size + 1 + 1]? = some (.cells #[.int .i64 b.max, .slice xs b.subs.length zs, .slice xt b.trie.length zt, .slice xk b.keep.length zk, .int .i64 b.rcap, .slice xr b.ring.length zr, .int .i64 b.seq, .bool b.closed] 37 (0, 0)) := heap_setCell_same _ _ 7 _ _ (.bool b.closed) kc
  have rd := (g.block _ (by omega) (fun e => by injection e with e; omega)).trans rc
  have qd : BBr _ _ _ _ _ := (g.block _ (by omega) (fun e => by injection e with e; omega)).trans qc
  have hbd := hbc.trans (below_of_grown (n := w.heap.size) g (by omega) hbc.size)
  have hzd := g.size
  have Sd := SOwnU.grownN Sc (by omega) g
  have Td := kownU_grownN Tc (by omega) g
  have Kd := own_grownN Kc (by omega) g
  have Rd := own_grownN Rc (by omega) g
  generalize wc.setCell ⟨w.heap.size + 1 + 1, 7, none⟩ (.bool b.closed) = wd at kd rd qd hbd hzd Sd Td Kd Rd ⊢
  clear y f g sz kc rc qc hbc Sc Tc Kc Rc
  clear x7
  go_wp2_with (first
    | refine wpList_load_row rfl 37 (.tmp 3) rfl (w.heap.size + 1 + 1) rfl 37 (#[.int .i64 b.max, .slice xs b.subs.length zs, .slice xt b.trie.length zt, .slice xk b.keep.length zk, .int .i64 b.rcap, .slice xr b.ring.length zr, .int .i64 b.seq, .bool b.closed]) (0, 0) _ kd Tryz.underlying37 rfl (by kernel_rfl) ?_
    | refine wpList_store_rowTo rfl 37 (.tmp 2) (.tmp 29) rfl rfl (w.heap.size + 1) (#[.int .i64 b.max, .slice xs b.subs.length zs, .slice xt b.trie.length zt, .slice xk b.keep.length zk, .int .i64 b.rcap, .slice xr b.ring.length zr, .int .i64 b.seq, .bool b.closed]) rfl rfl 37 _ rd (by kernel_rfl) rfl (by simp [Value.oneCell']) ?_)
  have G := grown_setRow wd (w.heap.size + 1) (#[.int .i64 b.max, .slice xs b.subs.length zs, .slice xt b.trie.length zt, .slice xk b.keep.length zk, .int .i64 b.rcap, .slice xr b.ring.length zr, .int .i64 b.seq, .bool b.closed])
  have HR := setRow_heap (#[.int .i64 b.max, .slice xs b.subs.length zs, .slice xt b.trie.length zt, .slice xk b.keep.length zk, .int .i64 b.rcap, .slice xr b.ring.length zr, .int .i64 b.seq, .bool b.closed]) rd
  have HO := brown_mk (v := ⟨.slice xs b.subs.length zs, .slice xt b.trie.length zt, .slice xk b.keep.length zk, .slice xr b.ring.length zr⟩) (b := b) (by omega) hn2 hn4 (SOwnU.mono (SOwnU.grownN Sd (by omega) G) (by omega : w.heap.size ≤ _)) HL1.out (kownU_grownN Td (by omega) G) HL2.out (own_grownN Kd (by omega) G) HL3.out (own_grownN Rd (by omega) G)
  have HB := hbd.trans (below_of_grown (n := w.heap.size) G (by omega) hbd.size)
  refine bodyPost_ret (results_cell_row rfl _ _ _ _ _ _ _ rfl HR Tryz.underlying37 rfl (by kernel_rfl)) rfl ⟨⟨.slice xs b.subs.length zs, .slice xt b.trie.length zt, .slice xk b.keep.length zk, .slice xr b.ring.length zr⟩, qs, us, rfl, HO, HB⟩

end Go.Proofs.YtmfbffhbgelnnaaGreatDoor
