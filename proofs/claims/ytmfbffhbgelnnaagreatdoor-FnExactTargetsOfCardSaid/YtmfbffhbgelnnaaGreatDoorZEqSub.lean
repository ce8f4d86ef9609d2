/- The exact laws' looks whether two subs, two rows of them, two brokers are alike. -/
import Derived.Test.YtmfbffhbgelnnaaGreatDoorZB2
import Derived.Test.YtmfbffhbgelnnaaGreatDoorZB5
set_option linter.unusedSimpArgs false
set_option linter.unusedVariables false
namespace Go.Proofs.YtmfbffhbgelnnaaGreatDoor
open Go.RowKit

theorem part_range {w : World} {g : Nat} {T : TypeId} {a0 a9 : Value} {cs : List Value} (h : w.heap[g]? = some (.cells (a0 :: (cs ++ [a9])).toArray T (0, 0))) : w.rangeAt g 1 cs := fun j v hj => by
  have hl : j < cs.length := (List.getElem?_eq_some_iff.1 hj).1
  have h2 := range_of_heap h (1 + j) v (by rw [Nat.add_comm, List.getElem?_cons_succ, List.getElem?_append_left hl]; exact hj)
  rwa [Nat.zero_add] at h2

set_option maxRecDepth 100000 in
set_option maxHeartbeats 1600000 in
theorem eqSub_any (s : SubM) (va vb : Value) (w : World) (hl : s.box.q.length ≤ 4000000) (ha : MsgsAt w va s.box.q) (hb : MsgsAt w vb s.box.q) :
    Calls Tryz.prog 92 #[sagg s va, sagg s vb] w fun e w' => e = .returned (.bool true) ∧ Below w.heap.size w w' := by
  have CE := Lib.hid (fun wx h1 h2 => eqBox_any s.box va vb wx hl h1 h2)
  have HA := Lib.hid ha
  have HB := Lib.hid hb
  obtain ⟨ua, uc, rfl, _, _, _⟩ := ha
  obtain ⟨ub, ud, rfl, _, _, _⟩ := hb
  have e1 : (s.fil.toList != s.fil.toList) = false := by simp
  have e2 : (s.live != s.live) = false := by simp
  go_enter Tryz.func92, Tryz.ntmps92
  go_upto_region 1 with (fail)
  have s1 : (w.alloc (.cells #[.string s.fil, .int .i64 s.box.cap, .int .i64 s.box.pol, .slice ua s.box.q.length uc, .int .i64 s.box.ofr, .int .i64 s.box.rcv, .int .i64 s.box.drp, .int .i64 s.box.mrg, .bool s.box.shut, .bool s.live] 64)).heap.size = w.heap.size + 1 := by simp
  have b1 : Below w.heap.size w (w.alloc (.cells #[.string s.fil, .int .i64 s.box.cap, .int .i64 s.box.pol, .slice ua s.box.q.length uc, .int .i64 s.box.ofr, .int .i64 s.box.rcv, .int .i64 s.box.drp, .int .i64 s.box.mrg, .bool s.box.shut, .bool s.live] 64)) := (Below.refl _ _).alloc (Nat.le_refl _) _
  have r1 : (w.alloc (.cells #[.string s.fil, .int .i64 s.box.cap, .int .i64 s.box.pol, .slice ua s.box.q.length uc, .int .i64 s.box.ofr, .int .i64 s.box.rcv, .int .i64 s.box.drp, .int .i64 s.box.mrg, .bool s.box.shut, .bool s.live] 64)).heap[w.heap.size]? = some (.cells #[.string s.fil, .int .i64 s.box.cap, .int .i64 s.box.pol, .slice ua s.box.q.length uc, .int .i64 s.box.ofr, .int .i64 s.box.rcv, .int .i64 s.box.drp, .int .i64 s.box.mrg, .bool s.box.shut, .bool s.live] 64 (0, 0)) := heap_alloc_new _ _
  generalize w.alloc (.cells #[.string s.fil, .int .i64 s.box.cap, .int .i64 s.box.pol, .slice ua s.box.q.length uc, .int .i64 s.box.ofr, .int .i64 s.box.rcv, .int .i64 s.box.drp, .int .i64 s.box.mrg, .bool s.box.shut, .bool s.live] 64) = w1 at s1 b1 r1 ⊢
  have h2 := (Below.refl w1.heap.size w1).alloc (Nat.le_refl _) (.cells #[.string s.fil, .int .i64 s.box.cap, .int .i64 s.box.pol, .slice ub s.box.q.length ud, .int .i64 s.box.ofr, .int .i64 s.box.rcv, .int .i64 s.box.drp, .int .i64 s.box.mrg, .bool s.box.shut, .bool s.live] 64)
  have b2 := below_end b1 h2
  have q2 : (w1.alloc (.cells #[.string s.fil, .int .i64 s.box.cap, .int .i64 s.box.pol, .slice ub s.box.q.length ud, .int .i64 s.box.ofr, .int .i64 s.box.rcv, .int .i64 s.box.drp, .int .i64 s.box.mrg, .bool s.box.shut, .bool s.live] 64)).heap[w.heap.size + 1]? = some (.cells #[.string s.fil, .int .i64 s.box.cap, .int .i64 s.box.pol, .slice ub s.box.q.length ud, .int .i64 s.box.ofr, .int .i64 s.box.rcv, .int .i64 s.box.drp, .int .i64 s.box.mrg, .bool s.box.shut, .bool s.live] 64 (0, 0)) := by rw [← s1]; exact heap_alloc_new _ _
  have r2 := (h2.block _ (by omega)).trans r1
  generalize w1.alloc (.cells #[.string s.fil, .int .i64 s.box.cap, .int .i64 s.box.pol, .slice ub s.box.q.length ud, .int .i64 s.box.ofr, .int .i64 s.box.rcv, .int .i64 s.box.drp, .int .i64 s.box.mrg, .bool s.box.shut, .bool s.live] 64) = w2 at b2 q2 r2 ⊢
  clear s1 b1 r1 h2
  have x0 : w2.cell? ⟨w.heap.size, 0, none⟩ = some (.string s.fil) := cell_of_heap r2 0
  have y0 : w2.cell? ⟨w.heap.size + 1, 0, none⟩ = some (.string s.fil) := cell_of_heap q2 0
  have X1 := part_range (a0 := .string s.fil) (cs := [.int .i64 s.box.cap, .int .i64 s.box.pol, .slice ua s.box.q.length uc, .int .i64 s.box.ofr, .int .i64 s.box.rcv, .int .i64 s.box.drp, .int .i64 s.box.mrg, .bool s.box.shut]) (a9 := .bool s.live) r2
  have Y1 := part_range (a0 := .string s.fil) (cs := [.int .i64 s.box.cap, .int .i64 s.box.pol, .slice ub s.box.q.length ud, .int .i64 s.box.ofr, .int .i64 s.box.rcv, .int .i64 s.box.drp, .int .i64 s.box.mrg, .bool s.box.shut]) (a9 := .bool s.live) q2
  go_wp2_with (first
    | refine wpList_load_mid rfl 62 (.tmp 10) rfl w.heap.size 1 rfl ([.int .i64 s.box.cap, .int .i64 s.box.pol, .slice ua s.box.q.length uc, .int .i64 s.box.ofr, .int .i64 s.box.rcv, .int .i64 s.box.drp, .int .i64 s.box.mrg, .bool s.box.shut]) _ X1 Tryz.underlying62 rfl (by kernel_rfl) ?_
    | refine wpList_load_mid rfl 62 (.tmp 12) rfl (w.heap.size + 1) 1 rfl ([.int .i64 s.box.cap, .int .i64 s.box.pol, .slice ub s.box.q.length ud, .int .i64 s.box.ofr, .int .i64 s.box.rcv, .int .i64 s.box.drp, .int .i64 s.box.mrg, .bool s.box.shut]) _ Y1 Tryz.underlying62 rfl (by kernel_rfl) ?_)
  refine (CE.out _ (HA.out.below b2) (HB.out.below b2)).mono ?_
  rintro e w3 ⟨rfl, hb⟩
  have HE := Lib.hid (below_end b2 hb)
  have r3 := (hb.block _ (Array.getElem?_eq_some_iff.1 r2).1).trans r2
  have q3 := (hb.block _ (Array.getElem?_eq_some_iff.1 q2).1).trans q2
  have x9 : w3.cell? ⟨w.heap.size, 9, none⟩ = some (.bool s.live) := cell_of_heap r3 9
  have y9 : w3.cell? ⟨w.heap.size + 1, 9, none⟩ = some (.bool s.live) := cell_of_heap q3 9
  clear b2 hb r2 q2 x0 y0 X1 Y1 r3 q3 CE
  go_wp2
  go_ret
  exact ⟨rfl, HE.out⟩

set_option maxRecDepth 100000 in
set_option maxHeartbeats 1600000 in
theorem eqSubs_any (va vb : Value) (l : List SubM) (w : World) (hl : l.length ≤ 4000000) (hs : ∀ s ∈ l, s.box.q.length ≤ 4000000) (ha : SubsAt w va l) (hb : SubsAt w vb l) :
    Calls Tryz.prog 47 #[va, vb] w fun e w' => e = .returned (.bool true) ∧ Below w.heap.size w w' := by
  obtain ⟨a, c, rfl, _, _, ha3⟩ := ha
  obtain ⟨b, d, rfl, _, _, hb3⟩ := hb
  have HA := Lib.hid ha3
  have HB := Lib.hid hb3
  have HS := Lib.hid hs
  clear ha3 hb3 hs
  go_enter Tryz.func47, Tryz.ntmps47
  go_wp2
  go_loopw [5] (fun i wr => ∃ k : Nat, k ≤ l.length ∧ i = .int .i64 k ∧ Hid (Below w.heap.size w wr)) (fun i _ => l.length - (intOf i).toNat)
  case atStart => exact ⟨0, Nat.zero_le _, rfl, Below.refl _ _⟩
  case round =>
    obtain ⟨k, hk, rfl, HW⟩ := hrel
    by_cases hlt : k < l.length
    · obtain ⟨ga, oa, rfl, hia⟩ : ∃ b o, a = some ⟨b, o, none⟩ ∧ ∀ (j : Nat) (hj : j < l.length), SubIn w b (o + j * 10) l[j] := by
        rcases HA.out with h | h
        · subst h; simp at hlt
        · exact h
      obtain ⟨gb, ob, rfl, hib⟩ : ∃ g o, b = some ⟨g, o, none⟩ ∧ ∀ (j : Nat) (hj : j < l.length), SubIn w g (o + j * 10) l[j] := by
        rcases HB.out with h | h
        · subst h; simp at hlt
        · exact h
      obtain ⟨u1, i1, p1⟩ := (hia k hlt).below HW.out
      obtain ⟨u2, i2, p2⟩ := (hib k hlt).below HW.out
      have CE := Lib.hid (fun wx (h1 : MsgsAt wx u1 l[k].box.q) (h2 : MsgsAt wx u2 l[k].box.q) => eqSub_any l[k] u1 u2 wx (HS.out _ (List.getElem_mem hlt)) h1 h2)
      have I1 := Lib.hid i1
      have I2 := Lib.hid i2
      obtain ⟨ua, uc, rfl, _, _, _⟩ := i1
      obtain ⟨ub, ud, rfl, _, _, _⟩ := i2
      obtain ⟨x, hx⟩ : ∃ x, l[k] = x := ⟨_, rfl⟩
      rw [hx] at p1 p2 CE I1 I2
      clear hia hib hx
      go_upto_region 6 with (fail)
      refine wp_region_held_drew (S := fun wx => wx.rangeAt ga (oa + k * 10) (scells x (.slice ua x.box.q.length uc)) ∧ wx.rangeAt gb (ob + k * 10) (scells x (.slice ub x.box.q.length ud)) ∧ Hid (Below wr.heap.size wr wx)) (by kernel_rfl) ?_ (fun hHeld => ?_)
      · exact ⟨rangeAt_below p1 (Below.refl _ _).drew, rangeAt_below p2 (Below.refl _ _).drew, Lib.hid (Below.refl _ _).drew⟩
      change wpAnyH _ _ _ _ _ 10 #[false, false, false, false, false, false, false, false, false, false] _ _
      clear p1 p2
      refine wpAnyH_take (i := 0) (v := ?_) rfl (by kernel_rfl) (by kernel_rfl) (by kernel_rfl) (fun _ _ _ h => h) (Or.inl ⟨by rfl, ?_⟩) (by assumption) ?_
      rotate_left
      · intro w hSw; (try dsimp only at hSw); go_simp; try with_reducible rfl
      try simp only [Act.put, List.getElem_toArray, List.getElem_cons_succ, List.getElem_cons_zero, List.setIfInBounds_toArray, List.set_cons_zero, List.set_cons_succ]
      refine wpAnyH_take (i := 1) (v := ?_) rfl (by kernel_rfl) (by kernel_rfl) (by kernel_rfl) (fun _ _ _ h => h) (Or.inl ⟨by rfl, ?_⟩) (by assumption) ?_
      rotate_left
      · intro w hSw; (try dsimp only at hSw); go_simp; try with_reducible rfl
      try simp only [Act.put, List.getElem_toArray, List.getElem_cons_succ, List.getElem_cons_zero, List.setIfInBounds_toArray, List.set_cons_zero, List.set_cons_succ]
      refine wpAnyH_take (i := 2) (v := ?_) rfl (by kernel_rfl) (by kernel_rfl) (by kernel_rfl) (fun _ _ _ h => h) (Or.inl ⟨by rfl, ?_⟩) (by assumption) ?_
      rotate_left
      · intro w hSw; (try dsimp only at hSw); go_simp; try with_reducible rfl
      try simp only [Act.put, List.getElem_toArray, List.getElem_cons_succ, List.getElem_cons_zero, List.setIfInBounds_toArray, List.set_cons_zero, List.set_cons_succ]
      refine wpAnyH_take (i := 3) (v := sagg x (.slice ua x.box.q.length uc)) rfl (by kernel_rfl) (by kernel_rfl) (by kernel_rfl) (fun _ _ _ h => h) (yieldsIf_load_mid rfl 64 (.tmp 19) rfl ga (oa + k * 10) rfl (scells x (.slice ua x.box.q.length uc)) _ (fun wx h => h.1) Tryz.underlying64 rfl (by kernel_rfl)) (by assumption) ?_
      try simp only [Act.put, List.getElem_toArray, List.getElem_cons_succ, List.getElem_cons_zero, List.setIfInBounds_toArray, List.set_cons_zero, List.set_cons_succ]
      refine wpAnyH_take (i := 4) (v := ?_) rfl (by kernel_rfl) (by kernel_rfl) (by kernel_rfl) (fun _ _ _ h => h) (Or.inl ⟨by rfl, ?_⟩) (by assumption) ?_
      rotate_left
      · intro w hSw; (try dsimp only at hSw); go_simp; try with_reducible rfl
      try simp only [Act.put, List.getElem_toArray, List.getElem_cons_succ, List.getElem_cons_zero, List.setIfInBounds_toArray, List.set_cons_zero, List.set_cons_succ]
      refine wpAnyH_take (i := 5) (v := ?_) rfl (by kernel_rfl) (by kernel_rfl) (by kernel_rfl) (fun _ _ _ h => h) (Or.inl ⟨by rfl, ?_⟩) (by assumption) ?_
      rotate_left
      · intro w hSw; (try dsimp only at hSw); go_simp; try with_reducible rfl
      try simp only [Act.put, List.getElem_toArray, List.getElem_cons_succ, List.getElem_cons_zero, List.setIfInBounds_toArray, List.set_cons_zero, List.set_cons_succ]
      refine wpAnyH_take (i := 6) (v := ?_) rfl (by kernel_rfl) (by kernel_rfl) (by kernel_rfl) (fun _ _ _ h => h) (Or.inl ⟨by rfl, ?_⟩) (by assumption) ?_
      rotate_left
      · intro w hSw; (try dsimp only at hSw); go_simp; try with_reducible rfl
      try simp only [Act.put, List.getElem_toArray, List.getElem_cons_succ, List.getElem_cons_zero, List.setIfInBounds_toArray, List.set_cons_zero, List.set_cons_succ]
      refine wpAnyH_take (i := 7) (v := sagg x (.slice ub x.box.q.length ud)) rfl (by kernel_rfl) (by kernel_rfl) (by kernel_rfl) (fun _ _ _ h => h) (yieldsIf_load_mid rfl 64 (.tmp 23) rfl gb (ob + k * 10) rfl (scells x (.slice ub x.box.q.length ud)) _ (fun wx h => h.2.1) Tryz.underlying64 rfl (by kernel_rfl)) (by assumption) ?_
      try simp only [Act.put, List.getElem_toArray, List.getElem_cons_succ, List.getElem_cons_zero, List.setIfInBounds_toArray, List.set_cons_zero, List.set_cons_succ]
      refine wpAnyH_ready (rs := [8]) (by kernel_rfl) (by simp) (AllReadyH.cons rfl (fun K hK => ?_) AllReadyH.nil)
      rw [if_pos (by rfl)]
      go_simp; go_at_call 92; refine (CE.out _ (I1.out.below (Below.refl _ _).drew) (I2.out.below (Below.refl _ _).drew)).mono ?_; rintro e wa ⟨rfl, hb⟩; go_wp2_with fail
      refine hK.out _ _ ?_ (fun hHeld => ?_)
      · exact ⟨rangeAt_below hHeld.1 hb, rangeAt_below hHeld.2.1 hb, Lib.hid (below_end hHeld.2.2.out hb)⟩
      clear hK K
      try simp only [Act.put, List.getElem_toArray, List.getElem_cons_succ, List.getElem_cons_zero, List.setIfInBounds_toArray, List.set_cons_zero, List.set_cons_succ]
      refine wpAnyH_take (i := 9) (v := ?_) rfl (by kernel_rfl) (by kernel_rfl) (by kernel_rfl) (fun _ _ _ h => h) (Or.inl ⟨by rfl, ?_⟩) (by assumption) ?_
      rotate_left
      · intro w hSw; (try dsimp only at hSw); go_simp; try with_reducible rfl
      try simp only [Act.put, List.getElem_toArray, List.getElem_cons_succ, List.getElem_cons_zero, List.setIfInBounds_toArray, List.set_cons_zero, List.set_cons_succ]
      refine wpAnyH_done (by kernel_rfl) ?_ _
      have HN := Lib.hid (below_end HW.out hHeld.2.2.out)
      clear hHeld HW
      go_wp2
      go_roundw
      case rel => exact ⟨k + 1, by omega, by go_num, HN⟩
      case measure => simp [intOf]; omega
    · go_wp2
      go_ret
      exact ⟨rfl, HW.out⟩

set_option maxRecDepth 100000 in
set_option maxHeartbeats 1600000 in
theorem eqBroker_any (b : BrokerM) (v v' : BrV) (w : World) (h1 : b.subs.length ≤ 4000000) (h2 : ∀ s ∈ b.subs, s.box.q.length ≤ 4000000) (h3 : b.trie.length ≤ 4000000) (h4 : ∀ x ∈ b.trie, x.2.length ≤ 4000000) (h5 : b.keep.length ≤ 4000000) (h6 : b.ring.length ≤ 4000000) (ha : BrAt w v b) (hb : BrAt w v' b) :
    Calls Tryz.prog 11 #[bragg b v, bragg b v'] w fun e w' => e = .returned (.bool true) ∧ Below w.heap.size w w' := by
  have HA := Lib.hid ha
  have HB := Lib.hid hb
  obtain ⟨vs, vt, vk, vr⟩ := v
  obtain ⟨us, ut, uk, ur⟩ := v'
  obtain ⟨a1, c1, hz, _, _, _⟩ := HA.out.subs
  dsimp only at hz
  subst hz
  obtain ⟨a2, c2, hz, _, _, _⟩ := HA.out.trie
  dsimp only at hz
  subst hz
  obtain ⟨a3, c3, hz, _, _, _⟩ := HA.out.keep
  dsimp only at hz
  subst hz
  obtain ⟨a5, c5, hz, _, _, _⟩ := HA.out.ring
  dsimp only at hz
  subst hz
  obtain ⟨e1, d1, hz, _, _, _⟩ := HB.out.subs
  dsimp only at hz
  subst hz
  obtain ⟨e2, d2, hz, _, _, _⟩ := HB.out.trie
  dsimp only at hz
  subst hz
  obtain ⟨e3, d3, hz, _, _, _⟩ := HB.out.keep
  dsimp only at hz
  subst hz
  obtain ⟨e5, d5, hz, _, _, _⟩ := HB.out.ring
  dsimp only at hz
  subst hz
  have C1 := Lib.hid (fun wx (k1 : BrAt wx ⟨.slice a1 b.subs.length c1, .slice a2 b.trie.length c2, .slice a3 b.keep.length c3, .slice a5 b.ring.length c5⟩ b) (k2 : BrAt wx ⟨.slice e1 b.subs.length d1, .slice e2 b.trie.length d2, .slice e3 b.keep.length d3, .slice e5 b.ring.length d5⟩ b) => eqSubs_any _ _ b.subs wx h1 h2 k1.subs k2.subs)
  have C2 := Lib.hid (fun wx (k1 : BrAt wx ⟨.slice a1 b.subs.length c1, .slice a2 b.trie.length c2, .slice a3 b.keep.length c3, .slice a5 b.ring.length c5⟩ b) (k2 : BrAt wx ⟨.slice e1 b.subs.length d1, .slice e2 b.trie.length d2, .slice e3 b.keep.length d3, .slice e5 b.ring.length d5⟩ b) => eqKnots_any _ _ b.trie wx h3 h4 k1.trie k2.trie)
  have C3 := Lib.hid (fun wx (k1 : BrAt wx ⟨.slice a1 b.subs.length c1, .slice a2 b.trie.length c2, .slice a3 b.keep.length c3, .slice a5 b.ring.length c5⟩ b) (k2 : BrAt wx ⟨.slice e1 b.subs.length d1, .slice e2 b.trie.length d2, .slice e3 b.keep.length d3, .slice e5 b.ring.length d5⟩ b) => eqMsgs_any _ _ b.keep wx h5 k1.keep k2.keep)
  have C4 := Lib.hid (fun wx (k1 : BrAt wx ⟨.slice a1 b.subs.length c1, .slice a2 b.trie.length c2, .slice a3 b.keep.length c3, .slice a5 b.ring.length c5⟩ b) (k2 : BrAt wx ⟨.slice e1 b.subs.length d1, .slice e2 b.trie.length d2, .slice e3 b.keep.length d3, .slice e5 b.ring.length d5⟩ b) => eqRing_any b.rcap _ _ b.ring wx h6 k1.ring k2.ring)
  have g1 : (b.max != b.max) = false := by simp
  have g2 : (b.seq != b.seq) = false := by simp
  have g3 : (b.closed != b.closed) = false := by simp
  clear ha hb h1 h2 h3 h4 h5 h6
  go_enter Tryz.func11, Tryz.ntmps11
  dsimp only at C1 C2 C3 C4
  go_upto_region 1 with (fail)
  have s1 : (w.alloc (.cells (brcells b ⟨.slice a1 b.subs.length c1, .slice a2 b.trie.length c2, .slice a3 b.keep.length c3, .slice a5 b.ring.length c5⟩) 37)).heap.size = w.heap.size + 1 := by simp
  have b1 : Below w.heap.size w (w.alloc (.cells (brcells b ⟨.slice a1 b.subs.length c1, .slice a2 b.trie.length c2, .slice a3 b.keep.length c3, .slice a5 b.ring.length c5⟩) 37)) := (Below.refl _ _).alloc (Nat.le_refl _) _
  have r1 : BBr (w.alloc (.cells (brcells b ⟨.slice a1 b.subs.length c1, .slice a2 b.trie.length c2, .slice a3 b.keep.length c3, .slice a5 b.ring.length c5⟩) 37)) w.heap.size 37 b ⟨.slice a1 b.subs.length c1, .slice a2 b.trie.length c2, .slice a3 b.keep.length c3, .slice a5 b.ring.length c5⟩ := BBr.new _ _ _ _
  have k2 := (Below.refl (w.alloc (.cells (brcells b ⟨.slice a1 b.subs.length c1, .slice a2 b.trie.length c2, .slice a3 b.keep.length c3, .slice a5 b.ring.length c5⟩) 37)).heap.size (w.alloc (.cells (brcells b ⟨.slice a1 b.subs.length c1, .slice a2 b.trie.length c2, .slice a3 b.keep.length c3, .slice a5 b.ring.length c5⟩) 37))).alloc (Nat.le_refl _) (.cells (brcells b ⟨.slice e1 b.subs.length d1, .slice e2 b.trie.length d2, .slice e3 b.keep.length d3, .slice e5 b.ring.length d5⟩) 37)
  have b2 := below_end b1 k2
  have r2 := r1.below k2
  have q2 : BBr ((w.alloc (.cells (brcells b ⟨.slice a1 b.subs.length c1, .slice a2 b.trie.length c2, .slice a3 b.keep.length c3, .slice a5 b.ring.length c5⟩) 37)).alloc (.cells (brcells b ⟨.slice e1 b.subs.length d1, .slice e2 b.trie.length d2, .slice e3 b.keep.length d3, .slice e5 b.ring.length d5⟩) 37)) (w.heap.size + 1) 37 b ⟨.slice e1 b.subs.length d1, .slice e2 b.trie.length d2, .slice e3 b.keep.length d3, .slice e5 b.ring.length d5⟩ := by rw [← s1]; exact BBr.new _ _ _ _
  change Code.wp _ _ _ _ ((w.alloc (.cells (brcells b ⟨.slice a1 b.subs.length c1, .slice a2 b.trie.length c2, .slice a3 b.keep.length c3, .slice a5 b.ring.length c5⟩) 37)).alloc (.cells (brcells b ⟨.slice e1 b.subs.length d1, .slice e2 b.trie.length d2, .slice e3 b.keep.length d3, .slice e5 b.ring.length d5⟩) 37))
  generalize (w.alloc (.cells (brcells b ⟨.slice a1 b.subs.length c1, .slice a2 b.trie.length c2, .slice a3 b.keep.length c3, .slice a5 b.ring.length c5⟩) 37)).alloc (.cells (brcells b ⟨.slice e1 b.subs.length d1, .slice e2 b.trie.length d2, .slice e3 b.keep.length d3, .slice e5 b.ring.length d5⟩) 37) = w2 at b2 r2 q2 ⊢
  clear s1 b1 r1 k2
  have D2 := Lib.hid (And.intro b2 (And.intro r2 (And.intro q2 (And.intro (HA.out.below b2) (HB.out.below b2)))))
  clear b2 r2 q2
  obtain ⟨x0, x1, x2, x3, x4, x5, x6, x7⟩ := D2.out.2.1.cells
  obtain ⟨y0, y1, y2, y3, y4, y5, y6, y7⟩ := D2.out.2.2.1.cells
  dsimp only at x0 x1 x2 x3 x4 x5 x6 x7 y0 y1 y2 y3 y4 y5 y6 y7
  go_wp2_with fail
  refine (C1.out _ D2.out.2.2.2.1 D2.out.2.2.2.2).mono ?_
  rintro e w3 ⟨rfl, hb⟩
  have D3 := Lib.hid (And.intro (below_end D2.out.1 hb) (And.intro (D2.out.2.1.below hb) (And.intro (D2.out.2.2.1.below hb) (And.intro (D2.out.2.2.2.1.below hb) (D2.out.2.2.2.2.below hb)))))
  clear hb D2 x0 x1 x2 x3 x4 x5 x6 x7 y0 y1 y2 y3 y4 y5 y6 y7
  obtain ⟨x0, x1, x2, x3, x4, x5, x6, x7⟩ := D3.out.2.1.cells
  obtain ⟨y0, y1, y2, y3, y4, y5, y6, y7⟩ := D3.out.2.2.1.cells
  dsimp only at x0 x1 x2 x3 x4 x5 x6 x7 y0 y1 y2 y3 y4 y5 y6 y7
  go_wp2_with fail
  refine (C2.out _ D3.out.2.2.2.1 D3.out.2.2.2.2).mono ?_
  rintro e w4 ⟨rfl, hb⟩
  have D4 := Lib.hid (And.intro (below_end D3.out.1 hb) (And.intro (D3.out.2.1.below hb) (And.intro (D3.out.2.2.1.below hb) (And.intro (D3.out.2.2.2.1.below hb) (D3.out.2.2.2.2.below hb)))))
  clear hb D3 x0 x1 x2 x3 x4 x5 x6 x7 y0 y1 y2 y3 y4 y5 y6 y7
  obtain ⟨x0, x1, x2, x3, x4, x5, x6, x7⟩ := D4.out.2.1.cells
  obtain ⟨y0, y1, y2, y3, y4, y5, y6, y7⟩ := D4.out.2.2.1.cells
  dsimp only at x0 x1 x2 x3 x4 x5 x6 x7 y0 y1 y2 y3 y4 y5 y6 y7
  go_wp2_with fail
  refine (C3.out _ D4.out.2.2.2.1 D4.out.2.2.2.2).mono ?_
  rintro e w5 ⟨rfl, hb⟩
  have D5 := Lib.hid (And.intro (below_end D4.out.1 hb) (And.intro (D4.out.2.1.below hb) (And.intro (D4.out.2.2.1.below hb) (And.intro (D4.out.2.2.2.1.below hb) (D4.out.2.2.2.2.below hb)))))
  clear hb D4 x0 x1 x2 x3 x4 x5 x6 x7 y0 y1 y2 y3 y4 y5 y6 y7
  obtain ⟨x0, x1, x2, x3, x4, x5, x6, x7⟩ := D5.out.2.1.cells
  obtain ⟨y0, y1, y2, y3, y4, y5, y6, y7⟩ := D5.out.2.2.1.cells
  dsimp only at x0 x1 x2 x3 x4 x5 x6 x7 y0 y1 y2 y3 y4 y5 y6 y7
  go_wp2_with fail
  refine (C4.out _ D5.out.2.2.2.1 D5.out.2.2.2.2).mono ?_
  rintro e w6 ⟨rfl, hb⟩
  have D6 := Lib.hid (And.intro (below_end D5.out.1 hb) (And.intro (D5.out.2.1.below hb) (And.intro (D5.out.2.2.1.below hb) (And.intro (D5.out.2.2.2.1.below hb) (D5.out.2.2.2.2.below hb)))))
  clear hb D5 x0 x1 x2 x3 x4 x5 x6 x7 y0 y1 y2 y3 y4 y5 y6 y7
  obtain ⟨x0, x1, x2, x3, x4, x5, x6, x7⟩ := D6.out.2.1.cells
  obtain ⟨y0, y1, y2, y3, y4, y5, y6, y7⟩ := D6.out.2.2.1.cells
  dsimp only at x0 x1 x2 x3 x4 x5 x6 x7 y0 y1 y2 y3 y4 y5 y6 y7
  have D6 := Lib.hid D6.out.1
  clear C1 C2 C3 C4 HA HB
  go_wp2
  go_ret
  exact ⟨rfl, D6.out⟩

end Go.Proofs.YtmfbffhbgelnnaaGreatDoor
