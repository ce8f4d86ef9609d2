/- The marks that the exact laws lay into a broker; how many. -/
import Derived.Test.YtmfbffhbgelnnaaGreatDoorZToBr
import Derived.Test.YtmfbffhbgelnnaaGreatDoorZMkSub
import Derived.Test.YtmfbffhbgelnnaaGreatDoorZKMark
import Derived.Test.YtmfbffhbgelnnaaGreatDoorZB1
import Derived.Test.YtmfbffhbgelnnaaGreatDoorZSzSub
set_option linter.unusedSimpArgs false
set_option linter.unusedVariables false
namespace Go.Proofs.YtmfbffhbgelnnaaGreatDoor
open Go.RowKit

theorem szS_queue {s : SubM} {a : Int} (h0 : 0 ≤ a) (h : 0 ≤ szS s a) : (s.box.q.length : Int) + szS s a ≤ a := by
  unfold szS at h ⊢
  split at h
  · omega
  · rename_i h2
    rw [if_neg h2]
    unfold szMs at h ⊢
    split at h
    · omega
    · rename_i h3
      rw [if_neg h3]
      have := szMT_le s.box.q (a - s.fil.size - s.box.q.length) (by omega)
      omega
theorem szST_send : ∀ {l : List SubM} {a : Int}, 0 ≤ a → 0 ≤ szST l a → (send l : Int) + 4 * szST l a ≤ 9 * l.length + 4 * a
  | [], a, _, _ => by rw [szST]; simp [send]
  | x :: l, a, h0, h => by
    rw [szST] at h ⊢
    split at h
    · omega
    · rename_i h2
      rw [if_neg h2]
      have h3 : 0 ≤ szS x a := by omega
      have h4 := szS_queue h0 h3
      have h5 := szST_send h3 h
      simp only [send, List.length_cons]
      omega
theorem szSs_send {l : List SubM} {a : Int} (h0 : 0 ≤ a) (h : 0 ≤ szSs l a) : (send l : Int) ≤ 9 * a := by
  unfold szSs at h
  split at h
  · omega
  · have := szST_send (by omega) h
    omega
theorem szTo_tot : ∀ {l : List KnotM} {a : Int}, 0 ≤ a → 0 ≤ szTo l a → (totK l : Int) ≤ a
  | [], a, h0, _ => by simp [totK]; exact h0
  | x :: l, a, h0, h => by
    rw [szTo] at h
    split at h
    · omega
    · have h3 : 0 ≤ szK x a := by omega
      have h5 := szTo_tot h3 h
      have h6 : (x.2.length : Int) + szK x a ≤ a := by
        unfold szK szI at h3 ⊢
        split at h3
        · omega
        · rename_i h7
          rw [if_neg h7]
          split at h3
          · omega
          · rename_i h8
            rw [if_neg h8]; omega
      simp only [totK, List.map_cons, List.sum_cons] at h5 ⊢
      omega
theorem szKs_tot {l : List KnotM} {a : Int} (h0 : 0 ≤ a) (h : 0 ≤ szKs l a) : (l.length : Int) + totK l ≤ a := by
  unfold szKs at h
  split at h
  · omega
  · have := szTo_tot (by omega) h; omega
/-- How many marks a broker takes. -/
def bend (b : BrokerM) : Nat := kend b.trie (1 + send b.subs) + b.keep.length * 4 + b.ring.length * 4
theorem szBr_bend {b : BrokerM} (h : 0 ≤ szBr b 1048576) : bend b ≤ 30000000 := by
  unfold szBr at h
  split at h
  · omega
  rename_i g1
  split at h
  · omega
  rename_i g2
  split at h
  · omega
  rename_i g3
  have l1 := szSs_le b.subs 1048576 (by omega)
  have l2 := szKs_le b.trie _ (by omega : 0 ≤ szSs b.subs 1048576)
  have l3 := szMs_le b.keep _ (by omega : 0 ≤ szKs b.trie (szSs b.subs 1048576))
  have s1 := szSs_send (by omega) (by omega : 0 ≤ szSs b.subs 1048576)
  have t1 := szKs_tot (by omega) (by omega : 0 ≤ szKs b.trie (szSs b.subs 1048576))
  have k1 := (szMs_small (by omega) (by omega : 0 ≤ szMs b.keep (szKs b.trie (szSs b.subs 1048576)))).1
  have r1 := (szMs_small (by omega) h).1
  unfold bend
  rw [kend_tot]
  omega

/-- All rows of a broker. -/
def brRows (v : BrV) (qs us : List Value) : List Value := (v.s :: qs) ++ ((v.t :: us) ++ [v.k, v.r])
theorem GrownL.box {w w' : World} {vs : List Value} {g : Nat} {o : Obj} (h : GrownL w w' vs) (hg : w.heap[g]? = some o) (hv : ∀ x ∈ vs, ∀ k, x.ownBlock = some k → k ≠ g) : w'.heap[g]? = some o :=
  (h.block g (Array.getElem?_eq_some_iff.1 hg).1 (fun x hx e => hv x hx g e rfl)).trans hg
theorem BrOwn.lt {w : World} {B : Nat} {v : BrV} {b : BrokerM} {qs us : List Value} (h : BrOwn w B v b qs us) : ∀ x ∈ brRows v qs us, ∀ k, x.ownBlock = some k → B ≤ k ∧ k < w.heap.size := by
  intro x hx k hk
  rcases List.mem_append.1 hx with h1 | h1
  · exact h.s.lt x h1 k hk
  rcases List.mem_append.1 h1 with h1 | h1
  · exact h.t.lt x h1 k hk
  rcases List.mem_cons.1 h1 with h1 | h1
  · rw [h1] at hk; exact World.ownsRow.lt h.k k hk
  · rw [List.mem_singleton.1 h1] at hk; exact World.ownsRow.lt h.r k hk

set_option maxRecDepth 100000 in
set_option maxHeartbeats 3200000 in
theorem markBroker_any (b : BrokerM) (v : BrV) (qs us : List Value) (B : Nat) (w : World) (hk : bend b ≤ 30000000) (hO : BrOwn w B v b qs us) :
    Calls Tryz.prog 14 #[bragg b v, .int .i64 1] w fun e w' =>
      e = .returned (.int .i64 (bend b : Nat)) ∧ KOwnU w' B v.t (kmark b.trie (1 + send b.subs)) us ∧ GrownL w w' (brRows v qs us) := by
  have hlt := hO.lt
  obtain ⟨a1, c1, a2, c2, a3, c3, a5, c5, rfl⟩ := hO.at.slices
  have ap := hO.ap
  rw [List.pairwise_append] at ap
  obtain ⟨_, ap2, ap3⟩ := ap
  rw [List.pairwise_append] at ap2
  obtain ⟨_, apkr, apt⟩ := ap2
  have mT : ∀ y ∈ (.slice a2 b.trie.length c2 :: us), ∀ x ∈ (.slice a1 b.subs.length c1 :: qs), Apart y x := fun y hy x hx => (ap3 x hx y (List.mem_append_left _ hy)).symm
  have mK : ∀ x ∈ (.slice a1 b.subs.length c1 :: qs), Apart (.slice a3 b.keep.length c3) x := fun x hx => (ap3 x hx _ (List.mem_append_right _ (by simp))).symm
  have mR : ∀ x ∈ (.slice a1 b.subs.length c1 :: qs), Apart (.slice a5 b.ring.length c5) x := fun x hx => (ap3 x hx _ (List.mem_append_right _ (by simp))).symm
  have nK : ∀ x ∈ (.slice a2 b.trie.length c2 :: us), Apart (.slice a3 b.keep.length c3) x := fun x hx => (apt x hx _ (by simp)).symm
  have nR : ∀ x ∈ (.slice a2 b.trie.length c2 :: us), Apart (.slice a5 b.ring.length c5) x := fun x hx => (apt x hx _ (by simp)).symm
  have kR : Apart (.slice a5 b.ring.length c5) (.slice a3 b.keep.length c3) := ((List.pairwise_cons.1 apkr).1 _ (by simp)).symm
  have tK : ∀ y ∈ (.slice a2 b.trie.length c2 :: us), Apart y (.slice a3 b.keep.length c3) := fun y hy => (nK y hy).symm
  have tR : ∀ y ∈ (.slice a2 b.trie.length c2 :: us), Apart y (.slice a5 b.ring.length c5) := fun y hy => (nR y hy).symm
  have AP := Lib.hid (And.intro mT (And.intro mK (And.intro mR (And.intro nK (And.intro nR (And.intro kR (And.intro tK tR)))))))
  have s1 : ∀ x ∈ (.slice a1 b.subs.length c1 :: qs), x ∈ brRows ⟨.slice a1 b.subs.length c1, .slice a2 b.trie.length c2, .slice a3 b.keep.length c3, .slice a5 b.ring.length c5⟩ qs us := fun x hx => List.mem_append_left _ hx
  have s2 : ∀ x ∈ (.slice a2 b.trie.length c2 :: us), x ∈ brRows ⟨.slice a1 b.subs.length c1, .slice a2 b.trie.length c2, .slice a3 b.keep.length c3, .slice a5 b.ring.length c5⟩ qs us := fun x hx => List.mem_append_right _ (List.mem_append_left _ hx)
  have s3 : (.slice a3 b.keep.length c3) ∈ brRows ⟨.slice a1 b.subs.length c1, .slice a2 b.trie.length c2, .slice a3 b.keep.length c3, .slice a5 b.ring.length c5⟩ qs us := List.mem_append_right _ (List.mem_append_right _ (by simp))
  have s4 : (.slice a5 b.ring.length c5) ∈ brRows ⟨.slice a1 b.subs.length c1, .slice a2 b.trie.length c2, .slice a3 b.keep.length c3, .slice a5 b.ring.length c5⟩ qs us := List.mem_append_right _ (List.mem_append_right _ (by simp))
  have SUBS := Lib.hid (And.intro s1 (And.intro s2 (And.intro s3 s4)))
  have HLT := Lib.hid (fun x hx k h => Nat.ne_of_lt (hlt x hx k h).2)
  have hk2 := hk
  unfold bend at hk2
  have hke := kend_le b.trie (1 + send b.subs)
  have C1 := Lib.hid (fun wx (h : SOwnU wx B (.slice a1 b.subs.length c1) b.subs qs) => markSubs_any (.slice a1 b.subs.length c1) b.subs qs 1 B wx (by omega) (Nat.le_refl _) h)
  have C2 := Lib.hid (fun wx (h : KOwnU wx B (.slice a2 b.trie.length c2) b.trie us) => markKnots_any (.slice a2 b.trie.length c2) b.trie us (1 + send b.subs) B wx (by omega) (by omega) h)
  have C3 := Lib.hid (fun wx (h : MOwn wx B (.slice a3 b.keep.length c3) b.keep) => markMsgs_any (.slice a3 b.keep.length c3) b.keep (kend b.trie (1 + send b.subs)) B wx (by omega) (by omega) h)
  have C4 := Lib.hid (fun wx (h : MOwn wx B (.slice a5 b.ring.length c5) b.ring) => markRing_any b.rcap (.slice a5 b.ring.length c5) b.ring (kend b.trie (1 + send b.subs) + b.keep.length * 4) B wx (by omega) (by omega) h)
  have HN : Hid (bend b = kend b.trie (1 + send b.subs) + b.keep.length * 4 + b.ring.length * 4) := Lib.hid rfl
  have HO := Lib.hid hO
  obtain ⟨n4, hn4⟩ : ∃ n, bend b = n := ⟨_, rfl⟩
  rw [hn4] at HN ⊢
  rw [← HN.out] at C4
  obtain ⟨n3, hn3⟩ : ∃ n, kend b.trie (1 + send b.subs) + b.keep.length * 4 = n := ⟨_, rfl⟩
  rw [hn3] at C3 C4
  obtain ⟨n2, hn2⟩ : ∃ n, kend b.trie (1 + send b.subs) = n := ⟨_, rfl⟩
  rw [hn2] at C2 C3
  obtain ⟨kt, hkt⟩ : ∃ n, kmark b.trie (1 + send b.subs) = n := ⟨_, rfl⟩
  rw [hkt] at C2 ⊢
  obtain ⟨n1, hn1⟩ : ∃ n, 1 + send b.subs = n := ⟨_, rfl⟩
  rw [hn1] at C1 C2
  clear hn1 hn2 hn3 hn4 hkt hk hk2 hke mT mK mR nK nR kR tK tR apkr apt ap3 s1 s2 s3 s4 hlt hO HN
  have C1 := Lib.hid (show ∀ wx (h : SOwnU wx B (.slice a1 b.subs.length c1) b.subs qs), Calls Tryz.prog 52 #[.slice a1 b.subs.length c1, .int .i64 1] wx _ from C1.out)
  go_enter Tryz.func14, Tryz.ntmps14
  go_upto_region 1 with (fail)
  have b1 := (Below.refl w.heap.size w).alloc (Nat.le_refl _) (.cells (brcells b ⟨.slice a1 b.subs.length c1, .slice a2 b.trie.length c2, .slice a3 b.keep.length c3, .slice a5 b.ring.length c5⟩) 37)
  have q1 : (w.alloc (.cells (brcells b ⟨.slice a1 b.subs.length c1, .slice a2 b.trie.length c2, .slice a3 b.keep.length c3, .slice a5 b.ring.length c5⟩) 37)).heap[w.heap.size]? = some (.cells (brcells b ⟨.slice a1 b.subs.length c1, .slice a2 b.trie.length c2, .slice a3 b.keep.length c3, .slice a5 b.ring.length c5⟩) 37 (0, 0)) := heap_alloc_new _ _
  change Code.wp _ _ _ _ (w.alloc (.cells (brcells b ⟨.slice a1 b.subs.length c1, .slice a2 b.trie.length c2, .slice a3 b.keep.length c3, .slice a5 b.ring.length c5⟩) 37))
  generalize w.alloc (.cells (brcells b ⟨.slice a1 b.subs.length c1, .slice a2 b.trie.length c2, .slice a3 b.keep.length c3, .slice a5 b.ring.length c5⟩) 37) = w1 at b1 q1 ⊢
  have O1 := HO.out.below b1
  have S1 := Lib.hid O1.s
  have T1 := Lib.hid O1.t
  have K1 := Lib.hid O1.k
  have R1 := Lib.hid O1.r
  have G1 := Lib.hid (GrownL.below (vs := brRows ⟨.slice a1 b.subs.length c1, .slice a2 b.trie.length c2, .slice a3 b.keep.length c3, .slice a5 b.ring.length c5⟩ qs us) b1)
  have Q1 := Lib.hid q1
  have x1 : w1.cell? ⟨w.heap.size, 1, none⟩ = some (.slice a1 b.subs.length c1) := cell_of_heap q1 1
  clear O1 b1 q1 HO
  go_wp2_with fail
  refine (C1.out _ S1.out).mono ?_
  rintro e w2 ⟨rfl, hg⟩
  have T2 := Lib.hid (KOwnU.keptL T1.out hg AP.out.1)
  have K2 := Lib.hid (own_keptL K1.out hg AP.out.2.1)
  have R2 := Lib.hid (own_keptL R1.out hg AP.out.2.2.1)
  have g2 := hg.sub SUBS.out.1
  have G2 := Lib.hid (G1.out.trans g2)
  have Q2 := Lib.hid (g2.box Q1.out HLT.out)
  have x2 : w2.cell? ⟨w.heap.size, 2, none⟩ = some (.slice a2 b.trie.length c2) := cell_of_heap Q2.out 2
  clear hg g2 G1 T1 K1 R1 S1 Q1 x1 C1
  go_wp2_with fail
  refine (C2.out _ T2.out).mono ?_
  rintro e w3 ⟨rfl, ho, hg⟩
  have T3 := Lib.hid ho
  have K3 := Lib.hid (own_keptL K2.out hg AP.out.2.2.2.1)
  have R3 := Lib.hid (own_keptL R2.out hg AP.out.2.2.2.2.1)
  have g2 := hg.sub SUBS.out.2.1
  have G3 := Lib.hid (G2.out.trans g2)
  have Q3 := Lib.hid (g2.box Q2.out HLT.out)
  have x3 : w3.cell? ⟨w.heap.size, 3, none⟩ = some (.slice a3 b.keep.length c3) := cell_of_heap Q3.out 3
  clear ho hg g2 G2 T2 K2 R2 Q2 x2 C2
  go_wp2_with fail
  refine (C3.out _ K3.out).mono ?_
  rintro e w4 ⟨rfl, ho, hg⟩
  have hl := GrownL.grown (vs := [.slice a3 b.keep.length c3]) hg (by simp)
  have T4 := Lib.hid (KOwnU.keptL T3.out hl (fun y hy x hx => by rw [List.mem_singleton.1 hx]; exact AP.out.2.2.2.2.2.2.1 y hy))
  have R4 := Lib.hid (own_keptL R3.out hl (fun x hx => by rw [List.mem_singleton.1 hx]; exact AP.out.2.2.2.2.2.1))
  have g2 := hl.sub (us := brRows ⟨.slice a1 b.subs.length c1, .slice a2 b.trie.length c2, .slice a3 b.keep.length c3, .slice a5 b.ring.length c5⟩ qs us) (fun x hx => by rw [List.mem_singleton.1 hx]; exact SUBS.out.2.2.1)
  have G4 := Lib.hid (G3.out.trans g2)
  have Q4 := Lib.hid (g2.box Q3.out HLT.out)
  have x4 : w4.cell? ⟨w.heap.size, 4, none⟩ = some (.int .i64 b.rcap) := cell_of_heap Q4.out 4
  have x5 : w4.cell? ⟨w.heap.size, 5, none⟩ = some (.slice a5 b.ring.length c5) := cell_of_heap Q4.out 5
  clear ho hg hl g2 G3 T3 K3 R3 Q3 x3 C3
  go_wp2_with fail
  refine (C4.out _ R4.out).mono ?_
  rintro e w5 ⟨rfl, ho, hg⟩
  have hl := GrownL.grown (vs := [.slice a5 b.ring.length c5]) hg (by simp)
  have T5 := Lib.hid (KOwnU.keptL T4.out hl (fun y hy x hx => by rw [List.mem_singleton.1 hx]; exact AP.out.2.2.2.2.2.2.2 y hy))
  have g2 := hl.sub (us := brRows ⟨.slice a1 b.subs.length c1, .slice a2 b.trie.length c2, .slice a3 b.keep.length c3, .slice a5 b.ring.length c5⟩ qs us) (fun x hx => by rw [List.mem_singleton.1 hx]; exact SUBS.out.2.2.2)
  have G5 := Lib.hid (G4.out.trans g2)
  clear ho hg hl g2 G4 T4 R4 Q4 x4 x5 C4
  go_wp2
  go_ret
  exact ⟨rfl, T5.out, G5.out⟩

end Go.Proofs.YtmfbffhbgelnnaaGreatDoor
