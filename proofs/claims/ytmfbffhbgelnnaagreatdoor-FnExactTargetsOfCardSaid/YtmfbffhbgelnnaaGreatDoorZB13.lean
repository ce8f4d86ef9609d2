/- Small texts, laid together. -/
import Derived.Test.YtmfbffhbgelnnaaGreatDoorZB8
import Derived.Test.YtmfbffhbgelnnaaGreatDoorZILiveO
import Derived.Test.YtmfbffhbgelnnaaGreatDoorZB4
import Derived.Test.YtmfbffhbgelnnaaGreatDoorZB6
import Derived.Test.YtmfbffhbgelnnaaGreatDoorZB1
import Derived.Test.YtmfbffhbgelnnaaGreatDoorZB9
import Derived.Test.YtmfbffhbgelnnaaGreatDoorZSBrok2
import Derived.Test.YtmfbffhbgelnnaaGreatDoorZToBr
set_option linter.unusedSimpArgs false
set_option linter.unusedVariables false
/- The walk of the program's BrokerOk. -/
namespace Go.Proofs.YtmfbffhbgelnnaaGreatDoor
open Go.RowKit Go.Sort

theorem trieTo_right {b : BrokerM} (hl : b.subs.length ≤ 100) (hr : subsB b.subs b.seq b.closed = true) : trieB (trieTo b.subs b.subs.length) = true :=
  (trieTo_lives (l := b.subs) b.subs.length (Nat.le_refl _) hl (by rw [List.take_length]; exact hr)).1

theorem headB_eqP (b : BrokerM) : headB b = ((decide (1 ≤ b.max) && decide (b.max ≤ 100)) && (decide ((b.subs.length : Int) ≤ b.max) && (inB b.seq 0 100000 && (keepB b.keep && (uptoB b.keep b.seq && (ringB b.rcap b.ring && uptoB b.ring b.seq)))))) := rfl
theorem subB_eqP (S : SubM) (n : Int) (c : Bool) : subB S n c = (filterP (parts S.fil 47) && (boxB S.box && (uptoB S.box.q n && !((!S.live || c) && !S.box.shut)))) := rfl

/-- What the program asks ahead of who is live. -/
def firstP (b : BrokerM) : Bool := subsP b.subs b.max && (keepB b.keep && (ringB b.rcap b.ring && (seqsP b && closedP b)))

theorem firstP_eq (b : BrokerM) : firstP b = (headB b && subsB b.subs b.seq b.closed) := by
  rw [Bool.eq_iff_iff]
  unfold firstP subsP seqsP closedP subsB
  rw [headB_eqP]
  unfold inB
  simp only [Bool.and_eq_true, Bool.or_eq_true, Bool.not_eq_true', decide_eq_true_eq, List.all_eq_true, subP_eq, subB_eqP]
  constructor
  · rintro ⟨⟨⟨h1, h2⟩, h3, h4⟩, h5, h6, ⟨⟨h7, h8⟩, h9, h10, h11⟩, h12⟩
    refine ⟨⟨⟨h1, h2⟩, h3, ⟨h7, h8⟩, h5, h9, h6, h10⟩, fun s hs => ⟨(h4 s hs).1, (h4 s hs).2.1, h11 s hs, ?_⟩⟩
    have h13 := (h4 s hs).2.2
    cases hsh : s.box.shut
    · rw [hsh] at h13
      rcases h12 with h12 | h12
      · rw [h12, h13.resolve_right (by simp)]; rfl
      · have := h12 s hs; rw [hsh] at this; cases this
    · simp
  · rintro ⟨⟨⟨h1, h2⟩, h3, ⟨h7, h8⟩, h5, h9, h6, h10⟩, h11⟩
    refine ⟨⟨⟨h1, h2⟩, h3, fun s hs => ⟨(h11 s hs).1, (h11 s hs).2.1, ?_⟩⟩, h5, h6, ⟨⟨h7, h8⟩, h9, h10, fun s hs => (h11 s hs).2.2.1⟩, ?_⟩
    · have h := (h11 s hs).2.2.2
      cases hsh : s.box.shut
      · rw [hsh] at h
        cases hlv : s.live
        · rw [hlv] at h; simp at h
        · exact .inl rfl
      · exact .inr rfl
    · cases hc : b.closed
      · exact .inl rfl
      · refine .inr fun s hs => ?_
        have h := (h11 s hs).2.2.2
        cases hsh : s.box.shut
        · rw [hsh, hc] at h; simp at h
        · rfl

theorem first_small {b : BrokerM} (h : firstP b = true) : b.subs.length ≤ 100 ∧ subsB b.subs b.seq b.closed = true := by
  rw [firstP_eq, Bool.and_eq_true] at h
  refine ⟨?_, h.2⟩
  have h1 := h.1
  rw [headB_eqP] at h1
  simp only [Bool.and_eq_true, decide_eq_true_eq] at h1
  omega
theorem brokerB_prog (b : BrokerM) : brokerB b = (firstP b && liveP b) := by
  unfold brokerB
  rw [firstP_eq]
  cases h : headB b
  · rfl
  cases h2 : subsB b.subs b.seq b.closed
  · rfl
  have h3 := first_small (b := b) (by rw [firstP_eq, h, h2]; rfl)
  show triesB _ _ = liveP b
  unfold triesB liveP
  by_cases e : trieTo b.subs b.subs.length = b.trie
  · rw [decide_eq_true e, ← e, trieTo_right h3.1 h3.2]; rfl
  · rw [decide_eq_false e]; simp

set_option maxRecDepth 100000 in
set_option maxHeartbeats 3200000 in
theorem implBrokerOk_any (b : BrokerM) (v : BrV) (m : Int) (w : World) (hs : BrSmall b) (hv : BrAt w v b) (hm : w.cell? ⟨0, 0, none⟩ = some (.int .i64 m)) :
    Calls Tryz.prog 10 #[bragg b v] w fun e w' => e = .returned (.bool (brokerB b)) ∧ Below w.heap.size w w' := by
  have C1 := Lib.hid (fun wx (h : SubsAt wx v.s b.subs) hm => subsOk_any v.s b.subs b.max m wx hs.subs hs.fils hs.qs h hm)
  have C2 := Lib.hid (fun wx (h : MsgsAt wx v.k b.keep) hm => implKeepOk_any v.k b.keep m wx hs.keep hs.keeps h hm)
  have C3 := Lib.hid (fun wx (h : MsgsAt wx v.r b.ring) hm => implRingOk_any b.rcap v.r b.ring m wx hs.ring hs.rings h hm)
  have C4 := Lib.hid (fun wx (h : BrAt wx v b) => seqsOk_any b v wx hs h)
  have C5 := Lib.hid (fun wx (h : BrAt wx v b) => closedOk_any b v wx hs.subs h)
  have C6 := Lib.hid (fun (hf : firstP b = true) wx (h : BrAt wx v b) hm => liveOk_any b v m wx hs (first_small hf).1 (first_small hf).2 h hm)
  have HQ := Lib.hid (brokerB_prog b)
  have HF : Hid (firstP b = (subsP b.subs b.max && (keepB b.keep && (ringB b.rcap b.ring && (seqsP b && closedP b))))) := Lib.hid rfl
  have HV := Lib.hid hv
  have HM := Lib.hid hm
  obtain ⟨a1, c1, a2, c2, a3, c3, a5, c5, rfl⟩ := hv.slices
  clear hv hs hm
  generalize brokerB b = R at HQ ⊢
  generalize firstP b = fp at HQ HF C6
  generalize liveP b = p6 at C6 HQ
  generalize subsP b.subs b.max = p1 at C1 HF
  generalize keepB b.keep = p2 at C2 HF
  generalize ringB b.rcap b.ring = p3 at C3 HF
  generalize seqsP b = p4 at C4 HF
  generalize closedP b = p5 at C5 HF
  go_enter Tryz.func10, Tryz.ntmps10
  dsimp only at C1 C2 C3
  go_upto_region 1 with (fail)
  have b0 : Below w.heap.size w (w.alloc (.cells (brcells b ⟨.slice a1 b.subs.length c1, .slice a2 b.trie.length c2, .slice a3 b.keep.length c3, .slice a5 b.ring.length c5⟩) 37)) := (Below.refl _ _).alloc (Nat.le_refl _) _
  have r0 : BBr (w.alloc (.cells (brcells b ⟨.slice a1 b.subs.length c1, .slice a2 b.trie.length c2, .slice a3 b.keep.length c3, .slice a5 b.ring.length c5⟩) 37)) w.heap.size 37 b ⟨.slice a1 b.subs.length c1, .slice a2 b.trie.length c2, .slice a3 b.keep.length c3, .slice a5 b.ring.length c5⟩ := BBr.new _ _ _ _
  change Code.wp _ _ _ _ (w.alloc (.cells (brcells b ⟨.slice a1 b.subs.length c1, .slice a2 b.trie.length c2, .slice a3 b.keep.length c3, .slice a5 b.ring.length c5⟩) 37))
  generalize w.alloc (.cells (brcells b ⟨.slice a1 b.subs.length c1, .slice a2 b.trie.length c2, .slice a3 b.keep.length c3, .slice a5 b.ring.length c5⟩) 37) = w0 at b0 r0 ⊢
  have BB := Lib.hid b0
  have RR := Lib.hid r0
  clear b0 r0
  obtain ⟨x0, x1, x2, x3, x4, x5, x6, x7⟩ := RR.out.cells
  dsimp only at x0 x1 x2 x3 x4 x5 x6 x7
  go_wp2_with fail
  refine (C1.out _ (HV.out.below BB.out).subs ((BB.out.cell (World.block_lt_of_cell? _ _ HM.out)).trans HM.out)).mono ?_
  rintro e w1 ⟨rfl, hb⟩
  clear C1
  have BB2 := Lib.hid (below_end BB.out hb)
  have RR2 := Lib.hid (RR.out.below hb)
  clear hb BB RR x0 x1 x2 x3 x4 x5 x6 x7
  have BB := BB2
  have RR := RR2
  clear BB2 RR2
  obtain ⟨x0, x1, x2, x3, x4, x5, x6, x7⟩ := RR.out.cells
  dsimp only at x0 x1 x2 x3 x4 x5 x6 x7
  cases p1
  · have HE := Lib.hid (show R = false by rw [HQ.out, HF.out]; simp)
    go_wp2
    go_ret
    exact ⟨ret_bool HE.out.symm, BB.out⟩
  go_wp2_with fail
  refine (C2.out _ (HV.out.below BB.out).keep ((BB.out.cell (World.block_lt_of_cell? _ _ HM.out)).trans HM.out)).mono ?_
  rintro e w2 ⟨rfl, hb⟩
  clear C2
  have BB2 := Lib.hid (below_end BB.out hb)
  have RR2 := Lib.hid (RR.out.below hb)
  clear hb BB RR x0 x1 x2 x3 x4 x5 x6 x7
  have BB := BB2
  have RR := RR2
  clear BB2 RR2
  obtain ⟨x0, x1, x2, x3, x4, x5, x6, x7⟩ := RR.out.cells
  dsimp only at x0 x1 x2 x3 x4 x5 x6 x7
  cases p2
  · have HE := Lib.hid (show R = false by rw [HQ.out, HF.out]; simp)
    go_wp2
    go_ret
    exact ⟨ret_bool HE.out.symm, BB.out⟩
  go_wp2_with fail
  refine (C3.out _ (HV.out.below BB.out).ring ((BB.out.cell (World.block_lt_of_cell? _ _ HM.out)).trans HM.out)).mono ?_
  rintro e w3 ⟨rfl, hb⟩
  clear C3
  have BB2 := Lib.hid (below_end BB.out hb)
  have RR2 := Lib.hid (RR.out.below hb)
  clear hb BB RR x0 x1 x2 x3 x4 x5 x6 x7
  have BB := BB2
  have RR := RR2
  clear BB2 RR2
  obtain ⟨x0, x1, x2, x3, x4, x5, x6, x7⟩ := RR.out.cells
  dsimp only at x0 x1 x2 x3 x4 x5 x6 x7
  cases p3
  · have HE := Lib.hid (show R = false by rw [HQ.out, HF.out]; simp)
    go_wp2
    go_ret
    exact ⟨ret_bool HE.out.symm, BB.out⟩
  go_wp2_with fail
  refine (C4.out _ (HV.out.below BB.out)).mono ?_
  rintro e w4 ⟨rfl, hb⟩
  clear C4
  have BB2 := Lib.hid (below_end BB.out hb)
  have RR2 := Lib.hid (RR.out.below hb)
  clear hb BB RR x0 x1 x2 x3 x4 x5 x6 x7
  have BB := BB2
  have RR := RR2
  clear BB2 RR2
  obtain ⟨x0, x1, x2, x3, x4, x5, x6, x7⟩ := RR.out.cells
  dsimp only at x0 x1 x2 x3 x4 x5 x6 x7
  cases p4
  · have HE := Lib.hid (show R = false by rw [HQ.out, HF.out]; simp)
    go_wp2
    go_ret
    exact ⟨ret_bool HE.out.symm, BB.out⟩
  go_wp2_with fail
  refine (C5.out _ (HV.out.below BB.out)).mono ?_
  rintro e w5 ⟨rfl, hb⟩
  clear C5
  have BB2 := Lib.hid (below_end BB.out hb)
  have RR2 := Lib.hid (RR.out.below hb)
  clear hb BB RR x0 x1 x2 x3 x4 x5 x6 x7
  have BB := BB2
  have RR := RR2
  clear BB2 RR2
  obtain ⟨x0, x1, x2, x3, x4, x5, x6, x7⟩ := RR.out.cells
  dsimp only at x0 x1 x2 x3 x4 x5 x6 x7
  cases p5
  · have HE := Lib.hid (show R = false by rw [HQ.out, HF.out]; simp)
    go_wp2
    go_ret
    exact ⟨ret_bool HE.out.symm, BB.out⟩
  have HG := Lib.hid (show fp = true by rw [HF.out]; rfl)
  have HE := Lib.hid (show R = p6 by rw [HQ.out, HG.out]; simp)
  go_wp2_with fail
  refine (C6.out HG.out _ (HV.out.below BB.out) ((BB.out.cell (World.block_lt_of_cell? _ _ HM.out)).trans HM.out)).mono ?_
  rintro e w6 ⟨rfl, hb⟩
  clear C6
  have BB2 := Lib.hid (below_end BB.out hb)
  clear hb BB RR x0 x1 x2 x3 x4 x5 x6 x7
  go_wp2
  go_ret
  exact ⟨ret_bool HE.out.symm, BB2.out⟩

end Go.Proofs.YtmfbffhbgelnnaaGreatDoor

/- The walks of the program's NewBroker, TargetsOf, LiveIn. -/
namespace Go.Proofs.YtmfbffhbgelnnaaGreatDoor
open Go.RowKit Go.Sort

theorem apart_none (x : Value) : Apart x (.slice none 0 0) := by
  cases e : x.ownBlock with
  | none => exact .inl e
  | some k => exact .inr (fun h => by rw [e] at h; cases h)
theorem brown_vtrie {w : World} {B : Nat} {u : Value} {us : List Value} {b : BrokerM} (h1 : b.subs = []) (h2 : b.keep = []) (h3 : b.ring = []) (h : KOwnU w B u b.trie us) : BrOwn w B (vTrie u) b [] us := by
  refine ⟨by rw [h1]; exact sown_none _ _, h, by rw [h2]; exact World.ownsRow_nil _ _ _ _, by rw [h3]; exact World.ownsRow_nil _ _ _ _, ?_⟩
  show (.slice none 0 0 :: (u :: us ++ [.slice none 0 0, .slice none 0 0])).Pairwise Apart
  rw [List.pairwise_cons]
  refine ⟨fun y _ => .inl rfl, ?_⟩
  rw [List.pairwise_append]
  refine ⟨h.2.2.2, by simp [apart_none], fun x _ y hy => ?_⟩
  have : y = .slice none 0 0 := by simpa using hy
  rw [this]; exact apart_none x
theorem newBrM_bare (n r : Int) : (newBrM n r).1.subs = [] ∧ (newBrM n r).1.keep = [] ∧ (newBrM n r).1.ring = [] := by
  unfold newBrM
  split <;> exact ⟨rfl, rfl, rfl⟩

set_option maxRecDepth 100000 in
set_option maxHeartbeats 1600000 in
theorem implNewBroker_k (n r m : Int) (w : World) (hm : w.cell? ⟨0, 0, none⟩ = some (.int .i64 m)) :
    Calls Tryz.prog 13 #[.int .i64 n, .int .i64 r] w fun e w' =>
      ∃ u, e = .returned (.tuple #[bragg (newBrM n r).1 (vTrie u), .bool (newBrM n r).2]) ∧ KOwn w' w.heap.size u (newBrM n r).1.trie ∧ Below w.heap.size w w' := by
  have CB := Lib.hid (fun u wx (h : KnotsAt wx u [knotZ]) hm => implBrokerOk_any (bareBr n r) (vTrie u) m wx (bareBr_small n r) (bareBr_at h) hm)
  have HM := Lib.hid hm
  clear hm
  have HN : Hid (newBrM n r = if brokerB (bareBr n r) then (bareBr n r, true) else (zeroBroker, false)) := Lib.hid rfl
  generalize newBrM n r = nb at HN ⊢
  obtain ⟨ok, hok⟩ : ∃ x, brokerB (bareBr n r) = x := ⟨_, rfl⟩
  rw [hok] at HN CB
  clear hok
  go_enter Tryz.func13, Tryz.ntmps13
  go_upto_region 1 with (fail)
  have b1 : Below w.heap.size w (w.alloc (.cells (brcells zeroBroker (vTrie (.slice none 0 0))) 37)) := (Below.refl _ _).alloc (Nat.le_refl _) _
  have r1 : BBr (w.alloc (.cells (brcells zeroBroker (vTrie (.slice none 0 0))) 37)) w.heap.size 37 zeroBroker (vTrie (.slice none 0 0)) := BBr.new _ _ _ _
  change Code.wp _ _ _ _ (w.alloc (.cells (brcells zeroBroker (vTrie (.slice none 0 0))) 37))
  generalize w.alloc (.cells (brcells zeroBroker (vTrie (.slice none 0 0))) 37) = w1 at b1 r1 ⊢
  go_wp2_with fail
  refine (implNewTrie_any _).mono ?_
  rintro e w2 ⟨u, rfl, k2, hb⟩
  obtain ⟨ua, un, uc, rfl⟩ : ∃ a n c, u = .slice a n c := by obtain ⟨us, _, h, _⟩ := k2; obtain ⟨a, c, h⟩ := own_slice h; exact ⟨_, _, _, h⟩
  have b2 := below_end b1 hb
  have r2 := r1.below hb
  have k2 := k2
  have s1 := r1.lt
  clear b1 r1
  go_upto_region 2 with (fail)
  have q3 := (Below.refl w2.heap.size w2).alloc (Nat.le_refl _) (.cells (brcells (bareBr n r) (vTrie (.slice ua un uc))) 37)
  have n3 : BBr (w2.alloc (.cells (brcells (bareBr n r) (vTrie (.slice ua un uc))) 37)) w2.heap.size 37 (bareBr n r) (vTrie (.slice ua un uc)) := BBr.new _ _ _ _
  change Code.wp _ _ _ _ (w2.alloc (.cells (brcells (bareBr n r) (vTrie (.slice ua un uc))) 37))
  generalize w2.alloc (.cells (brcells (bareBr n r) (vTrie (.slice ua un uc))) 37) = w3 at q3 n3 ⊢
  have b3 := below_end b2 q3
  have r3 := r2.below q3
  have k3 := k2.below q3
  have s3 := r3.lt
  have s2 : w1.heap.size ≤ w2.heap.size := hb.size
  obtain ⟨G, hG⟩ : ∃ G, w2.heap.size = G := ⟨_, rfl⟩
  rw [hG] at n3 s2 ⊢
  clear hG b2 r2 k2 q3 hb
  go_wp2_with (first | refine wpList_load_row rfl 37 (.tmp 6) rfl G rfl 37 (brcells (bareBr n r) (vTrie (.slice ua un uc))) (0, 0) _ n3 Tryz.underlying37 rfl (by kernel_rfl) ?_)
  refine (CB.out _ w3 (own_knots_at k3) ((b3.cell (World.block_lt_of_cell? _ _ HM.out)).trans HM.out)).mono ?_
  rintro e w4 ⟨rfl, hb⟩
  have b4 := below_end b3 hb
  have r4 := r3.below hb
  have k4 := k3.below hb
  have n4 := n3.below hb
  clear b3 r3 k3 n3 hb CB s3
  cases ok
  · have HE := Lib.hid (show nb = (zeroBroker, false) by rw [HN.out]; rfl)
    go_wp2_with (first | refine wpList_store_rowTo rfl 37 (.tmp 4) (.tmp 15) rfl rfl w.heap.size (brcells zeroBroker (vTrie (.slice none 0 0))) rfl rfl 37 _ r4 (by kernel_rfl) rfl (brcells_one _ _ _ _ _ _ _ _ _ _ _ _ _) ?_)
    have G4 := grown_setRow w4 w.heap.size (brcells zeroBroker (vTrie (.slice none 0 0)))
    exact bodyPost_ret (results_row_tmp rfl _ _ _ _ _ _ _ rfl (setRow_heap (brcells zeroBroker (vTrie (.slice none 0 0))) r4) Tryz.underlying37 rfl (by kernel_rfl)) rfl ⟨.slice none 0 0, by rw [HE.out]; rfl, by rw [HE.out]; exact kown_none _ _, b4.trans (below_of_grown (n := w.heap.size) G4 (Nat.le_refl _) b4.size)⟩
  · have HE := Lib.hid (show nb = (bareBr n r, true) by rw [HN.out]; rfl)
    go_wp2_with (first
      | refine wpList_load_row rfl 37 (.tmp 6) rfl G rfl 37 (brcells (bareBr n r) (vTrie (.slice ua un uc))) (0, 0) _ n4 Tryz.underlying37 rfl (by kernel_rfl) ?_
      | refine wpList_store_rowTo rfl 37 (.tmp 4) (.tmp 16) rfl rfl w.heap.size (brcells (bareBr n r) (vTrie (.slice ua un uc))) rfl rfl 37 _ r4 (by kernel_rfl) rfl (brcells_one _ _ _ _ _ _ _ _ _ _ _ _ _) ?_)
    have G4 := grown_setRow w4 w.heap.size (brcells (bareBr n r) (vTrie (.slice ua un uc)))
    have k5 := kown_grownN k4 s1 G4
    exact bodyPost_ret (results_row_tmp rfl _ _ _ _ _ _ _ rfl (setRow_heap (brcells (bareBr n r) (vTrie (.slice ua un uc))) r4) Tryz.underlying37 rfl (by kernel_rfl)) rfl ⟨.slice ua un uc, by rw [HE.out]; rfl, by rw [HE.out]; exact kown_mono k5 (Nat.le_of_lt s1), b4.trans (below_of_grown (n := w.heap.size) G4 (Nat.le_refl _) b4.size)⟩


set_option maxRecDepth 100000 in
theorem implNewBroker_any (n r m : Int) (w : World) (hm : w.cell? ⟨0, 0, none⟩ = some (.int .i64 m)) :
    Calls Tryz.prog 13 #[.int .i64 n, .int .i64 r] w fun e w' =>
      ∃ (u : BrV) (qs us : List Value), e = .returned (.tuple #[bragg (newBrM n r).1 u, .bool (newBrM n r).2]) ∧ BrOwn w' w.heap.size u (newBrM n r).1 qs us ∧ Below w.heap.size w w' := by
  refine (implNewBroker_k n r m w hm).mono ?_
  rintro e w' ⟨u, rfl, hk, hb⟩
  obtain ⟨us, hk⟩ := hk
  obtain ⟨h1, h2, h3⟩ := newBrM_bare n r
  exact ⟨vTrie u, [], us, rfl, brown_vtrie h1 h2 h3 hk, hb⟩

set_option maxRecDepth 100000 in
set_option maxHeartbeats 800000 in
theorem implTargets_any (b : BrokerM) (v : BrV) (t : ByteArray) (m : Int) (w : World) (hs : BrSmall b) (ht : t.size ≤ 1048576) (hv : BrAt w v b) (hm : w.cell? ⟨0, 0, none⟩ = some (.int .i64 m)) :
    Calls Tryz.prog 17 #[bragg b v, .string t] w fun e w' => ∃ u, e = .returned u ∧ w'.ownsRow w.heap.size 2 1 u (targetsM b t).length (ints (targetsM b t)) ∧ Below w.heap.size w w' := by
  have CB := Lib.hid (fun wx h hm => implBrokerOk_any b v m wx hs h hm)
  have CI := Lib.hid (fun wx (h : BrAt wx v b) hm => implIds_any v.t b.trie t m wx hs.trie ht h.trie hm)
  have HV := Lib.hid hv
  have HM := Lib.hid hm
  clear hm
  obtain ⟨vs, vt, vk, vr⟩ := v
  obtain ⟨a1, c1, hz, _, _, _⟩ := HV.out.subs
  dsimp only at hz
  subst hz
  obtain ⟨a2, c2, hz, _, _, _⟩ := HV.out.trie
  dsimp only at hz
  subst hz
  obtain ⟨a3, c3, hz, _, _, _⟩ := HV.out.keep
  dsimp only at hz
  subst hz
  obtain ⟨a5, c5, hz, _, _, _⟩ := HV.out.ring
  dsimp only at hz
  subst hz
  have HT : Hid (targetsM b t = if brokerB b then idsL b.trie t else []) := Lib.hid rfl
  obtain ⟨ok, hok⟩ : ∃ x, brokerB b = x := ⟨_, rfl⟩
  obtain ⟨R, hR⟩ : ∃ x, targetsM b t = x := ⟨_, rfl⟩
  rw [hok] at HT CB
  rw [hR] at HT ⊢
  clear hok hR hv
  go_enter Tryz.func17, Tryz.ntmps17
  dsimp only at CI
  go_upto_region 1 with (fail)
  have b1 := (Below.refl w.heap.size w).alloc (Nat.le_refl _) (.cells (brcells b ⟨.slice a1 b.subs.length c1, .slice a2 b.trie.length c2, .slice a3 b.keep.length c3, .slice a5 b.ring.length c5⟩) 37)
  have r1 : BBr (w.alloc (.cells (brcells b ⟨.slice a1 b.subs.length c1, .slice a2 b.trie.length c2, .slice a3 b.keep.length c3, .slice a5 b.ring.length c5⟩) 37)) w.heap.size 37 b ⟨.slice a1 b.subs.length c1, .slice a2 b.trie.length c2, .slice a3 b.keep.length c3, .slice a5 b.ring.length c5⟩ := BBr.new _ _ _ _
  change Code.wp _ _ _ _ (w.alloc (.cells (brcells b ⟨.slice a1 b.subs.length c1, .slice a2 b.trie.length c2, .slice a3 b.keep.length c3, .slice a5 b.ring.length c5⟩) 37))
  generalize w.alloc (.cells (brcells b ⟨.slice a1 b.subs.length c1, .slice a2 b.trie.length c2, .slice a3 b.keep.length c3, .slice a5 b.ring.length c5⟩) 37) = w1 at b1 r1 ⊢
  go_wp2_with (first | refine wpList_load_row rfl 37 (.tmp 2) rfl w.heap.size rfl 37 (brcells b ⟨.slice a1 b.subs.length c1, .slice a2 b.trie.length c2, .slice a3 b.keep.length c3, .slice a5 b.ring.length c5⟩) (0, 0) _ r1 Tryz.underlying37 rfl (by kernel_rfl) ?_)
  refine (CB.out _ (HV.out.below b1) ((b1.cell (World.block_lt_of_cell? _ _ HM.out)).trans HM.out)).mono ?_
  rintro e w2 ⟨rfl, hb⟩
  have b2 := below_end b1 hb
  have r2 := r1.below hb
  clear b1 r1 hb CB
  cases ok
  · have HE := Lib.hid (show R = [] by rw [HT.out]; rfl)
    have B2 := Lib.hid b2
    clear b2 r2
    go_wp2
    go_ret
    exact ⟨.slice none 0 0, rfl, by rw [HE.out]; exact World.ownsRow_nil _ _ _ _, B2.out⟩
  · have HE := Lib.hid (show R = idsL b.trie t by rw [HT.out]; rfl)
    have x2 := r2.cells.2.2.1
    dsimp only at x2
    have B2 := Lib.hid b2
    clear r2 b2
    go_wp2_with fail
    refine (CI.out _ (HV.out.below B2.out) ((B2.out.cell (World.block_lt_of_cell? _ _ HM.out)).trans HM.out)).mono ?_
    rintro e w3 ⟨u, rfl, ho, hb⟩
    obtain ⟨ua, uc, hu⟩ := own_slice ho
    subst hu
    have O3 := Lib.hid (own_mono ho B2.out.size)
    have B3 := Lib.hid (below_end B2.out hb)
    clear ho hb x2
    go_wp2
    go_ret
    exact ⟨_, rfl, by rw [HE.out]; exact O3.out, B3.out⟩


/-! ### LiveIn -/

theorem lives_count {l : List SubM} : ∀ k, k ≤ l.length → (livesTo l k).length = liveN (l.take k)
  | 0, _ => by simp [livesTo, liveN]
  | k + 1, hk => by
    have h : k < l.length := by omega
    rw [liveN_succ h, ← lives_count k (by omega)]
    cases hl : l[k].live
    · rw [livesTo_dead h hl]; rfl
    · rw [livesTo_live h hl, List.length_append]; rfl

set_option maxRecDepth 100000 in
set_option maxHeartbeats 1600000 in
theorem implLive_any (b : BrokerM) (v : BrV) (m : Int) (w : World) (hs : BrSmall b) (hv : BrAt w v b) (hm : w.cell? ⟨0, 0, none⟩ = some (.int .i64 m)) :
    Calls Tryz.prog 22 #[bragg b v] w fun e w' => e = .returned (.int .i64 (liveM b)) ∧ Below w.heap.size w w' := by
  have CB := Lib.hid (fun wx h hm => implBrokerOk_any b v m wx hs h hm)
  have CL := Lib.hid (fun wx (h : BrAt wx v b) => lives_any v.s b.subs wx hs.subs h.subs)
  have HSL := hs.subs
  have HV := Lib.hid hv
  have HM := Lib.hid hm
  have HC := Lib.hid (lives_count (l := b.subs) b.subs.length (Nat.le_refl _))
  obtain ⟨vs, vt, vk, vr⟩ := v
  obtain ⟨a1, c1, hz, _, _, _⟩ := HV.out.subs
  dsimp only at hz
  subst hz
  have HT : Hid (liveM b = if brokerB b then (liveN b.subs : Int) else -1) := Lib.hid rfl
  obtain ⟨ok, hok⟩ : ∃ x, brokerB b = x := ⟨_, rfl⟩
  obtain ⟨R, hR⟩ : ∃ x, liveM b = x := ⟨_, rfl⟩
  rw [hok] at HT CB
  rw [hR] at HT ⊢
  clear hok hR hv hs hm
  go_enter Tryz.func22, Tryz.ntmps22
  dsimp only at CL
  go_upto_region 1 with (fail)
  have b1 := (Below.refl w.heap.size w).alloc (Nat.le_refl _) (.cells (brcells b ⟨.slice a1 b.subs.length c1, vt, vk, vr⟩) 37)
  have r1 : BBr (w.alloc (.cells (brcells b ⟨.slice a1 b.subs.length c1, vt, vk, vr⟩) 37)) w.heap.size 37 b ⟨.slice a1 b.subs.length c1, vt, vk, vr⟩ := BBr.new _ _ _ _
  change Code.wp _ _ _ _ (w.alloc (.cells (brcells b ⟨.slice a1 b.subs.length c1, vt, vk, vr⟩) 37))
  generalize w.alloc (.cells (brcells b ⟨.slice a1 b.subs.length c1, vt, vk, vr⟩) 37) = w1 at b1 r1 ⊢
  go_wp2_with (first | refine wpList_load_row rfl 37 (.tmp 1) rfl w.heap.size rfl 37 (brcells b ⟨.slice a1 b.subs.length c1, vt, vk, vr⟩) (0, 0) _ r1 Tryz.underlying37 rfl (by kernel_rfl) ?_)
  refine (CB.out _ (HV.out.below b1) ((b1.cell (World.block_lt_of_cell? _ _ HM.out)).trans HM.out)).mono ?_
  rintro e w2 ⟨rfl, hb⟩
  have b2 := below_end b1 hb
  have r2 := r1.below hb
  clear b1 r1 hb CB
  have B2 := Lib.hid b2
  have V2 := Lib.hid (HV.out.below b2)
  clear b2
  cases ok
  · have HE := Lib.hid (show R = -1 by rw [HT.out]; rfl)
    clear r2
    go_wp2
    go_ret
    exact ⟨by rw [HE.out]; rfl, B2.out⟩
  have HE := Lib.hid (show R = (liveN b.subs : Int) by rw [HT.out]; rfl)
  have x1 := r2.cells.2.1
  dsimp only at x1
  clear r2
  go_wp2_with fail
  refine (CL.out _ V2.out).mono ?_
  rintro e w3 ⟨u, S, rfl, ho, hp, _, hb⟩
  have hlen := hp.length_eq
  rw [HC.out, List.take_length] at hlen
  obtain ⟨ua, uc, rfl⟩ := own_slice ho
  have B3 := Lib.hid (below_end B2.out hb)
  have HL := Lib.hid hlen
  have hsl : S.length ≤ 1048576 := by rw [hlen]; have := liveN_le b.subs; omega
  clear ho hp hb x1 hlen
  go_wp2
  go_ret
  exact ⟨by rw [HE.out, ← HL.out]; rfl, B3.out⟩

end Go.Proofs.YtmfbffhbgelnnaaGreatDoor
