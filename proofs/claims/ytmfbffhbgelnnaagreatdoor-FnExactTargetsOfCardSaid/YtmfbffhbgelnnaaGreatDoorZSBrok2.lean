/- The walks of the reference's NewBroker, TargetsOf, LiveIn. -/
import Derived.Test.YtmfbffhbgelnnaaGreatDoorZSBrok
import Derived.Test.YtmfbffhbgelnnaaGreatDoorZB1
import Derived.Test.YtmfbffhbgelnnaaGreatDoorZB9
set_option linter.unusedSimpArgs false
set_option linter.unusedVariables false
namespace Go.Proofs.YtmfbffhbgelnnaaGreatDoor
open Go.RowKit

theorem brcells_one (b : BrokerM) (a1 a2 a3 a4 : Option Addr) (n1 n2 n3 n4 c1 c2 c3 c4 : Nat) : (brcells b ⟨.slice a1 n1 c1, .slice a2 n2 c2, .slice a3 n3 c3, .slice a4 n4 c4⟩).all (·.oneCell') = true := by simp [Value.oneCell']

theorem kown_grownN {w w' : World} {B g : Nat} {v : Value} {l : List KnotM} (h : KOwn w B v l) (hg : g < B) (hw : w.grownBy w' (some g)) : KOwn w' B v l := by
  obtain ⟨us, h1, h2, h3, h4⟩ := h
  exact ⟨us, h1, own_grownN h2 hg hw, fun j a b => own_grownN (h3 j a b) hg hw, h4⟩
theorem kown_mono {w : World} {A B : Nat} {v : Value} {l : List KnotM} (h : KOwn w B v l) (hA : A ≤ B) : KOwn w A v l := by
  obtain ⟨us, h1, h2, h3, h4⟩ := h
  exact ⟨us, h1, own_mono h2 hA, fun j a b => own_mono (h3 j a b) hA, h4⟩
/-- A broker of nobody. -/
def bareBr (n r : Int) : BrokerM := ⟨n, [], [knotZ], [], r, [], 0, false⟩
def newBrM (n r : Int) : BrokerM × Bool := if brokerB (bareBr n r) then (bareBr n r, true) else (zeroBroker, false)
/-- A broker's rows where only its trie lies anywhere. -/
abbrev vTrie (u : Value) : BrV := ⟨.slice none 0 0, u, .slice none 0 0, .slice none 0 0⟩
theorem bareBr_small (n r : Int) : BrSmall (bareBr n r) :=
  ⟨by simp [bareBr], by simp [bareBr], by simp [bareBr], ⟨by simp [bareBr], fun x hx => by rw [show (bareBr n r).trie = [knotZ] from rfl] at hx; rw [List.mem_singleton.1 hx]; exact ⟨Nat.zero_le _, Nat.zero_le _⟩⟩, by simp [bareBr], by simp [bareBr], by simp [bareBr], by simp [bareBr]⟩
theorem bareBr_at {w : World} {u : Value} {n r : Int} (h : KnotsAt w u [knotZ]) : BrAt w (vTrie u) (bareBr n r) :=
  ⟨⟨none, 0, rfl, by simp [bareBr], by unfold maxLen; omega, .inl rfl⟩, h, ⟨none, 0, rfl, by simp [bareBr], by unfold maxLen; omega, .inl rfl⟩, ⟨none, 0, rfl, by simp [bareBr], by unfold maxLen; omega, .inl rfl⟩⟩
theorem kown_none (w : World) (B : Nat) : KOwn w B (.slice none 0 0) [] := ⟨[], rfl, World.ownsRow_nil _ _ _ _, fun j h => by simp at h, by simp⟩

set_option maxRecDepth 100000 in
set_option maxHeartbeats 1600000 in
theorem specNewBroker_any (n r : Int) (w : World) :
    Calls Tryz.prog 12 #[.int .i64 n, .int .i64 r] w fun e w' =>
      ∃ u, e = .returned (.tuple #[bragg (newBrM n r).1 (vTrie u), .bool (newBrM n r).2]) ∧ KOwn w' w.heap.size u (newBrM n r).1.trie ∧ Below w.heap.size w w' := by
  have CB := Lib.hid (fun u wx (h : KnotsAt wx u [knotZ]) => specBrokerOk_any (bareBr n r) (vTrie u) wx (bareBr_small n r) (bareBr_at h))
  have HN : Hid (newBrM n r = if brokerB (bareBr n r) then (bareBr n r, true) else (zeroBroker, false)) := Lib.hid rfl
  generalize newBrM n r = nb at HN ⊢
  obtain ⟨ok, hok⟩ : ∃ x, brokerB (bareBr n r) = x := ⟨_, rfl⟩
  rw [hok] at HN CB
  clear hok
  go_enter Tryz.func12, Tryz.ntmps12
  go_upto_region 1 with (fail)
  have b1 : Below w.heap.size w (w.alloc (.cells (brcells zeroBroker (vTrie (.slice none 0 0))) 37)) := (Below.refl _ _).alloc (Nat.le_refl _) _
  have r1 : BBr (w.alloc (.cells (brcells zeroBroker (vTrie (.slice none 0 0))) 37)) w.heap.size 37 zeroBroker (vTrie (.slice none 0 0)) := BBr.new _ _ _ _
  change Code.wp _ _ _ _ (w.alloc (.cells (brcells zeroBroker (vTrie (.slice none 0 0))) 37))
  generalize w.alloc (.cells (brcells zeroBroker (vTrie (.slice none 0 0))) 37) = w1 at b1 r1 ⊢
  go_wp2_with fail
  refine (specNewTrie_any _).mono ?_
  rintro e w2 ⟨u, rfl, k2, hb⟩
  obtain ⟨ua, un, uc, rfl⟩ : ∃ a n c, u = .slice a n c := by obtain ⟨us, _, h, _⟩ := k2; obtain ⟨a, c, h⟩ := own_slice h; exact ⟨_, _, _, h⟩
  have b2 := below_end b1 hb
  have r2 := r1.below hb
  have k2 := k2
  have s1 := r1.lt
  clear b1 r1
  go_upto_region 2 with (fail)
  have q3 := (Below.refl w2.heap.size w2).alloc (Nat.le_refl _) (.cells (brcells (bareBr n r) (vTrie (.slice ua un uc))) 37)
  have n3 : BBr (w2.alloc (.cells (brcells (bareBr n r) (vTrie (.slice ua un uc))) 37)) w2.heap.size 37 (bareBr n r) (vTrie (.slice ua un uc)) := BBr.new _ _ _ _
  change Code.wp _ _ _ _ (w2.alloc (.cells (brcells (bareBr n r) (vTrie (.slice ua un uc))) 37))
  generalize w2.alloc (.cells (brcells (bareBr n r) (vTrie (.slice ua un uc))) 37) = w3 at q3 n3 ⊢
  have b3 := below_end b2 q3
  have r3 := r2.below q3
  have k3 := k2.below q3
  have s3 := r3.lt
  have s2 : w1.heap.size ≤ w2.heap.size := hb.size
  obtain ⟨G, hG⟩ : ∃ G, w2.heap.size = G := ⟨_, rfl⟩
  rw [hG] at n3 s2 ⊢
  clear hG b2 r2 k2 q3 hb
  go_wp2_with (first | refine wpList_load_row rfl 37 (.tmp 6) rfl G rfl 37 (brcells (bareBr n r) (vTrie (.slice ua un uc))) (0, 0) _ n3 Tryz.underlying37 rfl (by kernel_rfl) ?_)
  refine (CB.out _ w3 (own_knots_at k3)).mono ?_
  rintro e w4 ⟨rfl, hb⟩
  have b4 := below_end b3 hb
  have r4 := r3.below hb
  have k4 := k3.below hb
  have n4 := n3.below hb
  clear b3 r3 k3 n3 hb CB s3
  cases ok
  · have HE := Lib.hid (show nb = (zeroBroker, false) by rw [HN.out]; rfl)
    go_wp2_with (first | refine wpList_store_rowTo rfl 37 (.tmp 4) (.tmp 15) rfl rfl w.heap.size (brcells zeroBroker (vTrie (.slice none 0 0))) rfl rfl 37 _ r4 (by kernel_rfl) rfl (brcells_one _ _ _ _ _ _ _ _ _ _ _ _ _) ?_)
    have G4 := grown_setRow w4 w.heap.size (brcells zeroBroker (vTrie (.slice none 0 0)))
    exact bodyPost_ret (results_row_tmp rfl _ _ _ _ _ _ _ rfl (setRow_heap (brcells zeroBroker (vTrie (.slice none 0 0))) r4) Tryz.underlying37 rfl (by kernel_rfl)) rfl ⟨.slice none 0 0, by rw [HE.out]; rfl, by rw [HE.out]; exact kown_none _ _, b4.trans (below_of_grown (n := w.heap.size) G4 (Nat.le_refl _) b4.size)⟩
  · have HE := Lib.hid (show nb = (bareBr n r, true) by rw [HN.out]; rfl)
    go_wp2_with (first
      | refine wpList_load_row rfl 37 (.tmp 6) rfl G rfl 37 (brcells (bareBr n r) (vTrie (.slice ua un uc))) (0, 0) _ n4 Tryz.underlying37 rfl (by kernel_rfl) ?_
      | refine wpList_store_rowTo rfl 37 (.tmp 4) (.tmp 16) rfl rfl w.heap.size (brcells (bareBr n r) (vTrie (.slice ua un uc))) rfl rfl 37 _ r4 (by kernel_rfl) rfl (brcells_one _ _ _ _ _ _ _ _ _ _ _ _ _) ?_)
    have G4 := grown_setRow w4 w.heap.size (brcells (bareBr n r) (vTrie (.slice ua un uc)))
    have k5 := kown_grownN k4 s1 G4
    exact bodyPost_ret (results_row_tmp rfl _ _ _ _ _ _ _ rfl (setRow_heap (brcells (bareBr n r) (vTrie (.slice ua un uc))) r4) Tryz.underlying37 rfl (by kernel_rfl)) rfl ⟨.slice ua un uc, by rw [HE.out]; rfl, by rw [HE.out]; exact kown_mono k5 (Nat.le_of_lt s1), b4.trans (below_of_grown (n := w.heap.size) G4 (Nat.le_refl _) b4.size)⟩

/-- Those for a topic. -/
def targetsM (b : BrokerM) (t : ByteArray) : List Int := if brokerB b then idsL b.trie t else []

set_option maxRecDepth 100000 in
set_option maxHeartbeats 800000 in
theorem specTargets_any (b : BrokerM) (v : BrV) (t : ByteArray) (w : World) (hs : BrSmall b) (ht : t.size ≤ 1048576) (hv : BrAt w v b) :
    Calls Tryz.prog 16 #[bragg b v, .string t] w fun e w' => ∃ u, e = .returned u ∧ w'.ownsRow w.heap.size 2 1 u (targetsM b t).length (ints (targetsM b t)) ∧ Below w.heap.size w w' := by
  have CB := Lib.hid (fun wx h => specBrokerOk_any b v wx hs h)
  have CI := Lib.hid (fun wx (h : BrAt wx v b) => specIds_any v.t b.trie t wx hs.trie ht h.trie)
  have HV := Lib.hid hv
  obtain ⟨vs, vt, vk, vr⟩ := v
  obtain ⟨a1, c1, hz, _, _, _⟩ := HV.out.subs
  dsimp only at hz
  subst hz
  obtain ⟨a2, c2, hz, _, _, _⟩ := HV.out.trie
  dsimp only at hz
  subst hz
  obtain ⟨a3, c3, hz, _, _, _⟩ := HV.out.keep
  dsimp only at hz
  subst hz
  obtain ⟨a5, c5, hz, _, _, _⟩ := HV.out.ring
  dsimp only at hz
  subst hz
  have HT : Hid (targetsM b t = if brokerB b then idsL b.trie t else []) := Lib.hid rfl
  obtain ⟨ok, hok⟩ : ∃ x, brokerB b = x := ⟨_, rfl⟩
  obtain ⟨R, hR⟩ : ∃ x, targetsM b t = x := ⟨_, rfl⟩
  rw [hok] at HT CB
  rw [hR] at HT ⊢
  clear hok hR hv
  go_enter Tryz.func16, Tryz.ntmps16
  dsimp only at CI
  go_upto_region 1 with (fail)
  have b1 := (Below.refl w.heap.size w).alloc (Nat.le_refl _) (.cells (brcells b ⟨.slice a1 b.subs.length c1, .slice a2 b.trie.length c2, .slice a3 b.keep.length c3, .slice a5 b.ring.length c5⟩) 37)
  have r1 : BBr (w.alloc (.cells (brcells b ⟨.slice a1 b.subs.length c1, .slice a2 b.trie.length c2, .slice a3 b.keep.length c3, .slice a5 b.ring.length c5⟩) 37)) w.heap.size 37 b ⟨.slice a1 b.subs.length c1, .slice a2 b.trie.length c2, .slice a3 b.keep.length c3, .slice a5 b.ring.length c5⟩ := BBr.new _ _ _ _
  change Code.wp _ _ _ _ (w.alloc (.cells (brcells b ⟨.slice a1 b.subs.length c1, .slice a2 b.trie.length c2, .slice a3 b.keep.length c3, .slice a5 b.ring.length c5⟩) 37))
  generalize w.alloc (.cells (brcells b ⟨.slice a1 b.subs.length c1, .slice a2 b.trie.length c2, .slice a3 b.keep.length c3, .slice a5 b.ring.length c5⟩) 37) = w1 at b1 r1 ⊢
  go_wp2_with (first | refine wpList_load_row rfl 37 (.tmp 2) rfl w.heap.size rfl 37 (brcells b ⟨.slice a1 b.subs.length c1, .slice a2 b.trie.length c2, .slice a3 b.keep.length c3, .slice a5 b.ring.length c5⟩) (0, 0) _ r1 Tryz.underlying37 rfl (by kernel_rfl) ?_)
  refine (CB.out _ (HV.out.below b1)).mono ?_
  rintro e w2 ⟨rfl, hb⟩
  have b2 := below_end b1 hb
  have r2 := r1.below hb
  clear b1 r1 hb CB
  cases ok
  · have HE := Lib.hid (show R = [] by rw [HT.out]; rfl)
    have B2 := Lib.hid b2
    have HO := Lib.hid (World.ownsRow_lit (base := w.heap.size) (e := 2) (size := 1) w2 #[] 0 b2.size (by unfold maxLen; omega) rfl)
    clear b2 r2
    go_wp2
    go_ret
    exact ⟨_, rfl, by rw [HE.out]; exact HO.out, B2.out.alloc B2.out.size _⟩
  · have HE := Lib.hid (show R = idsL b.trie t by rw [HT.out]; rfl)
    have x2 := r2.cells.2.2.1
    dsimp only at x2
    have B2 := Lib.hid b2
    clear r2 b2
    go_wp2_with fail
    refine (CI.out _ (HV.out.below B2.out)).mono ?_
    rintro e w3 ⟨u, rfl, ho, hb⟩
    obtain ⟨ua, uc, hu⟩ := own_slice ho
    subst hu
    have O3 := Lib.hid (own_mono ho B2.out.size)
    have B3 := Lib.hid (below_end B2.out hb)
    clear ho hb x2
    go_wp2
    go_ret
    exact ⟨_, rfl, by rw [HE.out]; exact O3.out, B3.out⟩

/-- How many are live. -/
def liveN (l : List SubM) : Nat := (l.filter (·.live)).length
def liveM (b : BrokerM) : Int := if brokerB b then (liveN b.subs : Int) else -1
theorem liveN_succ {l : List SubM} {k : Nat} (h : k < l.length) : liveN (l.take (k + 1)) = liveN (l.take k) + (if l[k].live then 1 else 0) := by
  unfold liveN
  rw [List.take_succ_eq_append_getElem h, List.filter_append, List.length_append]
  cases h2 : l[k].live <;> simp [List.filter, h2]
theorem liveN_le (l : List SubM) : liveN l ≤ l.length := List.length_filter_le _ _

set_option maxRecDepth 100000 in
set_option maxHeartbeats 1600000 in
theorem specLive_any (b : BrokerM) (v : BrV) (w : World) (hs : BrSmall b) (hv : BrAt w v b) :
    Calls Tryz.prog 21 #[bragg b v] w fun e w' => e = .returned (.int .i64 (liveM b)) ∧ Below w.heap.size w w' := by
  have CB := Lib.hid (fun wx h => specBrokerOk_any b v wx hs h)
  have HSL := hs.subs
  have HV := Lib.hid hv
  obtain ⟨vs, vt, vk, vr⟩ := v
  obtain ⟨a1, c1, hz, _, _, _⟩ := HV.out.subs
  dsimp only at hz
  subst hz
  have HT : Hid (liveM b = if brokerB b then (liveN b.subs : Int) else -1) := Lib.hid rfl
  obtain ⟨ok, hok⟩ : ∃ x, brokerB b = x := ⟨_, rfl⟩
  obtain ⟨R, hR⟩ : ∃ x, liveM b = x := ⟨_, rfl⟩
  rw [hok] at HT CB
  rw [hR] at HT ⊢
  clear hok hR hv hs
  go_enter Tryz.func21, Tryz.ntmps21
  go_upto_region 1 with (fail)
  have b1 := (Below.refl w.heap.size w).alloc (Nat.le_refl _) (.cells (brcells b ⟨.slice a1 b.subs.length c1, vt, vk, vr⟩) 37)
  have r1 : BBr (w.alloc (.cells (brcells b ⟨.slice a1 b.subs.length c1, vt, vk, vr⟩) 37)) w.heap.size 37 b ⟨.slice a1 b.subs.length c1, vt, vk, vr⟩ := BBr.new _ _ _ _
  change Code.wp _ _ _ _ (w.alloc (.cells (brcells b ⟨.slice a1 b.subs.length c1, vt, vk, vr⟩) 37))
  generalize w.alloc (.cells (brcells b ⟨.slice a1 b.subs.length c1, vt, vk, vr⟩) 37) = w1 at b1 r1 ⊢
  go_wp2_with (first | refine wpList_load_row rfl 37 (.tmp 1) rfl w.heap.size rfl 37 (brcells b ⟨.slice a1 b.subs.length c1, vt, vk, vr⟩) (0, 0) _ r1 Tryz.underlying37 rfl (by kernel_rfl) ?_)
  refine (CB.out _ (HV.out.below b1)).mono ?_
  rintro e w2 ⟨rfl, hb⟩
  have b2 := below_end b1 hb
  have r2 := r1.below hb
  clear b1 r1 hb CB
  have B2 := Lib.hid b2
  have V2 := Lib.hid (HV.out.below b2)
  clear b2
  cases ok
  · have HE := Lib.hid (show R = -1 by rw [HT.out]; rfl)
    clear r2
    go_wp2
    go_ret
    exact ⟨by rw [HE.out]; rfl, B2.out⟩
  have HE := Lib.hid (show R = (liveN b.subs : Int) by rw [HT.out]; rfl)
  have x1 := r2.cells.2.1
  dsimp only at x1
  clear r2
  go_wp2
  go_loopw [3, 4] (fun n i wr => ∃ k : Nat, k ≤ b.subs.length ∧ i = .int .i64 k ∧ n = .int .i64 ((liveN (b.subs.take k) : Nat) : Int) ∧ wr = w2) (fun _ i _ => b.subs.length - (intOf i).toNat)
  case atStart => exact ⟨0, Nat.zero_le _, rfl, rfl, rfl⟩
  case round =>
    obtain ⟨k, hk, rfl, rfl, rfl⟩ := hrel
    by_cases hlt : k < b.subs.length
    · obtain ⟨bb, oo, rfl, hin⟩ : ∃ bb oo, a1 = some ⟨bb, oo, none⟩ ∧ ∀ (j : Nat) (hj : j < b.subs.length), SubIn wr bb (oo + j * 10) b.subs[j] := by
        obtain ⟨a', c', he, _, _, h3⟩ := V2.out.subs
        cases he
        rcases h3 with h | h
        · rw [h] at hlt; simp at hlt
        · exact h
      obtain ⟨us, hq, hra⟩ := hin k hlt
      have HL := Lib.hid (liveN_succ hlt)
      have hle := liveN_le (b.subs.take k)
      rw [List.length_take, Nat.min_eq_left (by omega)] at hle
      have p9 : wr.cell? ⟨bb, oo + k * 10 + 9, none⟩ = some (.bool b.subs[k].live) := hra 9 _ rfl
      clear hin hra hq
      generalize liveN (b.subs.take k) = m at HL hle
      cases hlv : b.subs[k].live
      · have HL2 := Lib.hid (show liveN (b.subs.take (k + 1)) = m by rw [HL.out, hlv]; rfl)
        rw [hlv] at p9
        clear hlv HL
        go_wp2
        go_roundw
        case rel => exact ⟨k + 1, by omega, by go_num, by rw [HL2.out], by trivial⟩
        case measure => simp [intOf]; omega
      · have HL2 := Lib.hid (show liveN (b.subs.take (k + 1)) = m + 1 by rw [HL.out, hlv]; rfl)
        rw [hlv] at p9
        clear hlv HL
        go_wp2
        go_roundw
        case rel => exact ⟨k + 1, by omega, by go_num, by rw [HL2.out]; go_num, by trivial⟩
        case measure => simp [intOf]; omega
    · obtain rfl : k = b.subs.length := by omega
      have HK := Lib.hid (show liveN (b.subs.take b.subs.length) = liveN b.subs by rw [List.take_length])
      go_wp2
      go_ret
      exact ⟨by rw [HE.out, ← HK.out]; rfl, B2.out⟩

end Go.Proofs.YtmfbffhbgelnnaaGreatDoor
