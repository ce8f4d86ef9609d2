/- The law FnExactRecorded holds at every argument: for every input it returns true and leaves the input as it was. -/
import Derived.Test.YtfdikopfpeiilaaDoorZB1
import Derived.Test.YtfdikopfpeiilaaDoorZIRec
import Derived.Test.YtfdikopfpeiilaaDoorZMPartR
import Derived.Test.YtfdikopfpeiilaaDoorZSRing3
import Derived.Test.YtfdikopfpeiilaaDoorZMsgR
import Derived.Test.YtfdikopfpeiilaaDoorZB2
set_option linter.unusedSimpArgs false
set_option linter.unusedVariables false
namespace Go.Proofs.YtfdikopfpeiilaaDoor.lawFnExactRecorded
open Go.ChangeShapes Go.WideShapes Go.ChangeAt Go.RowKit Go.WideMaps Go.WideElems
open Go.ChangeMaps (open_string shut_string)

set_option maxRecDepth 100000 in
set_option maxHeartbeats 6400000 in
theorem law (w : World) (cap : Int) (v : Value) (l : List MsgM) (hv : MsgsAt w v l) (hp : ∀ y ∈ l, y.2.2.1.size ≤ maxLen) (x : MsgM) (hx : x.2.2.1.size ≤ maxLen) (m : Int) (hm : w.cell? ⟨0, 0, none⟩ = some (.int .i64 m)) :
    Calls Tryd.prog 4 #[.agg #[.int .i64 cap, v], magg x] w fun e w' => e = .returned (.bool true) ∧ Below w.heap.size w w' := by
  have cz := fun wx (h : MsgsAt wx v l) => szRing_any cap v l 1048576 wx (by omega) (by omega) hp h
  have HV := Lib.hid hv
  obtain ⟨a, c, rfl, _, _, _⟩ := hv
  have hzle := szMs_le l 1048576 (by omega)
  have cy := fun wx (h : 0 ≤ szMs l 1048576) => szMsg_any x (szMs l 1048576) wx h hzle hx
  go_enter Tryd.func4, Tryd.ntmps4
  go_wp2_with fail
  have S0 := Lib.hid (((Held.start w).pushBox 24 #[.int .i64 cap, .slice a l.length c] (by simp)).pushBox 34 #[.int .i64 x.1, .int .i64 x.2.1, .string x.2.2.1, .int .i64 x.2.2.2] (by simp))
  rw [World.size_alloc] at S0
  generalize (w.alloc (.cells #[.int .i64 cap, .slice a l.length c] 24)).alloc (.cells #[.int .i64 x.1, .int .i64 x.2.1, .string x.2.2.1, .int .i64 x.2.2.2] 34) = w0 at S0 ⊢
  refine (cz w0 (HV.out.below S0.out.bw)).mono ?_
  clear cz
  rintro e w1 ⟨rfl, b1⟩
  have S1 := Lib.hid (S0.out.below b1)
  clear b1 S0
  by_cases hz : szMs l 1048576 < 0
  · have g1 : decide (szMs l 1048576 < 0) = true := decide_eq_true hz
    go_wp2
    go_ret
    exact ⟨rfl, S1.out.bw⟩
  have g1 : decide (szMs l 1048576 < 0) = false := decide_eq_false hz
  have d0_0 : w1.cell? ⟨w.heap.size + 1, 0, none⟩ = some (.int .i64 x.1) := S1.out.cell (b := (w.heap.size + 1, 34, #[.int .i64 x.1, .int .i64 x.2.1, .string x.2.2.1, .int .i64 x.2.2.2])) (by simp) 0
  have d0_1 : w1.cell? ⟨w.heap.size + 1, 1, none⟩ = some (.int .i64 x.2.1) := S1.out.cell (b := (w.heap.size + 1, 34, #[.int .i64 x.1, .int .i64 x.2.1, .string x.2.2.1, .int .i64 x.2.2.2])) (by simp) 1
  have d0_2 : w1.cell? ⟨w.heap.size + 1, 2, none⟩ = some (.string x.2.2.1) := S1.out.cell (b := (w.heap.size + 1, 34, #[.int .i64 x.1, .int .i64 x.2.1, .string x.2.2.1, .int .i64 x.2.2.2])) (by simp) 2
  have d0_3 : w1.cell? ⟨w.heap.size + 1, 3, none⟩ = some (.int .i64 x.2.2.2) := S1.out.cell (b := (w.heap.size + 1, 34, #[.int .i64 x.1, .int .i64 x.2.1, .string x.2.2.1, .int .i64 x.2.2.2])) (by simp) 3
  have d1_0 : w1.cell? ⟨w.heap.size, 0, none⟩ = some (.int .i64 cap) := S1.out.cell (b := (w.heap.size, 24, #[.int .i64 cap, .slice a l.length c])) (by simp) 0
  have d1_1 : w1.cell? ⟨w.heap.size, 1, none⟩ = some (.slice a l.length c) := S1.out.cell (b := (w.heap.size, 24, #[.int .i64 cap, .slice a l.length c])) (by simp) 1
  go_wp2_with fail
  refine (cy w1 (by omega)).mono ?_
  clear d0_0 d0_1 d0_2 d0_3 d1_0 d1_1
  rintro e w2 ⟨rfl, b2⟩
  have S2 := Lib.hid (S1.out.below b2)
  clear b2 S1
  have d0_0 : w2.cell? ⟨w.heap.size + 1, 0, none⟩ = some (.int .i64 x.1) := S2.out.cell (b := (w.heap.size + 1, 34, #[.int .i64 x.1, .int .i64 x.2.1, .string x.2.2.1, .int .i64 x.2.2.2])) (by simp) 0
  have d0_1 : w2.cell? ⟨w.heap.size + 1, 1, none⟩ = some (.int .i64 x.2.1) := S2.out.cell (b := (w.heap.size + 1, 34, #[.int .i64 x.1, .int .i64 x.2.1, .string x.2.2.1, .int .i64 x.2.2.2])) (by simp) 1
  have d0_2 : w2.cell? ⟨w.heap.size + 1, 2, none⟩ = some (.string x.2.2.1) := S2.out.cell (b := (w.heap.size + 1, 34, #[.int .i64 x.1, .int .i64 x.2.1, .string x.2.2.1, .int .i64 x.2.2.2])) (by simp) 2
  have d0_3 : w2.cell? ⟨w.heap.size + 1, 3, none⟩ = some (.int .i64 x.2.2.2) := S2.out.cell (b := (w.heap.size + 1, 34, #[.int .i64 x.1, .int .i64 x.2.1, .string x.2.2.1, .int .i64 x.2.2.2])) (by simp) 3
  have d1_0 : w2.cell? ⟨w.heap.size, 0, none⟩ = some (.int .i64 cap) := S2.out.cell (b := (w.heap.size, 24, #[.int .i64 cap, .slice a l.length c])) (by simp) 0
  have d1_1 : w2.cell? ⟨w.heap.size, 1, none⟩ = some (.slice a l.length c) := S2.out.cell (b := (w.heap.size, 24, #[.int .i64 cap, .slice a l.length c])) (by simp) 1
  clear cy
  by_cases hy : szN x.2.2.1.size (szMs l 1048576) < 0
  · have g2 : decide (szN x.2.2.1.size (szMs l 1048576) < 0) = true := decide_eq_true hy
    go_wp2
    go_ret
    exact ⟨rfl, S2.out.bw⟩
  have g2 : decide (szN x.2.2.1.size (szMs l 1048576) < 0) = false := decide_eq_false hy
  obtain ⟨hlen, hall⟩ := szMs_small (by omega) (show 0 ≤ szMs l 1048576 by omega)
  have hl : l.length ≤ 1048576 := by omega
  have hs : ∀ x ∈ l, x.2.2.1.size ≤ 1048576 := fun x hx => by have := hall x hx; omega
  have hx1 : x.2.2.1.size ≤ 1048576 := by have := szN_small (show 0 ≤ szN x.2.2.1.size (szMs l 1048576) by omega); omega
  have CT := Lib.hid (fun wx (h : MsgsAt wx (.slice a l.length c) l) => toRing_any cap _ l wx (by omega) h)
  have CU := Lib.hid (fun wx => toMsg_any x wx)
  have CS := Lib.hid (fun u wx (h : MsgsAt wx u l) => specRecorded_any cap u l x wx hl hs hx1 h)
  have CI := Lib.hid (fun u wx (h : MsgsAt wx u l) h2 => implRecorded_any cap u l x m wx hl hs hx1 h h2)
  have hLl := recM_len cap l x
  obtain ⟨rc, L, ok, hR⟩ : ∃ rc L ok, recM cap l x = (rc, L, ok) := ⟨_, _, _, rfl⟩
  simp only [hR] at CS CI hLl
  have CQ := Lib.hid (fun u1 u2 wx (h1 : MsgsAt wx u1 l) (h2 : MsgsAt wx u2 l) => eqRing_any cap u1 u2 l wx (by omega) h1 h2)
  have CE := Lib.hid (fun u1 u2 wx (h1 : MsgsAt wx u1 L) (h2 : MsgsAt wx u2 L) => eqRing_any rc u1 u2 L wx (by omega) h1 h2)
  have CK := Lib.hid (fun u B wx (h : MOwn wx B u l) => markRing_any cap u l 1 B wx (Nat.le_refl _) (by omega) h)
  have HL8 := Lib.hid (show 1 + L.length * 4 ≤ 8000000 by omega)
  have CH := Lib.hid (fun u wx (h : MsgsAt wx u (mmarks 1 L.length)) => heldRing_any rc u 1 L.length wx (Nat.le_refl _) (by omega) h)
  obtain ⟨z, hz2⟩ : ∃ z, szMs l 1048576 = z := ⟨_, rfl⟩
  rw [hz2] at g1 g2
  obtain ⟨z2, hz3⟩ : ∃ z2, szN x.2.2.1.size z = z2 := ⟨_, rfl⟩
  rw [hz3] at g2
  obtain ⟨kx, hkx⟩ : ∃ kx, ((1 + l.length * 4 : Nat) : Int) = kx := ⟨_, rfl⟩
  have g3 : decide (kx < 0) = false := decide_eq_false (by omega)
  simp only [hkx] at CK
  obtain ⟨ky, hky⟩ : ∃ ky, ((1 + L.length * 4 : Nat) : Int) = ky := ⟨_, rfl⟩
  have g4 : decide (ky < 0) = false := decide_eq_false (by omega)
  have g5 : (ky != ky) = false := by simp
  have g6 : (ok != ok) = false := by simp
  simp only [hky] at CH
  have HKY := Lib.hid hky
  have HM := Lib.hid hm
  have hlt : 0 < w.heap.size := World.block_lt_of_cell? _ _ hm
  rw [hz2, hz3]
  clear hm hz hy hz3 hz2 hzle hlen hall hl hs hp hx hx1 hLl hkx hky hR
  go_wp2_with fail
  clear d0_0 d0_1 d0_2 d0_3 d1_0 d1_1
  refine (fun (tail : ?TA) => ?mainA) ?pfA
  case mainA =>
    have SD := S2.out.below (show Below w2.heap.size w2 w2.drew from (Below.refl _ _).drew)
    refine wp_region_held_drew (S := fun wx => wx.cell? ⟨w.heap.size + 1, 0, none⟩ = some (.int .i64 x.1) ∧ wx.cell? ⟨w.heap.size + 1, 1, none⟩ = some (.int .i64 x.2.1) ∧ wx.cell? ⟨w.heap.size + 1, 2, none⟩ = some (.string x.2.2.1) ∧ wx.cell? ⟨w.heap.size + 1, 3, none⟩ = some (.int .i64 x.2.2.2) ∧ wx.cell? ⟨w.heap.size, 0, none⟩ = some (.int .i64 cap) ∧ wx.cell? ⟨w.heap.size, 1, none⟩ = some (.slice a l.length c)) (by kernel_rfl) ?_ (fun hHeld => ?_)
    · exact ⟨SD.cell (b := (w.heap.size + 1, 34, #[.int .i64 x.1, .int .i64 x.2.1, .string x.2.2.1, .int .i64 x.2.2.2])) (by simp) 0, SD.cell (b := (w.heap.size + 1, 34, #[.int .i64 x.1, .int .i64 x.2.1, .string x.2.2.1, .int .i64 x.2.2.2])) (by simp) 1, SD.cell (b := (w.heap.size + 1, 34, #[.int .i64 x.1, .int .i64 x.2.1, .string x.2.2.1, .int .i64 x.2.2.2])) (by simp) 2, SD.cell (b := (w.heap.size + 1, 34, #[.int .i64 x.1, .int .i64 x.2.1, .string x.2.2.1, .int .i64 x.2.2.2])) (by simp) 3, SD.cell (b := (w.heap.size, 24, #[.int .i64 cap, .slice a l.length c])) (by simp) 0, SD.cell (b := (w.heap.size, 24, #[.int .i64 cap, .slice a l.length c])) (by simp) 1⟩
    change wpAnyH _ _ _ _ _ 11 #[false, false, false, false, false, false, false, false, false, false, false] _ _
    have S3 := Lib.hid SD
    clear SD
    generalize w2.drew = w3 at S3 hHeld ⊢
    refine wpAnyH_take (i := 0) (v := ?_) rfl (by kernel_rfl) (by kernel_rfl) (by kernel_rfl) (fun _ _ _ h => h) (Or.inl ⟨by rfl, ?_⟩) (by assumption) ?_
    rotate_left
    · intro w hSw; (try dsimp only at hSw); go_simp; try with_reducible rfl
    try simp only [Act.put, List.getElem_toArray, List.getElem_cons_succ, List.getElem_cons_zero, List.setIfInBounds_toArray, List.set_cons_zero, List.set_cons_succ]
    refine wpAnyH_take (i := 2) (v := ?_) rfl (by kernel_rfl) (by kernel_rfl) (by kernel_rfl) (fun _ _ _ h => h) (Or.inl ⟨by rfl, ?_⟩) (by assumption) ?_
    rotate_left
    · intro w hSw; (try dsimp only at hSw); go_simp; try with_reducible rfl
    try simp only [Act.put, List.getElem_toArray, List.getElem_cons_succ, List.getElem_cons_zero, List.setIfInBounds_toArray, List.set_cons_zero, List.set_cons_succ]
    refine wpAnyH_ready (rs := [1, 8]) (by kernel_rfl) (by simp) (AllReadyH.cons rfl (fun K hK => ?_) (AllReadyH.cons rfl (fun K hK => ?_) AllReadyH.nil))
    · skip
      rw [if_pos (by rfl)]
      go_simp; go_at_call 8; refine (CT.out _ (HV.out.below S3.out.bw)).mono ?_; rintro e w4 ⟨ur, rfl, kr, b4⟩; have KR := Lib.hid (own_msgs_at kr); obtain ⟨ar, cr, hur⟩ := own_slice kr; subst hur; clear kr; have S4 := Lib.hid (S3.out.below b4); go_wp2_with fail
      refine hK.out _ _ ?_ (fun hHeld => ?_)
      · exact ⟨S4.out.cell (b := (w.heap.size + 1, 34, #[.int .i64 x.1, .int .i64 x.2.1, .string x.2.2.1, .int .i64 x.2.2.2])) (by simp) 0, S4.out.cell (b := (w.heap.size + 1, 34, #[.int .i64 x.1, .int .i64 x.2.1, .string x.2.2.1, .int .i64 x.2.2.2])) (by simp) 1, S4.out.cell (b := (w.heap.size + 1, 34, #[.int .i64 x.1, .int .i64 x.2.1, .string x.2.2.1, .int .i64 x.2.2.2])) (by simp) 2, S4.out.cell (b := (w.heap.size + 1, 34, #[.int .i64 x.1, .int .i64 x.2.1, .string x.2.2.1, .int .i64 x.2.2.2])) (by simp) 3, S4.out.cell (b := (w.heap.size, 24, #[.int .i64 cap, .slice a l.length c])) (by simp) 0, S4.out.cell (b := (w.heap.size, 24, #[.int .i64 cap, .slice a l.length c])) (by simp) 1⟩
      clear hK K
      try simp only [Act.put, List.getElem_toArray, List.getElem_cons_succ, List.getElem_cons_zero, List.setIfInBounds_toArray, List.set_cons_zero, List.set_cons_succ]
      clear b4 S3
      refine wpAnyH_ready (rs := [3, 8]) (by kernel_rfl) (by simp) (AllReadyH.cons rfl (fun K hK => ?_) (AllReadyH.cons rfl (fun K hK => ?_) AllReadyH.nil))
      · skip
        rw [if_pos (by rfl)]
        go_simp; go_at_call 13; refine (CU.out _).mono ?_; rintro e w5 ⟨rfl, b5⟩; replace KR := Lib.hid (KR.out.below b5); have S5 := Lib.hid (S4.out.below b5); go_wp2_with fail
        refine hK.out _ _ ?_ (fun hHeld => ?_)
        · exact ⟨S5.out.cell (b := (w.heap.size + 1, 34, #[.int .i64 x.1, .int .i64 x.2.1, .string x.2.2.1, .int .i64 x.2.2.2])) (by simp) 0, S5.out.cell (b := (w.heap.size + 1, 34, #[.int .i64 x.1, .int .i64 x.2.1, .string x.2.2.1, .int .i64 x.2.2.2])) (by simp) 1, S5.out.cell (b := (w.heap.size + 1, 34, #[.int .i64 x.1, .int .i64 x.2.1, .string x.2.2.1, .int .i64 x.2.2.2])) (by simp) 2, S5.out.cell (b := (w.heap.size + 1, 34, #[.int .i64 x.1, .int .i64 x.2.1, .string x.2.2.1, .int .i64 x.2.2.2])) (by simp) 3, S5.out.cell (b := (w.heap.size, 24, #[.int .i64 cap, .slice a l.length c])) (by simp) 0, S5.out.cell (b := (w.heap.size, 24, #[.int .i64 cap, .slice a l.length c])) (by simp) 1⟩
        clear hK K
        try simp only [Act.put, List.getElem_toArray, List.getElem_cons_succ, List.getElem_cons_zero, List.setIfInBounds_toArray, List.set_cons_zero, List.set_cons_succ]
        clear b5 S4
        refine wpAnyH_ready (rs := [4, 8]) (by kernel_rfl) (by simp) (AllReadyH.cons rfl (fun K hK => ?_) (AllReadyH.cons rfl (fun K hK => ?_) AllReadyH.nil))
        · skip
          rw [if_pos (by rfl)]
          go_simp; go_at_call 12; refine (CS.out _ _ KR.out).mono ?_; rintro e w6 ⟨uz, rfl, kz, b6⟩; obtain ⟨az, cz, huz⟩ := own_slice kz; subst huz; have S6 := Lib.hid (S5.out.pushRow b6 kz (by simp)); go_wp2_with fail
          refine hK.out _ _ ?_ (fun hHeld => ?_)
          · exact ⟨S6.out.cell (b := (w.heap.size + 1, 34, #[.int .i64 x.1, .int .i64 x.2.1, .string x.2.2.1, .int .i64 x.2.2.2])) (by simp) 0, S6.out.cell (b := (w.heap.size + 1, 34, #[.int .i64 x.1, .int .i64 x.2.1, .string x.2.2.1, .int .i64 x.2.2.2])) (by simp) 1, S6.out.cell (b := (w.heap.size + 1, 34, #[.int .i64 x.1, .int .i64 x.2.1, .string x.2.2.1, .int .i64 x.2.2.2])) (by simp) 2, S6.out.cell (b := (w.heap.size + 1, 34, #[.int .i64 x.1, .int .i64 x.2.1, .string x.2.2.1, .int .i64 x.2.2.2])) (by simp) 3, S6.out.cell (b := (w.heap.size, 24, #[.int .i64 cap, .slice a l.length c])) (by simp) 0, S6.out.cell (b := (w.heap.size, 24, #[.int .i64 cap, .slice a l.length c])) (by simp) 1⟩
          clear hK K
          try simp only [Act.put, List.getElem_toArray, List.getElem_cons_succ, List.getElem_cons_zero, List.setIfInBounds_toArray, List.set_cons_zero, List.set_cons_succ]
          clear b6 S5
          refine wpAnyH_take (i := 5) (v := ?_) rfl (by kernel_rfl) (by kernel_rfl) (by kernel_rfl) (fun _ _ _ h => h) (Or.inl ⟨by rfl, ?_⟩) (by assumption) ?_
          rotate_left
          · intro w hSw; (try dsimp only at hSw); go_simp; try with_reducible rfl
          try simp only [Act.put, List.getElem_toArray, List.getElem_cons_succ, List.getElem_cons_zero, List.setIfInBounds_toArray, List.set_cons_zero, List.set_cons_succ]
          refine wpAnyH_take (i := 6) (v := ?_) rfl (by kernel_rfl) (by kernel_rfl) (by kernel_rfl) (fun _ _ _ h => h) (Or.inl ⟨by rfl, ?_⟩) (by assumption) ?_
          rotate_left
          · intro w hSw; (try dsimp only at hSw); go_simp; try with_reducible rfl
          try simp only [Act.put, List.getElem_toArray, List.getElem_cons_succ, List.getElem_cons_zero, List.setIfInBounds_toArray, List.set_cons_zero, List.set_cons_succ]
          refine wpAnyH_take (i := 7) (v := ?_) rfl (by kernel_rfl) (by kernel_rfl) (by kernel_rfl) (fun _ _ _ h => h) (Or.inl ⟨by rfl, ?_⟩) (by assumption) ?_
          rotate_left
          · intro w hSw; (try dsimp only at hSw); go_simp; try with_reducible rfl
          try simp only [Act.put, List.getElem_toArray, List.getElem_cons_succ, List.getElem_cons_zero, List.setIfInBounds_toArray, List.set_cons_zero, List.set_cons_succ]
          have SA := Lib.hid (S6.out.pushBox 29 #[.int .i64 0, .slice none 0 0] (by simp))
          refine wpAnyH_ready (rs := [8]) (by kernel_rfl) (by simp) (AllReadyH.cons rfl (fun K hK => ?_) AllReadyH.nil)
          rw [if_pos (by rfl)]
          go_simp
          refine hK.out _ _ ?_ (fun hHeld => ?_)
          · exact ⟨SA.out.cell (b := (w.heap.size + 1, 34, #[.int .i64 x.1, .int .i64 x.2.1, .string x.2.2.1, .int .i64 x.2.2.2])) (by simp) 0, SA.out.cell (b := (w.heap.size + 1, 34, #[.int .i64 x.1, .int .i64 x.2.1, .string x.2.2.1, .int .i64 x.2.2.2])) (by simp) 1, SA.out.cell (b := (w.heap.size + 1, 34, #[.int .i64 x.1, .int .i64 x.2.1, .string x.2.2.1, .int .i64 x.2.2.2])) (by simp) 2, SA.out.cell (b := (w.heap.size + 1, 34, #[.int .i64 x.1, .int .i64 x.2.1, .string x.2.2.1, .int .i64 x.2.2.2])) (by simp) 3, SA.out.cell (b := (w.heap.size, 24, #[.int .i64 cap, .slice a l.length c])) (by simp) 0, SA.out.cell (b := (w.heap.size, 24, #[.int .i64 cap, .slice a l.length c])) (by simp) 1⟩
          clear hK K
          try simp only [Act.put, List.getElem_toArray, List.getElem_cons_succ, List.getElem_cons_zero, List.setIfInBounds_toArray, List.set_cons_zero, List.set_cons_succ]
          generalize w6.alloc (.cells #[.int .i64 0, .slice none 0 0] 29) = w7 at SA hHeld ⊢
          obtain ⟨G, hG⟩ : ∃ G, w6.heap.size = G := ⟨_, rfl⟩
          rw [hG] at SA ⊢
          clear hG S6
          have S7 := SA
          clear SA
          have z0 : w7.cell? ⟨G, 0, none⟩ = some (.int .i64 0) := S7.out.cell (b := (G, 29, #[.int .i64 0, .slice none 0 0])) (by simp) 0
          have z1 : w7.cell? ⟨G, 1, none⟩ = some (.slice none 0 0) := S7.out.cell (b := (G, 29, #[.int .i64 0, .slice none 0 0])) (by simp) 1
          have y0 : w7.frozen? ⟨G, 0, none⟩ = false := S7.out.frozen (b := (G, 29, #[.int .i64 0, .slice none 0 0])) (by simp) 0
          have y1 : w7.frozen? ⟨G, 1, none⟩ = false := S7.out.frozen (b := (G, 29, #[.int .i64 0, .slice none 0 0])) (by simp) 1
          have SE := (S7.out.store 0 (.int .i64 rc)).store 1 (.slice az L.length cz)
          simp only [List.setIfInBounds_toArray, List.set_cons_zero, List.set_cons_succ] at SE
          refine wpAnyH_ready (rs := [9]) (by kernel_rfl) (by simp) (AllReadyH.cons rfl (fun K hK => ?_) AllReadyH.nil)
          rw [if_pos (by rfl)]
          go_simp
          refine hK.out _ _ ?_ (fun hHeld => ?_)
          · exact ⟨SE.cell (b := (w.heap.size + 1, 34, #[.int .i64 x.1, .int .i64 x.2.1, .string x.2.2.1, .int .i64 x.2.2.2])) (by simp) 0, SE.cell (b := (w.heap.size + 1, 34, #[.int .i64 x.1, .int .i64 x.2.1, .string x.2.2.1, .int .i64 x.2.2.2])) (by simp) 1, SE.cell (b := (w.heap.size + 1, 34, #[.int .i64 x.1, .int .i64 x.2.1, .string x.2.2.1, .int .i64 x.2.2.2])) (by simp) 2, SE.cell (b := (w.heap.size + 1, 34, #[.int .i64 x.1, .int .i64 x.2.1, .string x.2.2.1, .int .i64 x.2.2.2])) (by simp) 3, SE.cell (b := (w.heap.size, 24, #[.int .i64 cap, .slice a l.length c])) (by simp) 0, SE.cell (b := (w.heap.size, 24, #[.int .i64 cap, .slice a l.length c])) (by simp) 1⟩
          clear hK K
          try simp only [Act.put, List.getElem_toArray, List.getElem_cons_succ, List.getElem_cons_zero, List.setIfInBounds_toArray, List.set_cons_zero, List.set_cons_succ]
          generalize (w7.setCell ⟨G, 0, none⟩ (.int .i64 rc)).setCell ⟨G, 1, none⟩ (.slice az L.length cz) = WW at SE hHeld ⊢
          refine wpAnyH_take (i := 10) (v := ?_) rfl (by kernel_rfl) (by kernel_rfl) (by kernel_rfl) (fun _ _ _ h => h) (Or.inl ⟨by rfl, ?_⟩) (by assumption) ?_
          rotate_left
          · intro w hSw; (try dsimp only at hSw); go_simp; try with_reducible rfl
          try simp only [Act.put, List.getElem_toArray, List.getElem_cons_succ, List.getElem_cons_zero, List.setIfInBounds_toArray, List.set_cons_zero, List.set_cons_succ]
          refine wpAnyH_done (by kernel_rfl) ?_ _
          clear hHeld z0 z1 y0 y1 S7
          obtain ⟨bz, hbz⟩ : ∃ b, w5.heap.size = b := ⟨_, rfl⟩
          rw [hbz] at SE
          clear hbz kz KR
          revert SE
          revert ar cr az cz G WW bz
          exact tail
        · skip
          have SA := Lib.hid (S5.out.pushBox 29 #[.int .i64 0, .slice none 0 0] (by simp))
          replace KR := Lib.hid (KR.out.alloc (.cells #[.int .i64 0, .slice none 0 0] 29))
          rw [if_pos (by rfl)]
          go_simp
          refine hK.out _ _ ?_ (fun hHeld => ?_)
          · exact ⟨SA.out.cell (b := (w.heap.size + 1, 34, #[.int .i64 x.1, .int .i64 x.2.1, .string x.2.2.1, .int .i64 x.2.2.2])) (by simp) 0, SA.out.cell (b := (w.heap.size + 1, 34, #[.int .i64 x.1, .int .i64 x.2.1, .string x.2.2.1, .int .i64 x.2.2.2])) (by simp) 1, SA.out.cell (b := (w.heap.size + 1, 34, #[.int .i64 x.1, .int .i64 x.2.1, .string x.2.2.1, .int .i64 x.2.2.2])) (by simp) 2, SA.out.cell (b := (w.heap.size + 1, 34, #[.int .i64 x.1, .int .i64 x.2.1, .string x.2.2.1, .int .i64 x.2.2.2])) (by simp) 3, SA.out.cell (b := (w.heap.size, 24, #[.int .i64 cap, .slice a l.length c])) (by simp) 0, SA.out.cell (b := (w.heap.size, 24, #[.int .i64 cap, .slice a l.length c])) (by simp) 1⟩
          clear hK K
          try simp only [Act.put, List.getElem_toArray, List.getElem_cons_succ, List.getElem_cons_zero, List.setIfInBounds_toArray, List.set_cons_zero, List.set_cons_succ]
          generalize w5.alloc (.cells #[.int .i64 0, .slice none 0 0] 29) = w6 at SA hHeld KR ⊢
          obtain ⟨G, hG⟩ : ∃ G, w5.heap.size = G := ⟨_, rfl⟩
          rw [hG] at SA ⊢
          clear hG S5
          have S6 := SA
          clear SA
          refine wpAnyH_ready (rs := [4]) (by kernel_rfl) (by simp) (AllReadyH.cons rfl (fun K hK => ?_) AllReadyH.nil)
          rw [if_pos (by rfl)]
          go_simp; go_at_call 12; refine (CS.out _ _ KR.out).mono ?_; rintro e w7 ⟨uz, rfl, kz, b7⟩; obtain ⟨az, cz, huz⟩ := own_slice kz; subst huz; have S7 := Lib.hid (S6.out.pushRow b7 kz (by simp)); go_wp2_with fail
          refine hK.out _ _ ?_ (fun hHeld => ?_)
          · exact ⟨S7.out.cell (b := (w.heap.size + 1, 34, #[.int .i64 x.1, .int .i64 x.2.1, .string x.2.2.1, .int .i64 x.2.2.2])) (by simp) 0, S7.out.cell (b := (w.heap.size + 1, 34, #[.int .i64 x.1, .int .i64 x.2.1, .string x.2.2.1, .int .i64 x.2.2.2])) (by simp) 1, S7.out.cell (b := (w.heap.size + 1, 34, #[.int .i64 x.1, .int .i64 x.2.1, .string x.2.2.1, .int .i64 x.2.2.2])) (by simp) 2, S7.out.cell (b := (w.heap.size + 1, 34, #[.int .i64 x.1, .int .i64 x.2.1, .string x.2.2.1, .int .i64 x.2.2.2])) (by simp) 3, S7.out.cell (b := (w.heap.size, 24, #[.int .i64 cap, .slice a l.length c])) (by simp) 0, S7.out.cell (b := (w.heap.size, 24, #[.int .i64 cap, .slice a l.length c])) (by simp) 1⟩
          clear hK K
          try simp only [Act.put, List.getElem_toArray, List.getElem_cons_succ, List.getElem_cons_zero, List.setIfInBounds_toArray, List.set_cons_zero, List.set_cons_succ]
          clear b7 S6
          refine wpAnyH_take (i := 5) (v := ?_) rfl (by kernel_rfl) (by kernel_rfl) (by kernel_rfl) (fun _ _ _ h => h) (Or.inl ⟨by rfl, ?_⟩) (by assumption) ?_
          rotate_left
          · intro w hSw; (try dsimp only at hSw); go_simp; try with_reducible rfl
          try simp only [Act.put, List.getElem_toArray, List.getElem_cons_succ, List.getElem_cons_zero, List.setIfInBounds_toArray, List.set_cons_zero, List.set_cons_succ]
          refine wpAnyH_take (i := 6) (v := ?_) rfl (by kernel_rfl) (by kernel_rfl) (by kernel_rfl) (fun _ _ _ h => h) (Or.inl ⟨by rfl, ?_⟩) (by assumption) ?_
          rotate_left
          · intro w hSw; (try dsimp only at hSw); go_simp; try with_reducible rfl
          try simp only [Act.put, List.getElem_toArray, List.getElem_cons_succ, List.getElem_cons_zero, List.setIfInBounds_toArray, List.set_cons_zero, List.set_cons_succ]
          refine wpAnyH_take (i := 7) (v := ?_) rfl (by kernel_rfl) (by kernel_rfl) (by kernel_rfl) (fun _ _ _ h => h) (Or.inl ⟨by rfl, ?_⟩) (by assumption) ?_
          rotate_left
          · intro w hSw; (try dsimp only at hSw); go_simp; try with_reducible rfl
          try simp only [Act.put, List.getElem_toArray, List.getElem_cons_succ, List.getElem_cons_zero, List.setIfInBounds_toArray, List.set_cons_zero, List.set_cons_succ]
          have z0 : w7.cell? ⟨G, 0, none⟩ = some (.int .i64 0) := S7.out.cell (b := (G, 29, #[.int .i64 0, .slice none 0 0])) (by simp) 0
          have z1 : w7.cell? ⟨G, 1, none⟩ = some (.slice none 0 0) := S7.out.cell (b := (G, 29, #[.int .i64 0, .slice none 0 0])) (by simp) 1
          have y0 : w7.frozen? ⟨G, 0, none⟩ = false := S7.out.frozen (b := (G, 29, #[.int .i64 0, .slice none 0 0])) (by simp) 0
          have y1 : w7.frozen? ⟨G, 1, none⟩ = false := S7.out.frozen (b := (G, 29, #[.int .i64 0, .slice none 0 0])) (by simp) 1
          have SE := (S7.out.store 0 (.int .i64 rc)).store 1 (.slice az L.length cz)
          simp only [List.setIfInBounds_toArray, List.set_cons_zero, List.set_cons_succ] at SE
          refine wpAnyH_ready (rs := [9]) (by kernel_rfl) (by simp) (AllReadyH.cons rfl (fun K hK => ?_) AllReadyH.nil)
          rw [if_pos (by rfl)]
          go_simp
          refine hK.out _ _ ?_ (fun hHeld => ?_)
          · exact ⟨SE.cell (b := (w.heap.size + 1, 34, #[.int .i64 x.1, .int .i64 x.2.1, .string x.2.2.1, .int .i64 x.2.2.2])) (by simp) 0, SE.cell (b := (w.heap.size + 1, 34, #[.int .i64 x.1, .int .i64 x.2.1, .string x.2.2.1, .int .i64 x.2.2.2])) (by simp) 1, SE.cell (b := (w.heap.size + 1, 34, #[.int .i64 x.1, .int .i64 x.2.1, .string x.2.2.1, .int .i64 x.2.2.2])) (by simp) 2, SE.cell (b := (w.heap.size + 1, 34, #[.int .i64 x.1, .int .i64 x.2.1, .string x.2.2.1, .int .i64 x.2.2.2])) (by simp) 3, SE.cell (b := (w.heap.size, 24, #[.int .i64 cap, .slice a l.length c])) (by simp) 0, SE.cell (b := (w.heap.size, 24, #[.int .i64 cap, .slice a l.length c])) (by simp) 1⟩
          clear hK K
          try simp only [Act.put, List.getElem_toArray, List.getElem_cons_succ, List.getElem_cons_zero, List.setIfInBounds_toArray, List.set_cons_zero, List.set_cons_succ]
          generalize (w7.setCell ⟨G, 0, none⟩ (.int .i64 rc)).setCell ⟨G, 1, none⟩ (.slice az L.length cz) = WW at SE hHeld ⊢
          refine wpAnyH_take (i := 10) (v := ?_) rfl (by kernel_rfl) (by kernel_rfl) (by kernel_rfl) (fun _ _ _ h => h) (Or.inl ⟨by rfl, ?_⟩) (by assumption) ?_
          rotate_left
          · intro w hSw; (try dsimp only at hSw); go_simp; try with_reducible rfl
          try simp only [Act.put, List.getElem_toArray, List.getElem_cons_succ, List.getElem_cons_zero, List.setIfInBounds_toArray, List.set_cons_zero, List.set_cons_succ]
          refine wpAnyH_done (by kernel_rfl) ?_ _
          clear hHeld z0 z1 y0 y1 S7
          obtain ⟨bz, hbz⟩ : ∃ b, w6.heap.size = b := ⟨_, rfl⟩
          rw [hbz] at SE
          clear hbz kz KR
          exact tail _ _ _ _ _ _ _ SE
      · skip
        have SA := Lib.hid (S4.out.pushBox 29 #[.int .i64 0, .slice none 0 0] (by simp))
        replace KR := Lib.hid (KR.out.alloc (.cells #[.int .i64 0, .slice none 0 0] 29))
        rw [if_pos (by rfl)]
        go_simp
        refine hK.out _ _ ?_ (fun hHeld => ?_)
        · exact ⟨SA.out.cell (b := (w.heap.size + 1, 34, #[.int .i64 x.1, .int .i64 x.2.1, .string x.2.2.1, .int .i64 x.2.2.2])) (by simp) 0, SA.out.cell (b := (w.heap.size + 1, 34, #[.int .i64 x.1, .int .i64 x.2.1, .string x.2.2.1, .int .i64 x.2.2.2])) (by simp) 1, SA.out.cell (b := (w.heap.size + 1, 34, #[.int .i64 x.1, .int .i64 x.2.1, .string x.2.2.1, .int .i64 x.2.2.2])) (by simp) 2, SA.out.cell (b := (w.heap.size + 1, 34, #[.int .i64 x.1, .int .i64 x.2.1, .string x.2.2.1, .int .i64 x.2.2.2])) (by simp) 3, SA.out.cell (b := (w.heap.size, 24, #[.int .i64 cap, .slice a l.length c])) (by simp) 0, SA.out.cell (b := (w.heap.size, 24, #[.int .i64 cap, .slice a l.length c])) (by simp) 1⟩
        clear hK K
        try simp only [Act.put, List.getElem_toArray, List.getElem_cons_succ, List.getElem_cons_zero, List.setIfInBounds_toArray, List.set_cons_zero, List.set_cons_succ]
        generalize w4.alloc (.cells #[.int .i64 0, .slice none 0 0] 29) = w5 at SA hHeld KR ⊢
        obtain ⟨G, hG⟩ : ∃ G, w4.heap.size = G := ⟨_, rfl⟩
        rw [hG] at SA ⊢
        clear hG S4
        have S5 := SA
        clear SA
        refine wpAnyH_ready (rs := [3]) (by kernel_rfl) (by simp) (AllReadyH.cons rfl (fun K hK => ?_) AllReadyH.nil)
        rw [if_pos (by rfl)]
        go_simp; go_at_call 13; refine (CU.out _).mono ?_; rintro e w6 ⟨rfl, b6⟩; replace KR := Lib.hid (KR.out.below b6); have S6 := Lib.hid (S5.out.below b6); go_wp2_with fail
        refine hK.out _ _ ?_ (fun hHeld => ?_)
        · exact ⟨S6.out.cell (b := (w.heap.size + 1, 34, #[.int .i64 x.1, .int .i64 x.2.1, .string x.2.2.1, .int .i64 x.2.2.2])) (by simp) 0, S6.out.cell (b := (w.heap.size + 1, 34, #[.int .i64 x.1, .int .i64 x.2.1, .string x.2.2.1, .int .i64 x.2.2.2])) (by simp) 1, S6.out.cell (b := (w.heap.size + 1, 34, #[.int .i64 x.1, .int .i64 x.2.1, .string x.2.2.1, .int .i64 x.2.2.2])) (by simp) 2, S6.out.cell (b := (w.heap.size + 1, 34, #[.int .i64 x.1, .int .i64 x.2.1, .string x.2.2.1, .int .i64 x.2.2.2])) (by simp) 3, S6.out.cell (b := (w.heap.size, 24, #[.int .i64 cap, .slice a l.length c])) (by simp) 0, S6.out.cell (b := (w.heap.size, 24, #[.int .i64 cap, .slice a l.length c])) (by simp) 1⟩
        clear hK K
        try simp only [Act.put, List.getElem_toArray, List.getElem_cons_succ, List.getElem_cons_zero, List.setIfInBounds_toArray, List.set_cons_zero, List.set_cons_succ]
        clear b6 S5
        refine wpAnyH_ready (rs := [4]) (by kernel_rfl) (by simp) (AllReadyH.cons rfl (fun K hK => ?_) AllReadyH.nil)
        rw [if_pos (by rfl)]
        go_simp; go_at_call 12; refine (CS.out _ _ KR.out).mono ?_; rintro e w7 ⟨uz, rfl, kz, b7⟩; obtain ⟨az, cz, huz⟩ := own_slice kz; subst huz; have S7 := Lib.hid (S6.out.pushRow b7 kz (by simp)); go_wp2_with fail
        refine hK.out _ _ ?_ (fun hHeld => ?_)
        · exact ⟨S7.out.cell (b := (w.heap.size + 1, 34, #[.int .i64 x.1, .int .i64 x.2.1, .string x.2.2.1, .int .i64 x.2.2.2])) (by simp) 0, S7.out.cell (b := (w.heap.size + 1, 34, #[.int .i64 x.1, .int .i64 x.2.1, .string x.2.2.1, .int .i64 x.2.2.2])) (by simp) 1, S7.out.cell (b := (w.heap.size + 1, 34, #[.int .i64 x.1, .int .i64 x.2.1, .string x.2.2.1, .int .i64 x.2.2.2])) (by simp) 2, S7.out.cell (b := (w.heap.size + 1, 34, #[.int .i64 x.1, .int .i64 x.2.1, .string x.2.2.1, .int .i64 x.2.2.2])) (by simp) 3, S7.out.cell (b := (w.heap.size, 24, #[.int .i64 cap, .slice a l.length c])) (by simp) 0, S7.out.cell (b := (w.heap.size, 24, #[.int .i64 cap, .slice a l.length c])) (by simp) 1⟩
        clear hK K
        try simp only [Act.put, List.getElem_toArray, List.getElem_cons_succ, List.getElem_cons_zero, List.setIfInBounds_toArray, List.set_cons_zero, List.set_cons_succ]
        clear b7 S6
        refine wpAnyH_take (i := 5) (v := ?_) rfl (by kernel_rfl) (by kernel_rfl) (by kernel_rfl) (fun _ _ _ h => h) (Or.inl ⟨by rfl, ?_⟩) (by assumption) ?_
        rotate_left
        · intro w hSw; (try dsimp only at hSw); go_simp; try with_reducible rfl
        try simp only [Act.put, List.getElem_toArray, List.getElem_cons_succ, List.getElem_cons_zero, List.setIfInBounds_toArray, List.set_cons_zero, List.set_cons_succ]
        refine wpAnyH_take (i := 6) (v := ?_) rfl (by kernel_rfl) (by kernel_rfl) (by kernel_rfl) (fun _ _ _ h => h) (Or.inl ⟨by rfl, ?_⟩) (by assumption) ?_
        rotate_left
        · intro w hSw; (try dsimp only at hSw); go_simp; try with_reducible rfl
        try simp only [Act.put, List.getElem_toArray, List.getElem_cons_succ, List.getElem_cons_zero, List.setIfInBounds_toArray, List.set_cons_zero, List.set_cons_succ]
        refine wpAnyH_take (i := 7) (v := ?_) rfl (by kernel_rfl) (by kernel_rfl) (by kernel_rfl) (fun _ _ _ h => h) (Or.inl ⟨by rfl, ?_⟩) (by assumption) ?_
        rotate_left
        · intro w hSw; (try dsimp only at hSw); go_simp; try with_reducible rfl
        try simp only [Act.put, List.getElem_toArray, List.getElem_cons_succ, List.getElem_cons_zero, List.setIfInBounds_toArray, List.set_cons_zero, List.set_cons_succ]
        have z0 : w7.cell? ⟨G, 0, none⟩ = some (.int .i64 0) := S7.out.cell (b := (G, 29, #[.int .i64 0, .slice none 0 0])) (by simp) 0
        have z1 : w7.cell? ⟨G, 1, none⟩ = some (.slice none 0 0) := S7.out.cell (b := (G, 29, #[.int .i64 0, .slice none 0 0])) (by simp) 1
        have y0 : w7.frozen? ⟨G, 0, none⟩ = false := S7.out.frozen (b := (G, 29, #[.int .i64 0, .slice none 0 0])) (by simp) 0
        have y1 : w7.frozen? ⟨G, 1, none⟩ = false := S7.out.frozen (b := (G, 29, #[.int .i64 0, .slice none 0 0])) (by simp) 1
        have SE := (S7.out.store 0 (.int .i64 rc)).store 1 (.slice az L.length cz)
        simp only [List.setIfInBounds_toArray, List.set_cons_zero, List.set_cons_succ] at SE
        refine wpAnyH_ready (rs := [9]) (by kernel_rfl) (by simp) (AllReadyH.cons rfl (fun K hK => ?_) AllReadyH.nil)
        rw [if_pos (by rfl)]
        go_simp
        refine hK.out _ _ ?_ (fun hHeld => ?_)
        · exact ⟨SE.cell (b := (w.heap.size + 1, 34, #[.int .i64 x.1, .int .i64 x.2.1, .string x.2.2.1, .int .i64 x.2.2.2])) (by simp) 0, SE.cell (b := (w.heap.size + 1, 34, #[.int .i64 x.1, .int .i64 x.2.1, .string x.2.2.1, .int .i64 x.2.2.2])) (by simp) 1, SE.cell (b := (w.heap.size + 1, 34, #[.int .i64 x.1, .int .i64 x.2.1, .string x.2.2.1, .int .i64 x.2.2.2])) (by simp) 2, SE.cell (b := (w.heap.size + 1, 34, #[.int .i64 x.1, .int .i64 x.2.1, .string x.2.2.1, .int .i64 x.2.2.2])) (by simp) 3, SE.cell (b := (w.heap.size, 24, #[.int .i64 cap, .slice a l.length c])) (by simp) 0, SE.cell (b := (w.heap.size, 24, #[.int .i64 cap, .slice a l.length c])) (by simp) 1⟩
        clear hK K
        try simp only [Act.put, List.getElem_toArray, List.getElem_cons_succ, List.getElem_cons_zero, List.setIfInBounds_toArray, List.set_cons_zero, List.set_cons_succ]
        generalize (w7.setCell ⟨G, 0, none⟩ (.int .i64 rc)).setCell ⟨G, 1, none⟩ (.slice az L.length cz) = WW at SE hHeld ⊢
        refine wpAnyH_take (i := 10) (v := ?_) rfl (by kernel_rfl) (by kernel_rfl) (by kernel_rfl) (fun _ _ _ h => h) (Or.inl ⟨by rfl, ?_⟩) (by assumption) ?_
        rotate_left
        · intro w hSw; (try dsimp only at hSw); go_simp; try with_reducible rfl
        try simp only [Act.put, List.getElem_toArray, List.getElem_cons_succ, List.getElem_cons_zero, List.setIfInBounds_toArray, List.set_cons_zero, List.set_cons_succ]
        refine wpAnyH_done (by kernel_rfl) ?_ _
        clear hHeld z0 z1 y0 y1 S7
        obtain ⟨bz, hbz⟩ : ∃ b, w6.heap.size = b := ⟨_, rfl⟩
        rw [hbz] at SE
        clear hbz kz KR
        exact tail _ _ _ _ _ _ _ SE
    · skip
      have SA := Lib.hid (S3.out.pushBox 29 #[.int .i64 0, .slice none 0 0] (by simp))
      rw [if_pos (by rfl)]
      go_simp
      refine hK.out _ _ ?_ (fun hHeld => ?_)
      · exact ⟨SA.out.cell (b := (w.heap.size + 1, 34, #[.int .i64 x.1, .int .i64 x.2.1, .string x.2.2.1, .int .i64 x.2.2.2])) (by simp) 0, SA.out.cell (b := (w.heap.size + 1, 34, #[.int .i64 x.1, .int .i64 x.2.1, .string x.2.2.1, .int .i64 x.2.2.2])) (by simp) 1, SA.out.cell (b := (w.heap.size + 1, 34, #[.int .i64 x.1, .int .i64 x.2.1, .string x.2.2.1, .int .i64 x.2.2.2])) (by simp) 2, SA.out.cell (b := (w.heap.size + 1, 34, #[.int .i64 x.1, .int .i64 x.2.1, .string x.2.2.1, .int .i64 x.2.2.2])) (by simp) 3, SA.out.cell (b := (w.heap.size, 24, #[.int .i64 cap, .slice a l.length c])) (by simp) 0, SA.out.cell (b := (w.heap.size, 24, #[.int .i64 cap, .slice a l.length c])) (by simp) 1⟩
      clear hK K
      try simp only [Act.put, List.getElem_toArray, List.getElem_cons_succ, List.getElem_cons_zero, List.setIfInBounds_toArray, List.set_cons_zero, List.set_cons_succ]
      generalize w3.alloc (.cells #[.int .i64 0, .slice none 0 0] 29) = w4 at SA hHeld ⊢
      obtain ⟨G, hG⟩ : ∃ G, w3.heap.size = G := ⟨_, rfl⟩
      rw [hG] at SA ⊢
      clear hG S3
      have S4 := SA
      clear SA
      refine wpAnyH_ready (rs := [1]) (by kernel_rfl) (by simp) (AllReadyH.cons rfl (fun K hK => ?_) AllReadyH.nil)
      rw [if_pos (by rfl)]
      go_simp; go_at_call 8; refine (CT.out _ (HV.out.below S4.out.bw)).mono ?_; rintro e w5 ⟨ur, rfl, kr, b5⟩; have KR := Lib.hid (own_msgs_at kr); obtain ⟨ar, cr, hur⟩ := own_slice kr; subst hur; clear kr; have S5 := Lib.hid (S4.out.below b5); go_wp2_with fail
      refine hK.out _ _ ?_ (fun hHeld => ?_)
      · exact ⟨S5.out.cell (b := (w.heap.size + 1, 34, #[.int .i64 x.1, .int .i64 x.2.1, .string x.2.2.1, .int .i64 x.2.2.2])) (by simp) 0, S5.out.cell (b := (w.heap.size + 1, 34, #[.int .i64 x.1, .int .i64 x.2.1, .string x.2.2.1, .int .i64 x.2.2.2])) (by simp) 1, S5.out.cell (b := (w.heap.size + 1, 34, #[.int .i64 x.1, .int .i64 x.2.1, .string x.2.2.1, .int .i64 x.2.2.2])) (by simp) 2, S5.out.cell (b := (w.heap.size + 1, 34, #[.int .i64 x.1, .int .i64 x.2.1, .string x.2.2.1, .int .i64 x.2.2.2])) (by simp) 3, S5.out.cell (b := (w.heap.size, 24, #[.int .i64 cap, .slice a l.length c])) (by simp) 0, S5.out.cell (b := (w.heap.size, 24, #[.int .i64 cap, .slice a l.length c])) (by simp) 1⟩
      clear hK K
      try simp only [Act.put, List.getElem_toArray, List.getElem_cons_succ, List.getElem_cons_zero, List.setIfInBounds_toArray, List.set_cons_zero, List.set_cons_succ]
      clear b5 S4
      refine wpAnyH_ready (rs := [3]) (by kernel_rfl) (by simp) (AllReadyH.cons rfl (fun K hK => ?_) AllReadyH.nil)
      rw [if_pos (by rfl)]
      go_simp; go_at_call 13; refine (CU.out _).mono ?_; rintro e w6 ⟨rfl, b6⟩; replace KR := Lib.hid (KR.out.below b6); have S6 := Lib.hid (S5.out.below b6); go_wp2_with fail
      refine hK.out _ _ ?_ (fun hHeld => ?_)
      · exact ⟨S6.out.cell (b := (w.heap.size + 1, 34, #[.int .i64 x.1, .int .i64 x.2.1, .string x.2.2.1, .int .i64 x.2.2.2])) (by simp) 0, S6.out.cell (b := (w.heap.size + 1, 34, #[.int .i64 x.1, .int .i64 x.2.1, .string x.2.2.1, .int .i64 x.2.2.2])) (by simp) 1, S6.out.cell (b := (w.heap.size + 1, 34, #[.int .i64 x.1, .int .i64 x.2.1, .string x.2.2.1, .int .i64 x.2.2.2])) (by simp) 2, S6.out.cell (b := (w.heap.size + 1, 34, #[.int .i64 x.1, .int .i64 x.2.1, .string x.2.2.1, .int .i64 x.2.2.2])) (by simp) 3, S6.out.cell (b := (w.heap.size, 24, #[.int .i64 cap, .slice a l.length c])) (by simp) 0, S6.out.cell (b := (w.heap.size, 24, #[.int .i64 cap, .slice a l.length c])) (by simp) 1⟩
      clear hK K
      try simp only [Act.put, List.getElem_toArray, List.getElem_cons_succ, List.getElem_cons_zero, List.setIfInBounds_toArray, List.set_cons_zero, List.set_cons_succ]
      clear b6 S5
      refine wpAnyH_ready (rs := [4]) (by kernel_rfl) (by simp) (AllReadyH.cons rfl (fun K hK => ?_) AllReadyH.nil)
      rw [if_pos (by rfl)]
      go_simp; go_at_call 12; refine (CS.out _ _ KR.out).mono ?_; rintro e w7 ⟨uz, rfl, kz, b7⟩; obtain ⟨az, cz, huz⟩ := own_slice kz; subst huz; have S7 := Lib.hid (S6.out.pushRow b7 kz (by simp)); go_wp2_with fail
      refine hK.out _ _ ?_ (fun hHeld => ?_)
      · exact ⟨S7.out.cell (b := (w.heap.size + 1, 34, #[.int .i64 x.1, .int .i64 x.2.1, .string x.2.2.1, .int .i64 x.2.2.2])) (by simp) 0, S7.out.cell (b := (w.heap.size + 1, 34, #[.int .i64 x.1, .int .i64 x.2.1, .string x.2.2.1, .int .i64 x.2.2.2])) (by simp) 1, S7.out.cell (b := (w.heap.size + 1, 34, #[.int .i64 x.1, .int .i64 x.2.1, .string x.2.2.1, .int .i64 x.2.2.2])) (by simp) 2, S7.out.cell (b := (w.heap.size + 1, 34, #[.int .i64 x.1, .int .i64 x.2.1, .string x.2.2.1, .int .i64 x.2.2.2])) (by simp) 3, S7.out.cell (b := (w.heap.size, 24, #[.int .i64 cap, .slice a l.length c])) (by simp) 0, S7.out.cell (b := (w.heap.size, 24, #[.int .i64 cap, .slice a l.length c])) (by simp) 1⟩
      clear hK K
      try simp only [Act.put, List.getElem_toArray, List.getElem_cons_succ, List.getElem_cons_zero, List.setIfInBounds_toArray, List.set_cons_zero, List.set_cons_succ]
      clear b7 S6
      refine wpAnyH_take (i := 5) (v := ?_) rfl (by kernel_rfl) (by kernel_rfl) (by kernel_rfl) (fun _ _ _ h => h) (Or.inl ⟨by rfl, ?_⟩) (by assumption) ?_
      rotate_left
      · intro w hSw; (try dsimp only at hSw); go_simp; try with_reducible rfl
      try simp only [Act.put, List.getElem_toArray, List.getElem_cons_succ, List.getElem_cons_zero, List.setIfInBounds_toArray, List.set_cons_zero, List.set_cons_succ]
      refine wpAnyH_take (i := 6) (v := ?_) rfl (by kernel_rfl) (by kernel_rfl) (by kernel_rfl) (fun _ _ _ h => h) (Or.inl ⟨by rfl, ?_⟩) (by assumption) ?_
      rotate_left
      · intro w hSw; (try dsimp only at hSw); go_simp; try with_reducible rfl
      try simp only [Act.put, List.getElem_toArray, List.getElem_cons_succ, List.getElem_cons_zero, List.setIfInBounds_toArray, List.set_cons_zero, List.set_cons_succ]
      refine wpAnyH_take (i := 7) (v := ?_) rfl (by kernel_rfl) (by kernel_rfl) (by kernel_rfl) (fun _ _ _ h => h) (Or.inl ⟨by rfl, ?_⟩) (by assumption) ?_
      rotate_left
      · intro w hSw; (try dsimp only at hSw); go_simp; try with_reducible rfl
      try simp only [Act.put, List.getElem_toArray, List.getElem_cons_succ, List.getElem_cons_zero, List.setIfInBounds_toArray, List.set_cons_zero, List.set_cons_succ]
      have z0 : w7.cell? ⟨G, 0, none⟩ = some (.int .i64 0) := S7.out.cell (b := (G, 29, #[.int .i64 0, .slice none 0 0])) (by simp) 0
      have z1 : w7.cell? ⟨G, 1, none⟩ = some (.slice none 0 0) := S7.out.cell (b := (G, 29, #[.int .i64 0, .slice none 0 0])) (by simp) 1
      have y0 : w7.frozen? ⟨G, 0, none⟩ = false := S7.out.frozen (b := (G, 29, #[.int .i64 0, .slice none 0 0])) (by simp) 0
      have y1 : w7.frozen? ⟨G, 1, none⟩ = false := S7.out.frozen (b := (G, 29, #[.int .i64 0, .slice none 0 0])) (by simp) 1
      have SE := (S7.out.store 0 (.int .i64 rc)).store 1 (.slice az L.length cz)
      simp only [List.setIfInBounds_toArray, List.set_cons_zero, List.set_cons_succ] at SE
      refine wpAnyH_ready (rs := [9]) (by kernel_rfl) (by simp) (AllReadyH.cons rfl (fun K hK => ?_) AllReadyH.nil)
      rw [if_pos (by rfl)]
      go_simp
      refine hK.out _ _ ?_ (fun hHeld => ?_)
      · exact ⟨SE.cell (b := (w.heap.size + 1, 34, #[.int .i64 x.1, .int .i64 x.2.1, .string x.2.2.1, .int .i64 x.2.2.2])) (by simp) 0, SE.cell (b := (w.heap.size + 1, 34, #[.int .i64 x.1, .int .i64 x.2.1, .string x.2.2.1, .int .i64 x.2.2.2])) (by simp) 1, SE.cell (b := (w.heap.size + 1, 34, #[.int .i64 x.1, .int .i64 x.2.1, .string x.2.2.1, .int .i64 x.2.2.2])) (by simp) 2, SE.cell (b := (w.heap.size + 1, 34, #[.int .i64 x.1, .int .i64 x.2.1, .string x.2.2.1, .int .i64 x.2.2.2])) (by simp) 3, SE.cell (b := (w.heap.size, 24, #[.int .i64 cap, .slice a l.length c])) (by simp) 0, SE.cell (b := (w.heap.size, 24, #[.int .i64 cap, .slice a l.length c])) (by simp) 1⟩
      clear hK K
      try simp only [Act.put, List.getElem_toArray, List.getElem_cons_succ, List.getElem_cons_zero, List.setIfInBounds_toArray, List.set_cons_zero, List.set_cons_succ]
      generalize (w7.setCell ⟨G, 0, none⟩ (.int .i64 rc)).setCell ⟨G, 1, none⟩ (.slice az L.length cz) = WW at SE hHeld ⊢
      refine wpAnyH_take (i := 10) (v := ?_) rfl (by kernel_rfl) (by kernel_rfl) (by kernel_rfl) (fun _ _ _ h => h) (Or.inl ⟨by rfl, ?_⟩) (by assumption) ?_
      rotate_left
      · intro w hSw; (try dsimp only at hSw); go_simp; try with_reducible rfl
      try simp only [Act.put, List.getElem_toArray, List.getElem_cons_succ, List.getElem_cons_zero, List.setIfInBounds_toArray, List.set_cons_zero, List.set_cons_succ]
      refine wpAnyH_done (by kernel_rfl) ?_ _
      clear hHeld z0 z1 y0 y1 S7
      obtain ⟨bz, hbz⟩ : ∃ b, w6.heap.size = b := ⟨_, rfl⟩
      rw [hbz] at SE
      clear hbz kz KR
      exact tail _ _ _ _ _ _ _ SE
  intro arA crA azA czA GA w3 bzA SEA
  have S3 := Lib.hid SEA
  clear SEA S2
  have d0_0 : w3.cell? ⟨GA, 0, none⟩ = some (.int .i64 rc) := S3.out.cell (b := (GA, 29, #[.int .i64 rc, .slice azA L.length czA])) (by simp) 0
  have d0_1 : w3.cell? ⟨GA, 1, none⟩ = some (.slice azA L.length czA) := S3.out.cell (b := (GA, 29, #[.int .i64 rc, .slice azA L.length czA])) (by simp) 1
  have d1_0 : w3.cell? ⟨w.heap.size + 1, 0, none⟩ = some (.int .i64 x.1) := S3.out.cell (b := (w.heap.size + 1, 34, #[.int .i64 x.1, .int .i64 x.2.1, .string x.2.2.1, .int .i64 x.2.2.2])) (by simp) 0
  have d1_1 : w3.cell? ⟨w.heap.size + 1, 1, none⟩ = some (.int .i64 x.2.1) := S3.out.cell (b := (w.heap.size + 1, 34, #[.int .i64 x.1, .int .i64 x.2.1, .string x.2.2.1, .int .i64 x.2.2.2])) (by simp) 1
  have d1_2 : w3.cell? ⟨w.heap.size + 1, 2, none⟩ = some (.string x.2.2.1) := S3.out.cell (b := (w.heap.size + 1, 34, #[.int .i64 x.1, .int .i64 x.2.1, .string x.2.2.1, .int .i64 x.2.2.2])) (by simp) 2
  have d1_3 : w3.cell? ⟨w.heap.size + 1, 3, none⟩ = some (.int .i64 x.2.2.2) := S3.out.cell (b := (w.heap.size + 1, 34, #[.int .i64 x.1, .int .i64 x.2.1, .string x.2.2.1, .int .i64 x.2.2.2])) (by simp) 3
  have d2_0 : w3.cell? ⟨w.heap.size, 0, none⟩ = some (.int .i64 cap) := S3.out.cell (b := (w.heap.size, 24, #[.int .i64 cap, .slice a l.length c])) (by simp) 0
  have d2_1 : w3.cell? ⟨w.heap.size, 1, none⟩ = some (.slice a l.length c) := S3.out.cell (b := (w.heap.size, 24, #[.int .i64 cap, .slice a l.length c])) (by simp) 1
  go_wp2_with fail
  refine (CT.out _ (HV.out.below S3.out.bw)).mono ?_
  clear d0_0 d0_1 d1_0 d1_1 d1_2 d1_3 d2_0 d2_1
  rintro e w4 ⟨u4, rfl, k4, b4⟩
  obtain ⟨a4, c4, hu4⟩ := own_slice k4; subst hu4
  have S4 := Lib.hid (S3.out.pushRow b4 k4 (by simp))
  clear b4 S3
  have d0_0 : w4.cell? ⟨GA, 0, none⟩ = some (.int .i64 rc) := S4.out.cell (b := (GA, 29, #[.int .i64 rc, .slice azA L.length czA])) (by simp) 0
  have d0_1 : w4.cell? ⟨GA, 1, none⟩ = some (.slice azA L.length czA) := S4.out.cell (b := (GA, 29, #[.int .i64 rc, .slice azA L.length czA])) (by simp) 1
  have d1_0 : w4.cell? ⟨w.heap.size + 1, 0, none⟩ = some (.int .i64 x.1) := S4.out.cell (b := (w.heap.size + 1, 34, #[.int .i64 x.1, .int .i64 x.2.1, .string x.2.2.1, .int .i64 x.2.2.2])) (by simp) 0
  have d1_1 : w4.cell? ⟨w.heap.size + 1, 1, none⟩ = some (.int .i64 x.2.1) := S4.out.cell (b := (w.heap.size + 1, 34, #[.int .i64 x.1, .int .i64 x.2.1, .string x.2.2.1, .int .i64 x.2.2.2])) (by simp) 1
  have d1_2 : w4.cell? ⟨w.heap.size + 1, 2, none⟩ = some (.string x.2.2.1) := S4.out.cell (b := (w.heap.size + 1, 34, #[.int .i64 x.1, .int .i64 x.2.1, .string x.2.2.1, .int .i64 x.2.2.2])) (by simp) 2
  have d1_3 : w4.cell? ⟨w.heap.size + 1, 3, none⟩ = some (.int .i64 x.2.2.2) := S4.out.cell (b := (w.heap.size + 1, 34, #[.int .i64 x.1, .int .i64 x.2.1, .string x.2.2.1, .int .i64 x.2.2.2])) (by simp) 3
  have d2_0 : w4.cell? ⟨w.heap.size, 0, none⟩ = some (.int .i64 cap) := S4.out.cell (b := (w.heap.size, 24, #[.int .i64 cap, .slice a l.length c])) (by simp) 0
  have d2_1 : w4.cell? ⟨w.heap.size, 1, none⟩ = some (.slice a l.length c) := S4.out.cell (b := (w.heap.size, 24, #[.int .i64 cap, .slice a l.length c])) (by simp) 1
  go_wp2_with fail
  clear d0_0 d0_1 d1_0 d1_1 d1_2 d1_3 d2_0 d2_1
  have S5 := Lib.hid (S4.out.pushBox 29 #[.int .i64 cap, .slice a4 l.length c4] (by simp))
  generalize hw5 : w4.alloc (.cells #[.int .i64 cap, .slice a4 l.length c4] 29) = w5 at S5 ⊢
  obtain ⟨G5, hG5⟩ : ∃ G, w4.heap.size = G := ⟨_, rfl⟩
  rw [hG5] at S5 ⊢
  clear hG5 hw5 S4
  have d0_0 : w5.cell? ⟨G5, 0, none⟩ = some (.int .i64 cap) := S5.out.cell (b := (G5, 29, #[.int .i64 cap, .slice a4 l.length c4])) (by simp) 0
  have d0_1 : w5.cell? ⟨G5, 1, none⟩ = some (.slice a4 l.length c4) := S5.out.cell (b := (G5, 29, #[.int .i64 cap, .slice a4 l.length c4])) (by simp) 1
  have d1_0 : w5.cell? ⟨GA, 0, none⟩ = some (.int .i64 rc) := S5.out.cell (b := (GA, 29, #[.int .i64 rc, .slice azA L.length czA])) (by simp) 0
  have d1_1 : w5.cell? ⟨GA, 1, none⟩ = some (.slice azA L.length czA) := S5.out.cell (b := (GA, 29, #[.int .i64 rc, .slice azA L.length czA])) (by simp) 1
  have d2_0 : w5.cell? ⟨w.heap.size + 1, 0, none⟩ = some (.int .i64 x.1) := S5.out.cell (b := (w.heap.size + 1, 34, #[.int .i64 x.1, .int .i64 x.2.1, .string x.2.2.1, .int .i64 x.2.2.2])) (by simp) 0
  have d2_1 : w5.cell? ⟨w.heap.size + 1, 1, none⟩ = some (.int .i64 x.2.1) := S5.out.cell (b := (w.heap.size + 1, 34, #[.int .i64 x.1, .int .i64 x.2.1, .string x.2.2.1, .int .i64 x.2.2.2])) (by simp) 1
  have d2_2 : w5.cell? ⟨w.heap.size + 1, 2, none⟩ = some (.string x.2.2.1) := S5.out.cell (b := (w.heap.size + 1, 34, #[.int .i64 x.1, .int .i64 x.2.1, .string x.2.2.1, .int .i64 x.2.2.2])) (by simp) 2
  have d2_3 : w5.cell? ⟨w.heap.size + 1, 3, none⟩ = some (.int .i64 x.2.2.2) := S5.out.cell (b := (w.heap.size + 1, 34, #[.int .i64 x.1, .int .i64 x.2.1, .string x.2.2.1, .int .i64 x.2.2.2])) (by simp) 3
  have d3_0 : w5.cell? ⟨w.heap.size, 0, none⟩ = some (.int .i64 cap) := S5.out.cell (b := (w.heap.size, 24, #[.int .i64 cap, .slice a l.length c])) (by simp) 0
  have d3_1 : w5.cell? ⟨w.heap.size, 1, none⟩ = some (.slice a l.length c) := S5.out.cell (b := (w.heap.size, 24, #[.int .i64 cap, .slice a l.length c])) (by simp) 1
  go_wp2_with fail
  clear d0_0 d0_1 d1_0 d1_1 d2_0 d2_1 d2_2 d2_3 d3_0 d3_1
  refine (fun (tail : ?TB) => ?mainB) ?pfB
  case mainB =>
    have SD := S5.out.below (show Below w5.heap.size w5 w5.drew from (Below.refl _ _).drew)
    refine wp_region_held_drew (S := fun wx => wx.cell? ⟨G5, 0, none⟩ = some (.int .i64 cap) ∧ wx.cell? ⟨G5, 1, none⟩ = some (.slice a4 l.length c4) ∧ wx.cell? ⟨GA, 0, none⟩ = some (.int .i64 rc) ∧ wx.cell? ⟨GA, 1, none⟩ = some (.slice azA L.length czA) ∧ wx.cell? ⟨w.heap.size + 1, 0, none⟩ = some (.int .i64 x.1) ∧ wx.cell? ⟨w.heap.size + 1, 1, none⟩ = some (.int .i64 x.2.1) ∧ wx.cell? ⟨w.heap.size + 1, 2, none⟩ = some (.string x.2.2.1) ∧ wx.cell? ⟨w.heap.size + 1, 3, none⟩ = some (.int .i64 x.2.2.2) ∧ wx.cell? ⟨w.heap.size, 0, none⟩ = some (.int .i64 cap) ∧ wx.cell? ⟨w.heap.size, 1, none⟩ = some (.slice a l.length c)) (by kernel_rfl) ?_ (fun hHeld => ?_)
    · exact ⟨SD.cell (b := (G5, 29, #[.int .i64 cap, .slice a4 l.length c4])) (by simp) 0, SD.cell (b := (G5, 29, #[.int .i64 cap, .slice a4 l.length c4])) (by simp) 1, SD.cell (b := (GA, 29, #[.int .i64 rc, .slice azA L.length czA])) (by simp) 0, SD.cell (b := (GA, 29, #[.int .i64 rc, .slice azA L.length czA])) (by simp) 1, SD.cell (b := (w.heap.size + 1, 34, #[.int .i64 x.1, .int .i64 x.2.1, .string x.2.2.1, .int .i64 x.2.2.2])) (by simp) 0, SD.cell (b := (w.heap.size + 1, 34, #[.int .i64 x.1, .int .i64 x.2.1, .string x.2.2.1, .int .i64 x.2.2.2])) (by simp) 1, SD.cell (b := (w.heap.size + 1, 34, #[.int .i64 x.1, .int .i64 x.2.1, .string x.2.2.1, .int .i64 x.2.2.2])) (by simp) 2, SD.cell (b := (w.heap.size + 1, 34, #[.int .i64 x.1, .int .i64 x.2.1, .string x.2.2.1, .int .i64 x.2.2.2])) (by simp) 3, SD.cell (b := (w.heap.size, 24, #[.int .i64 cap, .slice a l.length c])) (by simp) 0, SD.cell (b := (w.heap.size, 24, #[.int .i64 cap, .slice a l.length c])) (by simp) 1⟩
    change wpAnyH _ _ _ _ _ 10 #[false, false, false, false, false, false, false, false, false, false] _ _
    have S6 := Lib.hid SD
    clear SD
    generalize w5.drew = w6 at S6 hHeld ⊢
    refine wpAnyH_take (i := 0) (v := ?_) rfl (by kernel_rfl) (by kernel_rfl) (by kernel_rfl) (fun _ _ _ h => h) (Or.inl ⟨by rfl, ?_⟩) (by assumption) ?_
    rotate_left
    · intro w hSw; (try dsimp only at hSw); go_simp; try with_reducible rfl
    try simp only [Act.put, List.getElem_toArray, List.getElem_cons_succ, List.getElem_cons_zero, List.setIfInBounds_toArray, List.set_cons_zero, List.set_cons_succ]
    refine wpAnyH_take (i := 1) (v := ?_) rfl (by kernel_rfl) (by kernel_rfl) (by kernel_rfl) (fun _ _ _ h => h) (Or.inl ⟨by rfl, ?_⟩) (by assumption) ?_
    rotate_left
    · intro w hSw; (try dsimp only at hSw); go_simp; try with_reducible rfl
    try simp only [Act.put, List.getElem_toArray, List.getElem_cons_succ, List.getElem_cons_zero, List.setIfInBounds_toArray, List.set_cons_zero, List.set_cons_succ]
    refine wpAnyH_ready (rs := [2, 7]) (by kernel_rfl) (by simp) (AllReadyH.cons rfl (fun K hK => ?_) (AllReadyH.cons rfl (fun K hK => ?_) AllReadyH.nil))
    · skip
      rw [if_pos (by rfl)]
      go_simp; go_at_call 13; refine (CU.out _).mono ?_; rintro e w7 ⟨rfl, b7⟩; have S7 := Lib.hid (S6.out.below b7); go_wp2_with fail
      refine hK.out _ _ ?_ (fun hHeld => ?_)
      · exact ⟨S7.out.cell (b := (G5, 29, #[.int .i64 cap, .slice a4 l.length c4])) (by simp) 0, S7.out.cell (b := (G5, 29, #[.int .i64 cap, .slice a4 l.length c4])) (by simp) 1, S7.out.cell (b := (GA, 29, #[.int .i64 rc, .slice azA L.length czA])) (by simp) 0, S7.out.cell (b := (GA, 29, #[.int .i64 rc, .slice azA L.length czA])) (by simp) 1, S7.out.cell (b := (w.heap.size + 1, 34, #[.int .i64 x.1, .int .i64 x.2.1, .string x.2.2.1, .int .i64 x.2.2.2])) (by simp) 0, S7.out.cell (b := (w.heap.size + 1, 34, #[.int .i64 x.1, .int .i64 x.2.1, .string x.2.2.1, .int .i64 x.2.2.2])) (by simp) 1, S7.out.cell (b := (w.heap.size + 1, 34, #[.int .i64 x.1, .int .i64 x.2.1, .string x.2.2.1, .int .i64 x.2.2.2])) (by simp) 2, S7.out.cell (b := (w.heap.size + 1, 34, #[.int .i64 x.1, .int .i64 x.2.1, .string x.2.2.1, .int .i64 x.2.2.2])) (by simp) 3, S7.out.cell (b := (w.heap.size, 24, #[.int .i64 cap, .slice a l.length c])) (by simp) 0, S7.out.cell (b := (w.heap.size, 24, #[.int .i64 cap, .slice a l.length c])) (by simp) 1⟩
      clear hK K
      try simp only [Act.put, List.getElem_toArray, List.getElem_cons_succ, List.getElem_cons_zero, List.setIfInBounds_toArray, List.set_cons_zero, List.set_cons_succ]
      clear b7 S6
      refine wpAnyH_ready (rs := [3, 7]) (by kernel_rfl) (by simp) (AllReadyH.cons rfl (fun K hK => ?_) (AllReadyH.cons rfl (fun K hK => ?_) AllReadyH.nil))
      · skip
        rw [if_pos (by rfl)]
        go_simp; go_at_call 14; refine (CI.out _ _ (own_msgs_at (show MOwn w7 w3.heap.size (.slice a4 l.length c4) l from (S7.out.row ⟨w3.heap.size, 38, 4, (.slice a4 l.length c4), l.length, mcells l⟩ (by simp)).1)) ((S7.out.bw.cell hlt).trans HM.out)).mono ?_; rintro e w8 ⟨Vz, uz, prez, postz, rfl, kz, ptz, b8⟩; obtain ⟨Xz, Yz, hXz, pz⟩ := part_kitRK (rc := rc) (post := postz) ptz HL8.out HKY.out; obtain ⟨az, cz, huz⟩ := ptz.slice; subst huz; rw [hXz] at kz; have PZ := Lib.hid pz; clear hXz ptz prez postz pz; have S8 := Lib.hid (S7.out.pushRow b8 kz (by simp)); go_wp2_with fail
        refine hK.out _ _ ?_ (fun hHeld => ?_)
        · exact ⟨S8.out.cell (b := (G5, 29, #[.int .i64 cap, .slice a4 l.length c4])) (by simp) 0, S8.out.cell (b := (G5, 29, #[.int .i64 cap, .slice a4 l.length c4])) (by simp) 1, S8.out.cell (b := (GA, 29, #[.int .i64 rc, .slice azA L.length czA])) (by simp) 0, S8.out.cell (b := (GA, 29, #[.int .i64 rc, .slice azA L.length czA])) (by simp) 1, S8.out.cell (b := (w.heap.size + 1, 34, #[.int .i64 x.1, .int .i64 x.2.1, .string x.2.2.1, .int .i64 x.2.2.2])) (by simp) 0, S8.out.cell (b := (w.heap.size + 1, 34, #[.int .i64 x.1, .int .i64 x.2.1, .string x.2.2.1, .int .i64 x.2.2.2])) (by simp) 1, S8.out.cell (b := (w.heap.size + 1, 34, #[.int .i64 x.1, .int .i64 x.2.1, .string x.2.2.1, .int .i64 x.2.2.2])) (by simp) 2, S8.out.cell (b := (w.heap.size + 1, 34, #[.int .i64 x.1, .int .i64 x.2.1, .string x.2.2.1, .int .i64 x.2.2.2])) (by simp) 3, S8.out.cell (b := (w.heap.size, 24, #[.int .i64 cap, .slice a l.length c])) (by simp) 0, S8.out.cell (b := (w.heap.size, 24, #[.int .i64 cap, .slice a l.length c])) (by simp) 1⟩
        clear hK K
        try simp only [Act.put, List.getElem_toArray, List.getElem_cons_succ, List.getElem_cons_zero, List.setIfInBounds_toArray, List.set_cons_zero, List.set_cons_succ]
        clear b8 S7
        refine wpAnyH_take (i := 4) (v := ?_) rfl (by kernel_rfl) (by kernel_rfl) (by kernel_rfl) (fun _ _ _ h => h) (Or.inl ⟨by rfl, ?_⟩) (by assumption) ?_
        rotate_left
        · intro w hSw; (try dsimp only at hSw); go_simp; try with_reducible rfl
        try simp only [Act.put, List.getElem_toArray, List.getElem_cons_succ, List.getElem_cons_zero, List.setIfInBounds_toArray, List.set_cons_zero, List.set_cons_succ]
        refine wpAnyH_take (i := 5) (v := ?_) rfl (by kernel_rfl) (by kernel_rfl) (by kernel_rfl) (fun _ _ _ h => h) (Or.inl ⟨by rfl, ?_⟩) (by assumption) ?_
        rotate_left
        · intro w hSw; (try dsimp only at hSw); go_simp; try with_reducible rfl
        try simp only [Act.put, List.getElem_toArray, List.getElem_cons_succ, List.getElem_cons_zero, List.setIfInBounds_toArray, List.set_cons_zero, List.set_cons_succ]
        refine wpAnyH_take (i := 6) (v := ?_) rfl (by kernel_rfl) (by kernel_rfl) (by kernel_rfl) (fun _ _ _ h => h) (Or.inl ⟨by rfl, ?_⟩) (by assumption) ?_
        rotate_left
        · intro w hSw; (try dsimp only at hSw); go_simp; try with_reducible rfl
        try simp only [Act.put, List.getElem_toArray, List.getElem_cons_succ, List.getElem_cons_zero, List.setIfInBounds_toArray, List.set_cons_zero, List.set_cons_succ]
        have SA := Lib.hid (S8.out.pushBox 29 #[.int .i64 0, .slice none 0 0] (by simp))
        refine wpAnyH_ready (rs := [7]) (by kernel_rfl) (by simp) (AllReadyH.cons rfl (fun K hK => ?_) AllReadyH.nil)
        rw [if_pos (by rfl)]
        go_simp
        refine hK.out _ _ ?_ (fun hHeld => ?_)
        · exact ⟨SA.out.cell (b := (G5, 29, #[.int .i64 cap, .slice a4 l.length c4])) (by simp) 0, SA.out.cell (b := (G5, 29, #[.int .i64 cap, .slice a4 l.length c4])) (by simp) 1, SA.out.cell (b := (GA, 29, #[.int .i64 rc, .slice azA L.length czA])) (by simp) 0, SA.out.cell (b := (GA, 29, #[.int .i64 rc, .slice azA L.length czA])) (by simp) 1, SA.out.cell (b := (w.heap.size + 1, 34, #[.int .i64 x.1, .int .i64 x.2.1, .string x.2.2.1, .int .i64 x.2.2.2])) (by simp) 0, SA.out.cell (b := (w.heap.size + 1, 34, #[.int .i64 x.1, .int .i64 x.2.1, .string x.2.2.1, .int .i64 x.2.2.2])) (by simp) 1, SA.out.cell (b := (w.heap.size + 1, 34, #[.int .i64 x.1, .int .i64 x.2.1, .string x.2.2.1, .int .i64 x.2.2.2])) (by simp) 2, SA.out.cell (b := (w.heap.size + 1, 34, #[.int .i64 x.1, .int .i64 x.2.1, .string x.2.2.1, .int .i64 x.2.2.2])) (by simp) 3, SA.out.cell (b := (w.heap.size, 24, #[.int .i64 cap, .slice a l.length c])) (by simp) 0, SA.out.cell (b := (w.heap.size, 24, #[.int .i64 cap, .slice a l.length c])) (by simp) 1⟩
        clear hK K
        try simp only [Act.put, List.getElem_toArray, List.getElem_cons_succ, List.getElem_cons_zero, List.setIfInBounds_toArray, List.set_cons_zero, List.set_cons_succ]
        generalize w8.alloc (.cells #[.int .i64 0, .slice none 0 0] 29) = w9 at SA hHeld ⊢
        obtain ⟨G, hG⟩ : ∃ G, w8.heap.size = G := ⟨_, rfl⟩
        rw [hG] at SA ⊢
        clear hG S8
        have S9 := SA
        clear SA
        have z0 : w9.cell? ⟨G, 0, none⟩ = some (.int .i64 0) := S9.out.cell (b := (G, 29, #[.int .i64 0, .slice none 0 0])) (by simp) 0
        have z1 : w9.cell? ⟨G, 1, none⟩ = some (.slice none 0 0) := S9.out.cell (b := (G, 29, #[.int .i64 0, .slice none 0 0])) (by simp) 1
        have y0 : w9.frozen? ⟨G, 0, none⟩ = false := S9.out.frozen (b := (G, 29, #[.int .i64 0, .slice none 0 0])) (by simp) 0
        have y1 : w9.frozen? ⟨G, 1, none⟩ = false := S9.out.frozen (b := (G, 29, #[.int .i64 0, .slice none 0 0])) (by simp) 1
        have SE := (S9.out.store 0 (.int .i64 rc)).store 1 (.slice az L.length cz)
        simp only [List.setIfInBounds_toArray, List.set_cons_zero, List.set_cons_succ] at SE
        refine wpAnyH_ready (rs := [8]) (by kernel_rfl) (by simp) (AllReadyH.cons rfl (fun K hK => ?_) AllReadyH.nil)
        rw [if_pos (by rfl)]
        go_simp
        refine hK.out _ _ ?_ (fun hHeld => ?_)
        · exact ⟨SE.cell (b := (G5, 29, #[.int .i64 cap, .slice a4 l.length c4])) (by simp) 0, SE.cell (b := (G5, 29, #[.int .i64 cap, .slice a4 l.length c4])) (by simp) 1, SE.cell (b := (GA, 29, #[.int .i64 rc, .slice azA L.length czA])) (by simp) 0, SE.cell (b := (GA, 29, #[.int .i64 rc, .slice azA L.length czA])) (by simp) 1, SE.cell (b := (w.heap.size + 1, 34, #[.int .i64 x.1, .int .i64 x.2.1, .string x.2.2.1, .int .i64 x.2.2.2])) (by simp) 0, SE.cell (b := (w.heap.size + 1, 34, #[.int .i64 x.1, .int .i64 x.2.1, .string x.2.2.1, .int .i64 x.2.2.2])) (by simp) 1, SE.cell (b := (w.heap.size + 1, 34, #[.int .i64 x.1, .int .i64 x.2.1, .string x.2.2.1, .int .i64 x.2.2.2])) (by simp) 2, SE.cell (b := (w.heap.size + 1, 34, #[.int .i64 x.1, .int .i64 x.2.1, .string x.2.2.1, .int .i64 x.2.2.2])) (by simp) 3, SE.cell (b := (w.heap.size, 24, #[.int .i64 cap, .slice a l.length c])) (by simp) 0, SE.cell (b := (w.heap.size, 24, #[.int .i64 cap, .slice a l.length c])) (by simp) 1⟩
        clear hK K
        try simp only [Act.put, List.getElem_toArray, List.getElem_cons_succ, List.getElem_cons_zero, List.setIfInBounds_toArray, List.set_cons_zero, List.set_cons_succ]
        generalize (w9.setCell ⟨G, 0, none⟩ (.int .i64 rc)).setCell ⟨G, 1, none⟩ (.slice az L.length cz) = WW at SE hHeld ⊢
        refine wpAnyH_take (i := 9) (v := ?_) rfl (by kernel_rfl) (by kernel_rfl) (by kernel_rfl) (fun _ _ _ h => h) (Or.inl ⟨by rfl, ?_⟩) (by assumption) ?_
        rotate_left
        · intro w hSw; (try dsimp only at hSw); go_simp; try with_reducible rfl
        try simp only [Act.put, List.getElem_toArray, List.getElem_cons_succ, List.getElem_cons_zero, List.setIfInBounds_toArray, List.set_cons_zero, List.set_cons_succ]
        refine wpAnyH_done (by kernel_rfl) ?_ _
        clear hHeld z0 z1 y0 y1 S9
        obtain ⟨bz, hbz⟩ : ∃ b, w7.heap.size = b := ⟨_, rfl⟩
        rw [hbz] at SE
        clear hbz kz
        revert SE
        revert PZ
        revert Vz Xz Yz az cz G WW bz
        exact tail
      · skip
        have SA := Lib.hid (S7.out.pushBox 29 #[.int .i64 0, .slice none 0 0] (by simp))
        rw [if_pos (by rfl)]
        go_simp
        refine hK.out _ _ ?_ (fun hHeld => ?_)
        · exact ⟨SA.out.cell (b := (G5, 29, #[.int .i64 cap, .slice a4 l.length c4])) (by simp) 0, SA.out.cell (b := (G5, 29, #[.int .i64 cap, .slice a4 l.length c4])) (by simp) 1, SA.out.cell (b := (GA, 29, #[.int .i64 rc, .slice azA L.length czA])) (by simp) 0, SA.out.cell (b := (GA, 29, #[.int .i64 rc, .slice azA L.length czA])) (by simp) 1, SA.out.cell (b := (w.heap.size + 1, 34, #[.int .i64 x.1, .int .i64 x.2.1, .string x.2.2.1, .int .i64 x.2.2.2])) (by simp) 0, SA.out.cell (b := (w.heap.size + 1, 34, #[.int .i64 x.1, .int .i64 x.2.1, .string x.2.2.1, .int .i64 x.2.2.2])) (by simp) 1, SA.out.cell (b := (w.heap.size + 1, 34, #[.int .i64 x.1, .int .i64 x.2.1, .string x.2.2.1, .int .i64 x.2.2.2])) (by simp) 2, SA.out.cell (b := (w.heap.size + 1, 34, #[.int .i64 x.1, .int .i64 x.2.1, .string x.2.2.1, .int .i64 x.2.2.2])) (by simp) 3, SA.out.cell (b := (w.heap.size, 24, #[.int .i64 cap, .slice a l.length c])) (by simp) 0, SA.out.cell (b := (w.heap.size, 24, #[.int .i64 cap, .slice a l.length c])) (by simp) 1⟩
        clear hK K
        try simp only [Act.put, List.getElem_toArray, List.getElem_cons_succ, List.getElem_cons_zero, List.setIfInBounds_toArray, List.set_cons_zero, List.set_cons_succ]
        generalize w7.alloc (.cells #[.int .i64 0, .slice none 0 0] 29) = w8 at SA hHeld ⊢
        obtain ⟨G, hG⟩ : ∃ G, w7.heap.size = G := ⟨_, rfl⟩
        rw [hG] at SA ⊢
        clear hG S7
        have S8 := SA
        clear SA
        refine wpAnyH_ready (rs := [3]) (by kernel_rfl) (by simp) (AllReadyH.cons rfl (fun K hK => ?_) AllReadyH.nil)
        rw [if_pos (by rfl)]
        go_simp; go_at_call 14; refine (CI.out _ _ (own_msgs_at (show MOwn w8 w3.heap.size (.slice a4 l.length c4) l from (S8.out.row ⟨w3.heap.size, 38, 4, (.slice a4 l.length c4), l.length, mcells l⟩ (by simp)).1)) ((S8.out.bw.cell hlt).trans HM.out)).mono ?_; rintro e w9 ⟨Vz, uz, prez, postz, rfl, kz, ptz, b9⟩; obtain ⟨Xz, Yz, hXz, pz⟩ := part_kitRK (rc := rc) (post := postz) ptz HL8.out HKY.out; obtain ⟨az, cz, huz⟩ := ptz.slice; subst huz; rw [hXz] at kz; have PZ := Lib.hid pz; clear hXz ptz prez postz pz; have S9 := Lib.hid (S8.out.pushRow b9 kz (by simp)); go_wp2_with fail
        refine hK.out _ _ ?_ (fun hHeld => ?_)
        · exact ⟨S9.out.cell (b := (G5, 29, #[.int .i64 cap, .slice a4 l.length c4])) (by simp) 0, S9.out.cell (b := (G5, 29, #[.int .i64 cap, .slice a4 l.length c4])) (by simp) 1, S9.out.cell (b := (GA, 29, #[.int .i64 rc, .slice azA L.length czA])) (by simp) 0, S9.out.cell (b := (GA, 29, #[.int .i64 rc, .slice azA L.length czA])) (by simp) 1, S9.out.cell (b := (w.heap.size + 1, 34, #[.int .i64 x.1, .int .i64 x.2.1, .string x.2.2.1, .int .i64 x.2.2.2])) (by simp) 0, S9.out.cell (b := (w.heap.size + 1, 34, #[.int .i64 x.1, .int .i64 x.2.1, .string x.2.2.1, .int .i64 x.2.2.2])) (by simp) 1, S9.out.cell (b := (w.heap.size + 1, 34, #[.int .i64 x.1, .int .i64 x.2.1, .string x.2.2.1, .int .i64 x.2.2.2])) (by simp) 2, S9.out.cell (b := (w.heap.size + 1, 34, #[.int .i64 x.1, .int .i64 x.2.1, .string x.2.2.1, .int .i64 x.2.2.2])) (by simp) 3, S9.out.cell (b := (w.heap.size, 24, #[.int .i64 cap, .slice a l.length c])) (by simp) 0, S9.out.cell (b := (w.heap.size, 24, #[.int .i64 cap, .slice a l.length c])) (by simp) 1⟩
        clear hK K
        try simp only [Act.put, List.getElem_toArray, List.getElem_cons_succ, List.getElem_cons_zero, List.setIfInBounds_toArray, List.set_cons_zero, List.set_cons_succ]
        clear b9 S8
        refine wpAnyH_take (i := 4) (v := ?_) rfl (by kernel_rfl) (by kernel_rfl) (by kernel_rfl) (fun _ _ _ h => h) (Or.inl ⟨by rfl, ?_⟩) (by assumption) ?_
        rotate_left
        · intro w hSw; (try dsimp only at hSw); go_simp; try with_reducible rfl
        try simp only [Act.put, List.getElem_toArray, List.getElem_cons_succ, List.getElem_cons_zero, List.setIfInBounds_toArray, List.set_cons_zero, List.set_cons_succ]
        refine wpAnyH_take (i := 5) (v := ?_) rfl (by kernel_rfl) (by kernel_rfl) (by kernel_rfl) (fun _ _ _ h => h) (Or.inl ⟨by rfl, ?_⟩) (by assumption) ?_
        rotate_left
        · intro w hSw; (try dsimp only at hSw); go_simp; try with_reducible rfl
        try simp only [Act.put, List.getElem_toArray, List.getElem_cons_succ, List.getElem_cons_zero, List.setIfInBounds_toArray, List.set_cons_zero, List.set_cons_succ]
        refine wpAnyH_take (i := 6) (v := ?_) rfl (by kernel_rfl) (by kernel_rfl) (by kernel_rfl) (fun _ _ _ h => h) (Or.inl ⟨by rfl, ?_⟩) (by assumption) ?_
        rotate_left
        · intro w hSw; (try dsimp only at hSw); go_simp; try with_reducible rfl
        try simp only [Act.put, List.getElem_toArray, List.getElem_cons_succ, List.getElem_cons_zero, List.setIfInBounds_toArray, List.set_cons_zero, List.set_cons_succ]
        have z0 : w9.cell? ⟨G, 0, none⟩ = some (.int .i64 0) := S9.out.cell (b := (G, 29, #[.int .i64 0, .slice none 0 0])) (by simp) 0
        have z1 : w9.cell? ⟨G, 1, none⟩ = some (.slice none 0 0) := S9.out.cell (b := (G, 29, #[.int .i64 0, .slice none 0 0])) (by simp) 1
        have y0 : w9.frozen? ⟨G, 0, none⟩ = false := S9.out.frozen (b := (G, 29, #[.int .i64 0, .slice none 0 0])) (by simp) 0
        have y1 : w9.frozen? ⟨G, 1, none⟩ = false := S9.out.frozen (b := (G, 29, #[.int .i64 0, .slice none 0 0])) (by simp) 1
        have SE := (S9.out.store 0 (.int .i64 rc)).store 1 (.slice az L.length cz)
        simp only [List.setIfInBounds_toArray, List.set_cons_zero, List.set_cons_succ] at SE
        refine wpAnyH_ready (rs := [8]) (by kernel_rfl) (by simp) (AllReadyH.cons rfl (fun K hK => ?_) AllReadyH.nil)
        rw [if_pos (by rfl)]
        go_simp
        refine hK.out _ _ ?_ (fun hHeld => ?_)
        · exact ⟨SE.cell (b := (G5, 29, #[.int .i64 cap, .slice a4 l.length c4])) (by simp) 0, SE.cell (b := (G5, 29, #[.int .i64 cap, .slice a4 l.length c4])) (by simp) 1, SE.cell (b := (GA, 29, #[.int .i64 rc, .slice azA L.length czA])) (by simp) 0, SE.cell (b := (GA, 29, #[.int .i64 rc, .slice azA L.length czA])) (by simp) 1, SE.cell (b := (w.heap.size + 1, 34, #[.int .i64 x.1, .int .i64 x.2.1, .string x.2.2.1, .int .i64 x.2.2.2])) (by simp) 0, SE.cell (b := (w.heap.size + 1, 34, #[.int .i64 x.1, .int .i64 x.2.1, .string x.2.2.1, .int .i64 x.2.2.2])) (by simp) 1, SE.cell (b := (w.heap.size + 1, 34, #[.int .i64 x.1, .int .i64 x.2.1, .string x.2.2.1, .int .i64 x.2.2.2])) (by simp) 2, SE.cell (b := (w.heap.size + 1, 34, #[.int .i64 x.1, .int .i64 x.2.1, .string x.2.2.1, .int .i64 x.2.2.2])) (by simp) 3, SE.cell (b := (w.heap.size, 24, #[.int .i64 cap, .slice a l.length c])) (by simp) 0, SE.cell (b := (w.heap.size, 24, #[.int .i64 cap, .slice a l.length c])) (by simp) 1⟩
        clear hK K
        try simp only [Act.put, List.getElem_toArray, List.getElem_cons_succ, List.getElem_cons_zero, List.setIfInBounds_toArray, List.set_cons_zero, List.set_cons_succ]
        generalize (w9.setCell ⟨G, 0, none⟩ (.int .i64 rc)).setCell ⟨G, 1, none⟩ (.slice az L.length cz) = WW at SE hHeld ⊢
        refine wpAnyH_take (i := 9) (v := ?_) rfl (by kernel_rfl) (by kernel_rfl) (by kernel_rfl) (fun _ _ _ h => h) (Or.inl ⟨by rfl, ?_⟩) (by assumption) ?_
        rotate_left
        · intro w hSw; (try dsimp only at hSw); go_simp; try with_reducible rfl
        try simp only [Act.put, List.getElem_toArray, List.getElem_cons_succ, List.getElem_cons_zero, List.setIfInBounds_toArray, List.set_cons_zero, List.set_cons_succ]
        refine wpAnyH_done (by kernel_rfl) ?_ _
        clear hHeld z0 z1 y0 y1 S9
        obtain ⟨bz, hbz⟩ : ∃ b, w8.heap.size = b := ⟨_, rfl⟩
        rw [hbz] at SE
        clear hbz kz
        exact tail _ _ _ _ _ _ _ _ PZ SE
    · skip
      have SA := Lib.hid (S6.out.pushBox 29 #[.int .i64 0, .slice none 0 0] (by simp))
      rw [if_pos (by rfl)]
      go_simp
      refine hK.out _ _ ?_ (fun hHeld => ?_)
      · exact ⟨SA.out.cell (b := (G5, 29, #[.int .i64 cap, .slice a4 l.length c4])) (by simp) 0, SA.out.cell (b := (G5, 29, #[.int .i64 cap, .slice a4 l.length c4])) (by simp) 1, SA.out.cell (b := (GA, 29, #[.int .i64 rc, .slice azA L.length czA])) (by simp) 0, SA.out.cell (b := (GA, 29, #[.int .i64 rc, .slice azA L.length czA])) (by simp) 1, SA.out.cell (b := (w.heap.size + 1, 34, #[.int .i64 x.1, .int .i64 x.2.1, .string x.2.2.1, .int .i64 x.2.2.2])) (by simp) 0, SA.out.cell (b := (w.heap.size + 1, 34, #[.int .i64 x.1, .int .i64 x.2.1, .string x.2.2.1, .int .i64 x.2.2.2])) (by simp) 1, SA.out.cell (b := (w.heap.size + 1, 34, #[.int .i64 x.1, .int .i64 x.2.1, .string x.2.2.1, .int .i64 x.2.2.2])) (by simp) 2, SA.out.cell (b := (w.heap.size + 1, 34, #[.int .i64 x.1, .int .i64 x.2.1, .string x.2.2.1, .int .i64 x.2.2.2])) (by simp) 3, SA.out.cell (b := (w.heap.size, 24, #[.int .i64 cap, .slice a l.length c])) (by simp) 0, SA.out.cell (b := (w.heap.size, 24, #[.int .i64 cap, .slice a l.length c])) (by simp) 1⟩
      clear hK K
      try simp only [Act.put, List.getElem_toArray, List.getElem_cons_succ, List.getElem_cons_zero, List.setIfInBounds_toArray, List.set_cons_zero, List.set_cons_succ]
      generalize w6.alloc (.cells #[.int .i64 0, .slice none 0 0] 29) = w7 at SA hHeld ⊢
      obtain ⟨G, hG⟩ : ∃ G, w6.heap.size = G := ⟨_, rfl⟩
      rw [hG] at SA ⊢
      clear hG S6
      have S7 := SA
      clear SA
      refine wpAnyH_ready (rs := [2]) (by kernel_rfl) (by simp) (AllReadyH.cons rfl (fun K hK => ?_) AllReadyH.nil)
      rw [if_pos (by rfl)]
      go_simp; go_at_call 13; refine (CU.out _).mono ?_; rintro e w8 ⟨rfl, b8⟩; have S8 := Lib.hid (S7.out.below b8); go_wp2_with fail
      refine hK.out _ _ ?_ (fun hHeld => ?_)
      · exact ⟨S8.out.cell (b := (G5, 29, #[.int .i64 cap, .slice a4 l.length c4])) (by simp) 0, S8.out.cell (b := (G5, 29, #[.int .i64 cap, .slice a4 l.length c4])) (by simp) 1, S8.out.cell (b := (GA, 29, #[.int .i64 rc, .slice azA L.length czA])) (by simp) 0, S8.out.cell (b := (GA, 29, #[.int .i64 rc, .slice azA L.length czA])) (by simp) 1, S8.out.cell (b := (w.heap.size + 1, 34, #[.int .i64 x.1, .int .i64 x.2.1, .string x.2.2.1, .int .i64 x.2.2.2])) (by simp) 0, S8.out.cell (b := (w.heap.size + 1, 34, #[.int .i64 x.1, .int .i64 x.2.1, .string x.2.2.1, .int .i64 x.2.2.2])) (by simp) 1, S8.out.cell (b := (w.heap.size + 1, 34, #[.int .i64 x.1, .int .i64 x.2.1, .string x.2.2.1, .int .i64 x.2.2.2])) (by simp) 2, S8.out.cell (b := (w.heap.size + 1, 34, #[.int .i64 x.1, .int .i64 x.2.1, .string x.2.2.1, .int .i64 x.2.2.2])) (by simp) 3, S8.out.cell (b := (w.heap.size, 24, #[.int .i64 cap, .slice a l.length c])) (by simp) 0, S8.out.cell (b := (w.heap.size, 24, #[.int .i64 cap, .slice a l.length c])) (by simp) 1⟩
      clear hK K
      try simp only [Act.put, List.getElem_toArray, List.getElem_cons_succ, List.getElem_cons_zero, List.setIfInBounds_toArray, List.set_cons_zero, List.set_cons_succ]
      clear b8 S7
      refine wpAnyH_ready (rs := [3]) (by kernel_rfl) (by simp) (AllReadyH.cons rfl (fun K hK => ?_) AllReadyH.nil)
      rw [if_pos (by rfl)]
      go_simp; go_at_call 14; refine (CI.out _ _ (own_msgs_at (show MOwn w8 w3.heap.size (.slice a4 l.length c4) l from (S8.out.row ⟨w3.heap.size, 38, 4, (.slice a4 l.length c4), l.length, mcells l⟩ (by simp)).1)) ((S8.out.bw.cell hlt).trans HM.out)).mono ?_; rintro e w9 ⟨Vz, uz, prez, postz, rfl, kz, ptz, b9⟩; obtain ⟨Xz, Yz, hXz, pz⟩ := part_kitRK (rc := rc) (post := postz) ptz HL8.out HKY.out; obtain ⟨az, cz, huz⟩ := ptz.slice; subst huz; rw [hXz] at kz; have PZ := Lib.hid pz; clear hXz ptz prez postz pz; have S9 := Lib.hid (S8.out.pushRow b9 kz (by simp)); go_wp2_with fail
      refine hK.out _ _ ?_ (fun hHeld => ?_)
      · exact ⟨S9.out.cell (b := (G5, 29, #[.int .i64 cap, .slice a4 l.length c4])) (by simp) 0, S9.out.cell (b := (G5, 29, #[.int .i64 cap, .slice a4 l.length c4])) (by simp) 1, S9.out.cell (b := (GA, 29, #[.int .i64 rc, .slice azA L.length czA])) (by simp) 0, S9.out.cell (b := (GA, 29, #[.int .i64 rc, .slice azA L.length czA])) (by simp) 1, S9.out.cell (b := (w.heap.size + 1, 34, #[.int .i64 x.1, .int .i64 x.2.1, .string x.2.2.1, .int .i64 x.2.2.2])) (by simp) 0, S9.out.cell (b := (w.heap.size + 1, 34, #[.int .i64 x.1, .int .i64 x.2.1, .string x.2.2.1, .int .i64 x.2.2.2])) (by simp) 1, S9.out.cell (b := (w.heap.size + 1, 34, #[.int .i64 x.1, .int .i64 x.2.1, .string x.2.2.1, .int .i64 x.2.2.2])) (by simp) 2, S9.out.cell (b := (w.heap.size + 1, 34, #[.int .i64 x.1, .int .i64 x.2.1, .string x.2.2.1, .int .i64 x.2.2.2])) (by simp) 3, S9.out.cell (b := (w.heap.size, 24, #[.int .i64 cap, .slice a l.length c])) (by simp) 0, S9.out.cell (b := (w.heap.size, 24, #[.int .i64 cap, .slice a l.length c])) (by simp) 1⟩
      clear hK K
      try simp only [Act.put, List.getElem_toArray, List.getElem_cons_succ, List.getElem_cons_zero, List.setIfInBounds_toArray, List.set_cons_zero, List.set_cons_succ]
      clear b9 S8
      refine wpAnyH_take (i := 4) (v := ?_) rfl (by kernel_rfl) (by kernel_rfl) (by kernel_rfl) (fun _ _ _ h => h) (Or.inl ⟨by rfl, ?_⟩) (by assumption) ?_
      rotate_left
      · intro w hSw; (try dsimp only at hSw); go_simp; try with_reducible rfl
      try simp only [Act.put, List.getElem_toArray, List.getElem_cons_succ, List.getElem_cons_zero, List.setIfInBounds_toArray, List.set_cons_zero, List.set_cons_succ]
      refine wpAnyH_take (i := 5) (v := ?_) rfl (by kernel_rfl) (by kernel_rfl) (by kernel_rfl) (fun _ _ _ h => h) (Or.inl ⟨by rfl, ?_⟩) (by assumption) ?_
      rotate_left
      · intro w hSw; (try dsimp only at hSw); go_simp; try with_reducible rfl
      try simp only [Act.put, List.getElem_toArray, List.getElem_cons_succ, List.getElem_cons_zero, List.setIfInBounds_toArray, List.set_cons_zero, List.set_cons_succ]
      refine wpAnyH_take (i := 6) (v := ?_) rfl (by kernel_rfl) (by kernel_rfl) (by kernel_rfl) (fun _ _ _ h => h) (Or.inl ⟨by rfl, ?_⟩) (by assumption) ?_
      rotate_left
      · intro w hSw; (try dsimp only at hSw); go_simp; try with_reducible rfl
      try simp only [Act.put, List.getElem_toArray, List.getElem_cons_succ, List.getElem_cons_zero, List.setIfInBounds_toArray, List.set_cons_zero, List.set_cons_succ]
      have z0 : w9.cell? ⟨G, 0, none⟩ = some (.int .i64 0) := S9.out.cell (b := (G, 29, #[.int .i64 0, .slice none 0 0])) (by simp) 0
      have z1 : w9.cell? ⟨G, 1, none⟩ = some (.slice none 0 0) := S9.out.cell (b := (G, 29, #[.int .i64 0, .slice none 0 0])) (by simp) 1
      have y0 : w9.frozen? ⟨G, 0, none⟩ = false := S9.out.frozen (b := (G, 29, #[.int .i64 0, .slice none 0 0])) (by simp) 0
      have y1 : w9.frozen? ⟨G, 1, none⟩ = false := S9.out.frozen (b := (G, 29, #[.int .i64 0, .slice none 0 0])) (by simp) 1
      have SE := (S9.out.store 0 (.int .i64 rc)).store 1 (.slice az L.length cz)
      simp only [List.setIfInBounds_toArray, List.set_cons_zero, List.set_cons_succ] at SE
      refine wpAnyH_ready (rs := [8]) (by kernel_rfl) (by simp) (AllReadyH.cons rfl (fun K hK => ?_) AllReadyH.nil)
      rw [if_pos (by rfl)]
      go_simp
      refine hK.out _ _ ?_ (fun hHeld => ?_)
      · exact ⟨SE.cell (b := (G5, 29, #[.int .i64 cap, .slice a4 l.length c4])) (by simp) 0, SE.cell (b := (G5, 29, #[.int .i64 cap, .slice a4 l.length c4])) (by simp) 1, SE.cell (b := (GA, 29, #[.int .i64 rc, .slice azA L.length czA])) (by simp) 0, SE.cell (b := (GA, 29, #[.int .i64 rc, .slice azA L.length czA])) (by simp) 1, SE.cell (b := (w.heap.size + 1, 34, #[.int .i64 x.1, .int .i64 x.2.1, .string x.2.2.1, .int .i64 x.2.2.2])) (by simp) 0, SE.cell (b := (w.heap.size + 1, 34, #[.int .i64 x.1, .int .i64 x.2.1, .string x.2.2.1, .int .i64 x.2.2.2])) (by simp) 1, SE.cell (b := (w.heap.size + 1, 34, #[.int .i64 x.1, .int .i64 x.2.1, .string x.2.2.1, .int .i64 x.2.2.2])) (by simp) 2, SE.cell (b := (w.heap.size + 1, 34, #[.int .i64 x.1, .int .i64 x.2.1, .string x.2.2.1, .int .i64 x.2.2.2])) (by simp) 3, SE.cell (b := (w.heap.size, 24, #[.int .i64 cap, .slice a l.length c])) (by simp) 0, SE.cell (b := (w.heap.size, 24, #[.int .i64 cap, .slice a l.length c])) (by simp) 1⟩
      clear hK K
      try simp only [Act.put, List.getElem_toArray, List.getElem_cons_succ, List.getElem_cons_zero, List.setIfInBounds_toArray, List.set_cons_zero, List.set_cons_succ]
      generalize (w9.setCell ⟨G, 0, none⟩ (.int .i64 rc)).setCell ⟨G, 1, none⟩ (.slice az L.length cz) = WW at SE hHeld ⊢
      refine wpAnyH_take (i := 9) (v := ?_) rfl (by kernel_rfl) (by kernel_rfl) (by kernel_rfl) (fun _ _ _ h => h) (Or.inl ⟨by rfl, ?_⟩) (by assumption) ?_
      rotate_left
      · intro w hSw; (try dsimp only at hSw); go_simp; try with_reducible rfl
      try simp only [Act.put, List.getElem_toArray, List.getElem_cons_succ, List.getElem_cons_zero, List.setIfInBounds_toArray, List.set_cons_zero, List.set_cons_succ]
      refine wpAnyH_done (by kernel_rfl) ?_ _
      clear hHeld z0 z1 y0 y1 S9
      obtain ⟨bz, hbz⟩ : ∃ b, w8.heap.size = b := ⟨_, rfl⟩
      rw [hbz] at SE
      clear hbz kz
      exact tail _ _ _ _ _ _ _ _ PZ SE
  intro VzB XzB YzB azB czB GB w6 bzB PZB SEB
  have S6 := Lib.hid SEB
  clear SEB S5
  have d0_0 : w6.cell? ⟨GB, 0, none⟩ = some (.int .i64 rc) := S6.out.cell (b := (GB, 29, #[.int .i64 rc, .slice azB L.length czB])) (by simp) 0
  have d0_1 : w6.cell? ⟨GB, 1, none⟩ = some (.slice azB L.length czB) := S6.out.cell (b := (GB, 29, #[.int .i64 rc, .slice azB L.length czB])) (by simp) 1
  have d1_0 : w6.cell? ⟨G5, 0, none⟩ = some (.int .i64 cap) := S6.out.cell (b := (G5, 29, #[.int .i64 cap, .slice a4 l.length c4])) (by simp) 0
  have d1_1 : w6.cell? ⟨G5, 1, none⟩ = some (.slice a4 l.length c4) := S6.out.cell (b := (G5, 29, #[.int .i64 cap, .slice a4 l.length c4])) (by simp) 1
  have d2_0 : w6.cell? ⟨GA, 0, none⟩ = some (.int .i64 rc) := S6.out.cell (b := (GA, 29, #[.int .i64 rc, .slice azA L.length czA])) (by simp) 0
  have d2_1 : w6.cell? ⟨GA, 1, none⟩ = some (.slice azA L.length czA) := S6.out.cell (b := (GA, 29, #[.int .i64 rc, .slice azA L.length czA])) (by simp) 1
  have d3_0 : w6.cell? ⟨w.heap.size + 1, 0, none⟩ = some (.int .i64 x.1) := S6.out.cell (b := (w.heap.size + 1, 34, #[.int .i64 x.1, .int .i64 x.2.1, .string x.2.2.1, .int .i64 x.2.2.2])) (by simp) 0
  have d3_1 : w6.cell? ⟨w.heap.size + 1, 1, none⟩ = some (.int .i64 x.2.1) := S6.out.cell (b := (w.heap.size + 1, 34, #[.int .i64 x.1, .int .i64 x.2.1, .string x.2.2.1, .int .i64 x.2.2.2])) (by simp) 1
  have d3_2 : w6.cell? ⟨w.heap.size + 1, 2, none⟩ = some (.string x.2.2.1) := S6.out.cell (b := (w.heap.size + 1, 34, #[.int .i64 x.1, .int .i64 x.2.1, .string x.2.2.1, .int .i64 x.2.2.2])) (by simp) 2
  have d3_3 : w6.cell? ⟨w.heap.size + 1, 3, none⟩ = some (.int .i64 x.2.2.2) := S6.out.cell (b := (w.heap.size + 1, 34, #[.int .i64 x.1, .int .i64 x.2.1, .string x.2.2.1, .int .i64 x.2.2.2])) (by simp) 3
  have d4_0 : w6.cell? ⟨w.heap.size, 0, none⟩ = some (.int .i64 cap) := S6.out.cell (b := (w.heap.size, 24, #[.int .i64 cap, .slice a l.length c])) (by simp) 0
  have d4_1 : w6.cell? ⟨w.heap.size, 1, none⟩ = some (.slice a l.length c) := S6.out.cell (b := (w.heap.size, 24, #[.int .i64 cap, .slice a l.length c])) (by simp) 1
  go_wp2_with fail
  refine (CE.out _ _ _ (PZB.out.reads _ _ (show MOwn w6 bzB VzB XzB from (S6.out.row ⟨bzB, 38, 4, VzB, XzB.length, mcells XzB⟩ (by simp)).1)) (own_msgs_at (show MOwn w6 bzA (.slice azA L.length czA) L from (S6.out.row ⟨bzA, 38, 4, (.slice azA L.length czA), L.length, mcells L⟩ (by simp)).1))).mono ?_
  clear d0_0 d0_1 d1_0 d1_1 d2_0 d2_1 d3_0 d3_1 d3_2 d3_3 d4_0 d4_1
  rintro e w7 ⟨rfl, b7⟩
  have S7 := Lib.hid (S6.out.below b7)
  clear b7 S6
  have d0_0 : w7.cell? ⟨GB, 0, none⟩ = some (.int .i64 rc) := S7.out.cell (b := (GB, 29, #[.int .i64 rc, .slice azB L.length czB])) (by simp) 0
  have d0_1 : w7.cell? ⟨GB, 1, none⟩ = some (.slice azB L.length czB) := S7.out.cell (b := (GB, 29, #[.int .i64 rc, .slice azB L.length czB])) (by simp) 1
  have d1_0 : w7.cell? ⟨G5, 0, none⟩ = some (.int .i64 cap) := S7.out.cell (b := (G5, 29, #[.int .i64 cap, .slice a4 l.length c4])) (by simp) 0
  have d1_1 : w7.cell? ⟨G5, 1, none⟩ = some (.slice a4 l.length c4) := S7.out.cell (b := (G5, 29, #[.int .i64 cap, .slice a4 l.length c4])) (by simp) 1
  have d2_0 : w7.cell? ⟨GA, 0, none⟩ = some (.int .i64 rc) := S7.out.cell (b := (GA, 29, #[.int .i64 rc, .slice azA L.length czA])) (by simp) 0
  have d2_1 : w7.cell? ⟨GA, 1, none⟩ = some (.slice azA L.length czA) := S7.out.cell (b := (GA, 29, #[.int .i64 rc, .slice azA L.length czA])) (by simp) 1
  have d3_0 : w7.cell? ⟨w.heap.size + 1, 0, none⟩ = some (.int .i64 x.1) := S7.out.cell (b := (w.heap.size + 1, 34, #[.int .i64 x.1, .int .i64 x.2.1, .string x.2.2.1, .int .i64 x.2.2.2])) (by simp) 0
  have d3_1 : w7.cell? ⟨w.heap.size + 1, 1, none⟩ = some (.int .i64 x.2.1) := S7.out.cell (b := (w.heap.size + 1, 34, #[.int .i64 x.1, .int .i64 x.2.1, .string x.2.2.1, .int .i64 x.2.2.2])) (by simp) 1
  have d3_2 : w7.cell? ⟨w.heap.size + 1, 2, none⟩ = some (.string x.2.2.1) := S7.out.cell (b := (w.heap.size + 1, 34, #[.int .i64 x.1, .int .i64 x.2.1, .string x.2.2.1, .int .i64 x.2.2.2])) (by simp) 2
  have d3_3 : w7.cell? ⟨w.heap.size + 1, 3, none⟩ = some (.int .i64 x.2.2.2) := S7.out.cell (b := (w.heap.size + 1, 34, #[.int .i64 x.1, .int .i64 x.2.1, .string x.2.2.1, .int .i64 x.2.2.2])) (by simp) 3
  have d4_0 : w7.cell? ⟨w.heap.size, 0, none⟩ = some (.int .i64 cap) := S7.out.cell (b := (w.heap.size, 24, #[.int .i64 cap, .slice a l.length c])) (by simp) 0
  have d4_1 : w7.cell? ⟨w.heap.size, 1, none⟩ = some (.slice a l.length c) := S7.out.cell (b := (w.heap.size, 24, #[.int .i64 cap, .slice a l.length c])) (by simp) 1
  go_wp2_with fail
  clear d0_0 d0_1 d1_0 d1_1 d2_0 d2_1 d3_0 d3_1 d3_2 d3_3 d4_0 d4_1
  have SD := S7.out.below (show Below w7.heap.size w7 w7.drew from (Below.refl _ _).drew)
  refine wp_region_held_drew (S := fun wx => wx.cell? ⟨GB, 0, none⟩ = some (.int .i64 rc) ∧ wx.cell? ⟨GB, 1, none⟩ = some (.slice azB L.length czB) ∧ wx.cell? ⟨G5, 0, none⟩ = some (.int .i64 cap) ∧ wx.cell? ⟨G5, 1, none⟩ = some (.slice a4 l.length c4) ∧ wx.cell? ⟨GA, 0, none⟩ = some (.int .i64 rc) ∧ wx.cell? ⟨GA, 1, none⟩ = some (.slice azA L.length czA) ∧ wx.cell? ⟨w.heap.size + 1, 0, none⟩ = some (.int .i64 x.1) ∧ wx.cell? ⟨w.heap.size + 1, 1, none⟩ = some (.int .i64 x.2.1) ∧ wx.cell? ⟨w.heap.size + 1, 2, none⟩ = some (.string x.2.2.1) ∧ wx.cell? ⟨w.heap.size + 1, 3, none⟩ = some (.int .i64 x.2.2.2) ∧ wx.cell? ⟨w.heap.size, 0, none⟩ = some (.int .i64 cap) ∧ wx.cell? ⟨w.heap.size, 1, none⟩ = some (.slice a l.length c)) (by kernel_rfl) ?_ (fun hHeld => ?_)
  · exact ⟨SD.cell (b := (GB, 29, #[.int .i64 rc, .slice azB L.length czB])) (by simp) 0, SD.cell (b := (GB, 29, #[.int .i64 rc, .slice azB L.length czB])) (by simp) 1, SD.cell (b := (G5, 29, #[.int .i64 cap, .slice a4 l.length c4])) (by simp) 0, SD.cell (b := (G5, 29, #[.int .i64 cap, .slice a4 l.length c4])) (by simp) 1, SD.cell (b := (GA, 29, #[.int .i64 rc, .slice azA L.length czA])) (by simp) 0, SD.cell (b := (GA, 29, #[.int .i64 rc, .slice azA L.length czA])) (by simp) 1, SD.cell (b := (w.heap.size + 1, 34, #[.int .i64 x.1, .int .i64 x.2.1, .string x.2.2.1, .int .i64 x.2.2.2])) (by simp) 0, SD.cell (b := (w.heap.size + 1, 34, #[.int .i64 x.1, .int .i64 x.2.1, .string x.2.2.1, .int .i64 x.2.2.2])) (by simp) 1, SD.cell (b := (w.heap.size + 1, 34, #[.int .i64 x.1, .int .i64 x.2.1, .string x.2.2.1, .int .i64 x.2.2.2])) (by simp) 2, SD.cell (b := (w.heap.size + 1, 34, #[.int .i64 x.1, .int .i64 x.2.1, .string x.2.2.1, .int .i64 x.2.2.2])) (by simp) 3, SD.cell (b := (w.heap.size, 24, #[.int .i64 cap, .slice a l.length c])) (by simp) 0, SD.cell (b := (w.heap.size, 24, #[.int .i64 cap, .slice a l.length c])) (by simp) 1⟩
  change wpAnyH _ _ _ _ _ 5 #[false, false, false, false, false] _ _
  have SD := Lib.hid SD
  refine wpAnyH_take (i := 0) (v := ?_) rfl (by kernel_rfl) (by kernel_rfl) (by kernel_rfl) (fun _ _ _ h => h) (Or.inl ⟨by rfl, ?_⟩) (by assumption) ?_
  rotate_left
  · intro w hSw; (try dsimp only at hSw); go_simp; try with_reducible rfl
  try simp only [Act.put, List.getElem_toArray, List.getElem_cons_succ, List.getElem_cons_zero, List.setIfInBounds_toArray, List.set_cons_zero, List.set_cons_succ]
  refine wpAnyH_take (i := 1) (v := ?_) rfl (by kernel_rfl) (by kernel_rfl) (by kernel_rfl) (fun _ _ _ h => h) (Or.inl ⟨by rfl, ?_⟩) (by assumption) ?_
  rotate_left
  · intro w hSw; (try dsimp only at hSw); go_simp; try with_reducible rfl
  try simp only [Act.put, List.getElem_toArray, List.getElem_cons_succ, List.getElem_cons_zero, List.setIfInBounds_toArray, List.set_cons_zero, List.set_cons_succ]
  refine wpAnyH_ready (rs := [2]) (by kernel_rfl) (by simp) (AllReadyH.cons rfl (fun K hK => ?_) AllReadyH.nil)
  rw [if_pos (by rfl)]
  go_simp; go_at_call 8; refine (CT.out _ (HV.out.below SD.out.bw)).mono ?_; rintro e w8 ⟨ut, rfl, kt, b8⟩; obtain ⟨at8, ct8, hut⟩ := own_slice kt; subst hut; have S8 := Lib.hid (SD.out.below b8); go_wp2_with fail
  refine hK.out _ _ ?_ (fun hHeld => ?_)
  · exact ⟨S8.out.cell (b := (GB, 29, #[.int .i64 rc, .slice azB L.length czB])) (by simp) 0, S8.out.cell (b := (GB, 29, #[.int .i64 rc, .slice azB L.length czB])) (by simp) 1, S8.out.cell (b := (G5, 29, #[.int .i64 cap, .slice a4 l.length c4])) (by simp) 0, S8.out.cell (b := (G5, 29, #[.int .i64 cap, .slice a4 l.length c4])) (by simp) 1, S8.out.cell (b := (GA, 29, #[.int .i64 rc, .slice azA L.length czA])) (by simp) 0, S8.out.cell (b := (GA, 29, #[.int .i64 rc, .slice azA L.length czA])) (by simp) 1, S8.out.cell (b := (w.heap.size + 1, 34, #[.int .i64 x.1, .int .i64 x.2.1, .string x.2.2.1, .int .i64 x.2.2.2])) (by simp) 0, S8.out.cell (b := (w.heap.size + 1, 34, #[.int .i64 x.1, .int .i64 x.2.1, .string x.2.2.1, .int .i64 x.2.2.2])) (by simp) 1, S8.out.cell (b := (w.heap.size + 1, 34, #[.int .i64 x.1, .int .i64 x.2.1, .string x.2.2.1, .int .i64 x.2.2.2])) (by simp) 2, S8.out.cell (b := (w.heap.size + 1, 34, #[.int .i64 x.1, .int .i64 x.2.1, .string x.2.2.1, .int .i64 x.2.2.2])) (by simp) 3, S8.out.cell (b := (w.heap.size, 24, #[.int .i64 cap, .slice a l.length c])) (by simp) 0, S8.out.cell (b := (w.heap.size, 24, #[.int .i64 cap, .slice a l.length c])) (by simp) 1⟩
  clear hK K
  try simp only [Act.put, List.getElem_toArray, List.getElem_cons_succ, List.getElem_cons_zero, List.setIfInBounds_toArray, List.set_cons_zero, List.set_cons_succ]
  have KT := Lib.hid (own_msgs_at kt)
  clear kt b8
  refine wpAnyH_ready (rs := [3]) (by kernel_rfl) (by simp) (AllReadyH.cons rfl (fun K hK => ?_) AllReadyH.nil)
  rw [if_pos (by rfl)]
  go_simp; go_at_call 10; refine (CQ.out _ _ _ (own_msgs_at (show MOwn w8 w3.heap.size (.slice a4 l.length c4) l from (S8.out.row ⟨w3.heap.size, 38, 4, (.slice a4 l.length c4), l.length, mcells l⟩ (by simp)).1)) KT.out).mono ?_; rintro e w9 ⟨rfl, b9⟩; have S9 := Lib.hid (S8.out.below b9); go_wp2_with fail
  refine hK.out _ _ ?_ (fun hHeld => ?_)
  · exact ⟨S9.out.cell (b := (GB, 29, #[.int .i64 rc, .slice azB L.length czB])) (by simp) 0, S9.out.cell (b := (GB, 29, #[.int .i64 rc, .slice azB L.length czB])) (by simp) 1, S9.out.cell (b := (G5, 29, #[.int .i64 cap, .slice a4 l.length c4])) (by simp) 0, S9.out.cell (b := (G5, 29, #[.int .i64 cap, .slice a4 l.length c4])) (by simp) 1, S9.out.cell (b := (GA, 29, #[.int .i64 rc, .slice azA L.length czA])) (by simp) 0, S9.out.cell (b := (GA, 29, #[.int .i64 rc, .slice azA L.length czA])) (by simp) 1, S9.out.cell (b := (w.heap.size + 1, 34, #[.int .i64 x.1, .int .i64 x.2.1, .string x.2.2.1, .int .i64 x.2.2.2])) (by simp) 0, S9.out.cell (b := (w.heap.size + 1, 34, #[.int .i64 x.1, .int .i64 x.2.1, .string x.2.2.1, .int .i64 x.2.2.2])) (by simp) 1, S9.out.cell (b := (w.heap.size + 1, 34, #[.int .i64 x.1, .int .i64 x.2.1, .string x.2.2.1, .int .i64 x.2.2.2])) (by simp) 2, S9.out.cell (b := (w.heap.size + 1, 34, #[.int .i64 x.1, .int .i64 x.2.1, .string x.2.2.1, .int .i64 x.2.2.2])) (by simp) 3, S9.out.cell (b := (w.heap.size, 24, #[.int .i64 cap, .slice a l.length c])) (by simp) 0, S9.out.cell (b := (w.heap.size, 24, #[.int .i64 cap, .slice a l.length c])) (by simp) 1⟩
  clear hK K
  try simp only [Act.put, List.getElem_toArray, List.getElem_cons_succ, List.getElem_cons_zero, List.setIfInBounds_toArray, List.set_cons_zero, List.set_cons_succ]
  refine wpAnyH_take (i := 4) (v := ?_) rfl (by kernel_rfl) (by kernel_rfl) (by kernel_rfl) (fun _ _ _ h => h) (Or.inl ⟨by rfl, ?_⟩) (by assumption) ?_
  rotate_left
  · intro w hSw; (try dsimp only at hSw); go_simp; try with_reducible rfl
  try simp only [Act.put, List.getElem_toArray, List.getElem_cons_succ, List.getElem_cons_zero, List.setIfInBounds_toArray, List.set_cons_zero, List.set_cons_succ]
  refine wpAnyH_done (by kernel_rfl) ?_ _
  clear hHeld b9 S8 KT SD S7
  have d0_0 : w9.cell? ⟨GB, 0, none⟩ = some (.int .i64 rc) := S9.out.cell (b := (GB, 29, #[.int .i64 rc, .slice azB L.length czB])) (by simp) 0
  have d0_1 : w9.cell? ⟨GB, 1, none⟩ = some (.slice azB L.length czB) := S9.out.cell (b := (GB, 29, #[.int .i64 rc, .slice azB L.length czB])) (by simp) 1
  have d1_0 : w9.cell? ⟨G5, 0, none⟩ = some (.int .i64 cap) := S9.out.cell (b := (G5, 29, #[.int .i64 cap, .slice a4 l.length c4])) (by simp) 0
  have d1_1 : w9.cell? ⟨G5, 1, none⟩ = some (.slice a4 l.length c4) := S9.out.cell (b := (G5, 29, #[.int .i64 cap, .slice a4 l.length c4])) (by simp) 1
  have d2_0 : w9.cell? ⟨GA, 0, none⟩ = some (.int .i64 rc) := S9.out.cell (b := (GA, 29, #[.int .i64 rc, .slice azA L.length czA])) (by simp) 0
  have d2_1 : w9.cell? ⟨GA, 1, none⟩ = some (.slice azA L.length czA) := S9.out.cell (b := (GA, 29, #[.int .i64 rc, .slice azA L.length czA])) (by simp) 1
  have d3_0 : w9.cell? ⟨w.heap.size + 1, 0, none⟩ = some (.int .i64 x.1) := S9.out.cell (b := (w.heap.size + 1, 34, #[.int .i64 x.1, .int .i64 x.2.1, .string x.2.2.1, .int .i64 x.2.2.2])) (by simp) 0
  have d3_1 : w9.cell? ⟨w.heap.size + 1, 1, none⟩ = some (.int .i64 x.2.1) := S9.out.cell (b := (w.heap.size + 1, 34, #[.int .i64 x.1, .int .i64 x.2.1, .string x.2.2.1, .int .i64 x.2.2.2])) (by simp) 1
  have d3_2 : w9.cell? ⟨w.heap.size + 1, 2, none⟩ = some (.string x.2.2.1) := S9.out.cell (b := (w.heap.size + 1, 34, #[.int .i64 x.1, .int .i64 x.2.1, .string x.2.2.1, .int .i64 x.2.2.2])) (by simp) 2
  have d3_3 : w9.cell? ⟨w.heap.size + 1, 3, none⟩ = some (.int .i64 x.2.2.2) := S9.out.cell (b := (w.heap.size + 1, 34, #[.int .i64 x.1, .int .i64 x.2.1, .string x.2.2.1, .int .i64 x.2.2.2])) (by simp) 3
  have d4_0 : w9.cell? ⟨w.heap.size, 0, none⟩ = some (.int .i64 cap) := S9.out.cell (b := (w.heap.size, 24, #[.int .i64 cap, .slice a l.length c])) (by simp) 0
  have d4_1 : w9.cell? ⟨w.heap.size, 1, none⟩ = some (.slice a l.length c) := S9.out.cell (b := (w.heap.size, 24, #[.int .i64 cap, .slice a l.length c])) (by simp) 1
  go_wp2_with fail
  refine (CK.out _ _ _ (show MOwn w9 w3.heap.size (.slice a4 l.length c4) l from (S9.out.row ⟨w3.heap.size, 38, 4, (.slice a4 l.length c4), l.length, mcells l⟩ (by simp)).1)).mono ?_
  clear d0_0 d0_1 d1_0 d1_1 d2_0 d2_1 d3_0 d3_1 d3_2 d3_3 d4_0 d4_1
  rintro e w10 ⟨rfl, k10, g10⟩
  have b10 := trivial
  have S10 := Lib.hid (S9.out.mark 1 (by simp) rfl g10 (mcells (mmarks 1 l.length)) (by have h := k10; unfold MOwn at h; rw [mmarks_length] at h; exact h))
  simp only [List.set_cons_succ, List.set_cons_zero, List.getElem_cons_succ, List.getElem_cons_zero] at S10
  clear b10 S9
  have d0_0 : w10.cell? ⟨GB, 0, none⟩ = some (.int .i64 rc) := S10.out.cell (b := (GB, 29, #[.int .i64 rc, .slice azB L.length czB])) (by simp) 0
  have d0_1 : w10.cell? ⟨GB, 1, none⟩ = some (.slice azB L.length czB) := S10.out.cell (b := (GB, 29, #[.int .i64 rc, .slice azB L.length czB])) (by simp) 1
  have d1_0 : w10.cell? ⟨G5, 0, none⟩ = some (.int .i64 cap) := S10.out.cell (b := (G5, 29, #[.int .i64 cap, .slice a4 l.length c4])) (by simp) 0
  have d1_1 : w10.cell? ⟨G5, 1, none⟩ = some (.slice a4 l.length c4) := S10.out.cell (b := (G5, 29, #[.int .i64 cap, .slice a4 l.length c4])) (by simp) 1
  have d2_0 : w10.cell? ⟨GA, 0, none⟩ = some (.int .i64 rc) := S10.out.cell (b := (GA, 29, #[.int .i64 rc, .slice azA L.length czA])) (by simp) 0
  have d2_1 : w10.cell? ⟨GA, 1, none⟩ = some (.slice azA L.length czA) := S10.out.cell (b := (GA, 29, #[.int .i64 rc, .slice azA L.length czA])) (by simp) 1
  have d3_0 : w10.cell? ⟨w.heap.size + 1, 0, none⟩ = some (.int .i64 x.1) := S10.out.cell (b := (w.heap.size + 1, 34, #[.int .i64 x.1, .int .i64 x.2.1, .string x.2.2.1, .int .i64 x.2.2.2])) (by simp) 0
  have d3_1 : w10.cell? ⟨w.heap.size + 1, 1, none⟩ = some (.int .i64 x.2.1) := S10.out.cell (b := (w.heap.size + 1, 34, #[.int .i64 x.1, .int .i64 x.2.1, .string x.2.2.1, .int .i64 x.2.2.2])) (by simp) 1
  have d3_2 : w10.cell? ⟨w.heap.size + 1, 2, none⟩ = some (.string x.2.2.1) := S10.out.cell (b := (w.heap.size + 1, 34, #[.int .i64 x.1, .int .i64 x.2.1, .string x.2.2.1, .int .i64 x.2.2.2])) (by simp) 2
  have d3_3 : w10.cell? ⟨w.heap.size + 1, 3, none⟩ = some (.int .i64 x.2.2.2) := S10.out.cell (b := (w.heap.size + 1, 34, #[.int .i64 x.1, .int .i64 x.2.1, .string x.2.2.1, .int .i64 x.2.2.2])) (by simp) 3
  have d4_0 : w10.cell? ⟨w.heap.size, 0, none⟩ = some (.int .i64 cap) := S10.out.cell (b := (w.heap.size, 24, #[.int .i64 cap, .slice a l.length c])) (by simp) 0
  have d4_1 : w10.cell? ⟨w.heap.size, 1, none⟩ = some (.slice a l.length c) := S10.out.cell (b := (w.heap.size, 24, #[.int .i64 cap, .slice a l.length c])) (by simp) 1
  go_wp2_with fail
  refine (CE.out _ _ _ (PZB.out.reads _ _ (show MOwn w10 bzB VzB XzB from (S10.out.row ⟨bzB, 38, 4, VzB, XzB.length, mcells XzB⟩ (by simp)).1)) (own_msgs_at (show MOwn w10 bzA (.slice azA L.length czA) L from (S10.out.row ⟨bzA, 38, 4, (.slice azA L.length czA), L.length, mcells L⟩ (by simp)).1))).mono ?_
  clear d0_0 d0_1 d1_0 d1_1 d2_0 d2_1 d3_0 d3_1 d3_2 d3_3 d4_0 d4_1
  rintro e w11 ⟨rfl, b11⟩
  have S11 := Lib.hid (S10.out.below b11)
  clear b11 S10
  have d0_0 : w11.cell? ⟨GB, 0, none⟩ = some (.int .i64 rc) := S11.out.cell (b := (GB, 29, #[.int .i64 rc, .slice azB L.length czB])) (by simp) 0
  have d0_1 : w11.cell? ⟨GB, 1, none⟩ = some (.slice azB L.length czB) := S11.out.cell (b := (GB, 29, #[.int .i64 rc, .slice azB L.length czB])) (by simp) 1
  have d1_0 : w11.cell? ⟨G5, 0, none⟩ = some (.int .i64 cap) := S11.out.cell (b := (G5, 29, #[.int .i64 cap, .slice a4 l.length c4])) (by simp) 0
  have d1_1 : w11.cell? ⟨G5, 1, none⟩ = some (.slice a4 l.length c4) := S11.out.cell (b := (G5, 29, #[.int .i64 cap, .slice a4 l.length c4])) (by simp) 1
  have d2_0 : w11.cell? ⟨GA, 0, none⟩ = some (.int .i64 rc) := S11.out.cell (b := (GA, 29, #[.int .i64 rc, .slice azA L.length czA])) (by simp) 0
  have d2_1 : w11.cell? ⟨GA, 1, none⟩ = some (.slice azA L.length czA) := S11.out.cell (b := (GA, 29, #[.int .i64 rc, .slice azA L.length czA])) (by simp) 1
  have d3_0 : w11.cell? ⟨w.heap.size + 1, 0, none⟩ = some (.int .i64 x.1) := S11.out.cell (b := (w.heap.size + 1, 34, #[.int .i64 x.1, .int .i64 x.2.1, .string x.2.2.1, .int .i64 x.2.2.2])) (by simp) 0
  have d3_1 : w11.cell? ⟨w.heap.size + 1, 1, none⟩ = some (.int .i64 x.2.1) := S11.out.cell (b := (w.heap.size + 1, 34, #[.int .i64 x.1, .int .i64 x.2.1, .string x.2.2.1, .int .i64 x.2.2.2])) (by simp) 1
  have d3_2 : w11.cell? ⟨w.heap.size + 1, 2, none⟩ = some (.string x.2.2.1) := S11.out.cell (b := (w.heap.size + 1, 34, #[.int .i64 x.1, .int .i64 x.2.1, .string x.2.2.1, .int .i64 x.2.2.2])) (by simp) 2
  have d3_3 : w11.cell? ⟨w.heap.size + 1, 3, none⟩ = some (.int .i64 x.2.2.2) := S11.out.cell (b := (w.heap.size + 1, 34, #[.int .i64 x.1, .int .i64 x.2.1, .string x.2.2.1, .int .i64 x.2.2.2])) (by simp) 3
  have d4_0 : w11.cell? ⟨w.heap.size, 0, none⟩ = some (.int .i64 cap) := S11.out.cell (b := (w.heap.size, 24, #[.int .i64 cap, .slice a l.length c])) (by simp) 0
  have d4_1 : w11.cell? ⟨w.heap.size, 1, none⟩ = some (.slice a l.length c) := S11.out.cell (b := (w.heap.size, 24, #[.int .i64 cap, .slice a l.length c])) (by simp) 1
  go_wp2_with fail
  refine (PZB.out.mark _ _ (show MOwn w11 bzB VzB XzB from (S11.out.row ⟨bzB, 38, 4, VzB, XzB.length, mcells XzB⟩ (by simp)).1)).mono ?_
  clear d0_0 d0_1 d1_0 d1_1 d2_0 d2_1 d3_0 d3_1 d3_2 d3_3 d4_0 d4_1
  rintro e w12 ⟨rfl, k12, g12⟩
  have b12 := trivial
  have S12 := Lib.hid (S11.out.mark 0 (by simp) rfl g12 (mcells YzB) (by have h := k12; unfold MOwn at h; rw [PZB.out.len] at h; exact h))
  simp only [List.set_cons_succ, List.set_cons_zero, List.getElem_cons_succ, List.getElem_cons_zero] at S12
  clear b12 S11
  have d0_0 : w12.cell? ⟨GB, 0, none⟩ = some (.int .i64 rc) := S12.out.cell (b := (GB, 29, #[.int .i64 rc, .slice azB L.length czB])) (by simp) 0
  have d0_1 : w12.cell? ⟨GB, 1, none⟩ = some (.slice azB L.length czB) := S12.out.cell (b := (GB, 29, #[.int .i64 rc, .slice azB L.length czB])) (by simp) 1
  have d1_0 : w12.cell? ⟨G5, 0, none⟩ = some (.int .i64 cap) := S12.out.cell (b := (G5, 29, #[.int .i64 cap, .slice a4 l.length c4])) (by simp) 0
  have d1_1 : w12.cell? ⟨G5, 1, none⟩ = some (.slice a4 l.length c4) := S12.out.cell (b := (G5, 29, #[.int .i64 cap, .slice a4 l.length c4])) (by simp) 1
  have d2_0 : w12.cell? ⟨GA, 0, none⟩ = some (.int .i64 rc) := S12.out.cell (b := (GA, 29, #[.int .i64 rc, .slice azA L.length czA])) (by simp) 0
  have d2_1 : w12.cell? ⟨GA, 1, none⟩ = some (.slice azA L.length czA) := S12.out.cell (b := (GA, 29, #[.int .i64 rc, .slice azA L.length czA])) (by simp) 1
  have d3_0 : w12.cell? ⟨w.heap.size + 1, 0, none⟩ = some (.int .i64 x.1) := S12.out.cell (b := (w.heap.size + 1, 34, #[.int .i64 x.1, .int .i64 x.2.1, .string x.2.2.1, .int .i64 x.2.2.2])) (by simp) 0
  have d3_1 : w12.cell? ⟨w.heap.size + 1, 1, none⟩ = some (.int .i64 x.2.1) := S12.out.cell (b := (w.heap.size + 1, 34, #[.int .i64 x.1, .int .i64 x.2.1, .string x.2.2.1, .int .i64 x.2.2.2])) (by simp) 1
  have d3_2 : w12.cell? ⟨w.heap.size + 1, 2, none⟩ = some (.string x.2.2.1) := S12.out.cell (b := (w.heap.size + 1, 34, #[.int .i64 x.1, .int .i64 x.2.1, .string x.2.2.1, .int .i64 x.2.2.2])) (by simp) 2
  have d3_3 : w12.cell? ⟨w.heap.size + 1, 3, none⟩ = some (.int .i64 x.2.2.2) := S12.out.cell (b := (w.heap.size + 1, 34, #[.int .i64 x.1, .int .i64 x.2.1, .string x.2.2.1, .int .i64 x.2.2.2])) (by simp) 3
  have d4_0 : w12.cell? ⟨w.heap.size, 0, none⟩ = some (.int .i64 cap) := S12.out.cell (b := (w.heap.size, 24, #[.int .i64 cap, .slice a l.length c])) (by simp) 0
  have d4_1 : w12.cell? ⟨w.heap.size, 1, none⟩ = some (.slice a l.length c) := S12.out.cell (b := (w.heap.size, 24, #[.int .i64 cap, .slice a l.length c])) (by simp) 1
  go_wp2_with fail
  refine (CH.out _ _ (PZB.out.marked _ _ (show MOwn w12 bzB VzB YzB from by have h := (S12.out.row ⟨bzB, 38, 4, VzB, XzB.length, mcells YzB⟩ (by simp)).1; unfold MOwn; rw [PZB.out.len]; exact h))).mono ?_
  clear d0_0 d0_1 d1_0 d1_1 d2_0 d2_1 d3_0 d3_1 d3_2 d3_3 d4_0 d4_1
  rintro e w13 ⟨rfl, b13⟩
  have S13 := Lib.hid (S12.out.below b13)
  clear b13 S12
  have d0_0 : w13.cell? ⟨GB, 0, none⟩ = some (.int .i64 rc) := S13.out.cell (b := (GB, 29, #[.int .i64 rc, .slice azB L.length czB])) (by simp) 0
  have d0_1 : w13.cell? ⟨GB, 1, none⟩ = some (.slice azB L.length czB) := S13.out.cell (b := (GB, 29, #[.int .i64 rc, .slice azB L.length czB])) (by simp) 1
  have d1_0 : w13.cell? ⟨G5, 0, none⟩ = some (.int .i64 cap) := S13.out.cell (b := (G5, 29, #[.int .i64 cap, .slice a4 l.length c4])) (by simp) 0
  have d1_1 : w13.cell? ⟨G5, 1, none⟩ = some (.slice a4 l.length c4) := S13.out.cell (b := (G5, 29, #[.int .i64 cap, .slice a4 l.length c4])) (by simp) 1
  have d2_0 : w13.cell? ⟨GA, 0, none⟩ = some (.int .i64 rc) := S13.out.cell (b := (GA, 29, #[.int .i64 rc, .slice azA L.length czA])) (by simp) 0
  have d2_1 : w13.cell? ⟨GA, 1, none⟩ = some (.slice azA L.length czA) := S13.out.cell (b := (GA, 29, #[.int .i64 rc, .slice azA L.length czA])) (by simp) 1
  have d3_0 : w13.cell? ⟨w.heap.size + 1, 0, none⟩ = some (.int .i64 x.1) := S13.out.cell (b := (w.heap.size + 1, 34, #[.int .i64 x.1, .int .i64 x.2.1, .string x.2.2.1, .int .i64 x.2.2.2])) (by simp) 0
  have d3_1 : w13.cell? ⟨w.heap.size + 1, 1, none⟩ = some (.int .i64 x.2.1) := S13.out.cell (b := (w.heap.size + 1, 34, #[.int .i64 x.1, .int .i64 x.2.1, .string x.2.2.1, .int .i64 x.2.2.2])) (by simp) 1
  have d3_2 : w13.cell? ⟨w.heap.size + 1, 2, none⟩ = some (.string x.2.2.1) := S13.out.cell (b := (w.heap.size + 1, 34, #[.int .i64 x.1, .int .i64 x.2.1, .string x.2.2.1, .int .i64 x.2.2.2])) (by simp) 2
  have d3_3 : w13.cell? ⟨w.heap.size + 1, 3, none⟩ = some (.int .i64 x.2.2.2) := S13.out.cell (b := (w.heap.size + 1, 34, #[.int .i64 x.1, .int .i64 x.2.1, .string x.2.2.1, .int .i64 x.2.2.2])) (by simp) 3
  have d4_0 : w13.cell? ⟨w.heap.size, 0, none⟩ = some (.int .i64 cap) := S13.out.cell (b := (w.heap.size, 24, #[.int .i64 cap, .slice a l.length c])) (by simp) 0
  have d4_1 : w13.cell? ⟨w.heap.size, 1, none⟩ = some (.slice a l.length c) := S13.out.cell (b := (w.heap.size, 24, #[.int .i64 cap, .slice a l.length c])) (by simp) 1
  go_wp2_with fail
  clear d0_0 d0_1 d1_0 d1_1 d2_0 d2_1 d3_0 d3_1 d3_2 d3_3 d4_0 d4_1
  refine (fun (tail : ?TC) => ?mainC) ?pfC
  case mainC =>
    have SD := S13.out.below (show Below w13.heap.size w13 w13.drew from (Below.refl _ _).drew)
    refine wp_region_held_drew (S := fun wx => wx.cell? ⟨GB, 0, none⟩ = some (.int .i64 rc) ∧ wx.cell? ⟨GB, 1, none⟩ = some (.slice azB L.length czB) ∧ wx.cell? ⟨G5, 0, none⟩ = some (.int .i64 cap) ∧ wx.cell? ⟨G5, 1, none⟩ = some (.slice a4 l.length c4) ∧ wx.cell? ⟨GA, 0, none⟩ = some (.int .i64 rc) ∧ wx.cell? ⟨GA, 1, none⟩ = some (.slice azA L.length czA) ∧ wx.cell? ⟨w.heap.size + 1, 0, none⟩ = some (.int .i64 x.1) ∧ wx.cell? ⟨w.heap.size + 1, 1, none⟩ = some (.int .i64 x.2.1) ∧ wx.cell? ⟨w.heap.size + 1, 2, none⟩ = some (.string x.2.2.1) ∧ wx.cell? ⟨w.heap.size + 1, 3, none⟩ = some (.int .i64 x.2.2.2) ∧ wx.cell? ⟨w.heap.size, 0, none⟩ = some (.int .i64 cap) ∧ wx.cell? ⟨w.heap.size, 1, none⟩ = some (.slice a l.length c)) (by kernel_rfl) ?_ (fun hHeld => ?_)
    · exact ⟨SD.cell (b := (GB, 29, #[.int .i64 rc, .slice azB L.length czB])) (by simp) 0, SD.cell (b := (GB, 29, #[.int .i64 rc, .slice azB L.length czB])) (by simp) 1, SD.cell (b := (G5, 29, #[.int .i64 cap, .slice a4 l.length c4])) (by simp) 0, SD.cell (b := (G5, 29, #[.int .i64 cap, .slice a4 l.length c4])) (by simp) 1, SD.cell (b := (GA, 29, #[.int .i64 rc, .slice azA L.length czA])) (by simp) 0, SD.cell (b := (GA, 29, #[.int .i64 rc, .slice azA L.length czA])) (by simp) 1, SD.cell (b := (w.heap.size + 1, 34, #[.int .i64 x.1, .int .i64 x.2.1, .string x.2.2.1, .int .i64 x.2.2.2])) (by simp) 0, SD.cell (b := (w.heap.size + 1, 34, #[.int .i64 x.1, .int .i64 x.2.1, .string x.2.2.1, .int .i64 x.2.2.2])) (by simp) 1, SD.cell (b := (w.heap.size + 1, 34, #[.int .i64 x.1, .int .i64 x.2.1, .string x.2.2.1, .int .i64 x.2.2.2])) (by simp) 2, SD.cell (b := (w.heap.size + 1, 34, #[.int .i64 x.1, .int .i64 x.2.1, .string x.2.2.1, .int .i64 x.2.2.2])) (by simp) 3, SD.cell (b := (w.heap.size, 24, #[.int .i64 cap, .slice a l.length c])) (by simp) 0, SD.cell (b := (w.heap.size, 24, #[.int .i64 cap, .slice a l.length c])) (by simp) 1⟩
    change wpAnyH _ _ _ _ _ 11 #[false, false, false, false, false, false, false, false, false, false, false] _ _
    have S14 := Lib.hid SD
    clear SD
    generalize w13.drew = w14 at S14 hHeld ⊢
    refine wpAnyH_take (i := 0) (v := ?_) rfl (by kernel_rfl) (by kernel_rfl) (by kernel_rfl) (fun _ _ _ h => h) (Or.inl ⟨by rfl, ?_⟩) (by assumption) ?_
    rotate_left
    · intro w hSw; (try dsimp only at hSw); go_simp; try with_reducible rfl
    try simp only [Act.put, List.getElem_toArray, List.getElem_cons_succ, List.getElem_cons_zero, List.setIfInBounds_toArray, List.set_cons_zero, List.set_cons_succ]
    refine wpAnyH_take (i := 2) (v := ?_) rfl (by kernel_rfl) (by kernel_rfl) (by kernel_rfl) (fun _ _ _ h => h) (Or.inl ⟨by rfl, ?_⟩) (by assumption) ?_
    rotate_left
    · intro w hSw; (try dsimp only at hSw); go_simp; try with_reducible rfl
    try simp only [Act.put, List.getElem_toArray, List.getElem_cons_succ, List.getElem_cons_zero, List.setIfInBounds_toArray, List.set_cons_zero, List.set_cons_succ]
    refine wpAnyH_ready (rs := [1, 8]) (by kernel_rfl) (by simp) (AllReadyH.cons rfl (fun K hK => ?_) (AllReadyH.cons rfl (fun K hK => ?_) AllReadyH.nil))
    · skip
      rw [if_pos (by rfl)]
      go_simp; go_at_call 8; refine (CT.out _ (HV.out.below S14.out.bw)).mono ?_; rintro e w15 ⟨ur, rfl, kr, b15⟩; have KR := Lib.hid (own_msgs_at kr); obtain ⟨ar, cr, hur⟩ := own_slice kr; subst hur; clear kr; have S15 := Lib.hid (S14.out.below b15); go_wp2_with fail
      refine hK.out _ _ ?_ (fun hHeld => ?_)
      · exact ⟨S15.out.cell (b := (GB, 29, #[.int .i64 rc, .slice azB L.length czB])) (by simp) 0, S15.out.cell (b := (GB, 29, #[.int .i64 rc, .slice azB L.length czB])) (by simp) 1, S15.out.cell (b := (G5, 29, #[.int .i64 cap, .slice a4 l.length c4])) (by simp) 0, S15.out.cell (b := (G5, 29, #[.int .i64 cap, .slice a4 l.length c4])) (by simp) 1, S15.out.cell (b := (GA, 29, #[.int .i64 rc, .slice azA L.length czA])) (by simp) 0, S15.out.cell (b := (GA, 29, #[.int .i64 rc, .slice azA L.length czA])) (by simp) 1, S15.out.cell (b := (w.heap.size + 1, 34, #[.int .i64 x.1, .int .i64 x.2.1, .string x.2.2.1, .int .i64 x.2.2.2])) (by simp) 0, S15.out.cell (b := (w.heap.size + 1, 34, #[.int .i64 x.1, .int .i64 x.2.1, .string x.2.2.1, .int .i64 x.2.2.2])) (by simp) 1, S15.out.cell (b := (w.heap.size + 1, 34, #[.int .i64 x.1, .int .i64 x.2.1, .string x.2.2.1, .int .i64 x.2.2.2])) (by simp) 2, S15.out.cell (b := (w.heap.size + 1, 34, #[.int .i64 x.1, .int .i64 x.2.1, .string x.2.2.1, .int .i64 x.2.2.2])) (by simp) 3, S15.out.cell (b := (w.heap.size, 24, #[.int .i64 cap, .slice a l.length c])) (by simp) 0, S15.out.cell (b := (w.heap.size, 24, #[.int .i64 cap, .slice a l.length c])) (by simp) 1⟩
      clear hK K
      try simp only [Act.put, List.getElem_toArray, List.getElem_cons_succ, List.getElem_cons_zero, List.setIfInBounds_toArray, List.set_cons_zero, List.set_cons_succ]
      clear b15 S14
      refine wpAnyH_ready (rs := [3, 8]) (by kernel_rfl) (by simp) (AllReadyH.cons rfl (fun K hK => ?_) (AllReadyH.cons rfl (fun K hK => ?_) AllReadyH.nil))
      · skip
        rw [if_pos (by rfl)]
        go_simp; go_at_call 13; refine (CU.out _).mono ?_; rintro e w16 ⟨rfl, b16⟩; replace KR := Lib.hid (KR.out.below b16); have S16 := Lib.hid (S15.out.below b16); go_wp2_with fail
        refine hK.out _ _ ?_ (fun hHeld => ?_)
        · exact ⟨S16.out.cell (b := (GB, 29, #[.int .i64 rc, .slice azB L.length czB])) (by simp) 0, S16.out.cell (b := (GB, 29, #[.int .i64 rc, .slice azB L.length czB])) (by simp) 1, S16.out.cell (b := (G5, 29, #[.int .i64 cap, .slice a4 l.length c4])) (by simp) 0, S16.out.cell (b := (G5, 29, #[.int .i64 cap, .slice a4 l.length c4])) (by simp) 1, S16.out.cell (b := (GA, 29, #[.int .i64 rc, .slice azA L.length czA])) (by simp) 0, S16.out.cell (b := (GA, 29, #[.int .i64 rc, .slice azA L.length czA])) (by simp) 1, S16.out.cell (b := (w.heap.size + 1, 34, #[.int .i64 x.1, .int .i64 x.2.1, .string x.2.2.1, .int .i64 x.2.2.2])) (by simp) 0, S16.out.cell (b := (w.heap.size + 1, 34, #[.int .i64 x.1, .int .i64 x.2.1, .string x.2.2.1, .int .i64 x.2.2.2])) (by simp) 1, S16.out.cell (b := (w.heap.size + 1, 34, #[.int .i64 x.1, .int .i64 x.2.1, .string x.2.2.1, .int .i64 x.2.2.2])) (by simp) 2, S16.out.cell (b := (w.heap.size + 1, 34, #[.int .i64 x.1, .int .i64 x.2.1, .string x.2.2.1, .int .i64 x.2.2.2])) (by simp) 3, S16.out.cell (b := (w.heap.size, 24, #[.int .i64 cap, .slice a l.length c])) (by simp) 0, S16.out.cell (b := (w.heap.size, 24, #[.int .i64 cap, .slice a l.length c])) (by simp) 1⟩
        clear hK K
        try simp only [Act.put, List.getElem_toArray, List.getElem_cons_succ, List.getElem_cons_zero, List.setIfInBounds_toArray, List.set_cons_zero, List.set_cons_succ]
        clear b16 S15
        refine wpAnyH_ready (rs := [4, 8]) (by kernel_rfl) (by simp) (AllReadyH.cons rfl (fun K hK => ?_) (AllReadyH.cons rfl (fun K hK => ?_) AllReadyH.nil))
        · skip
          rw [if_pos (by rfl)]
          go_simp; go_at_call 14; refine (CI.out _ _ KR.out ((S16.out.bw.cell hlt).trans HM.out)).mono ?_; rintro e w17 ⟨Vz, uz, prez, postz, rfl, kz, ptz, b17⟩; obtain ⟨Xz, Yz, hXz, pz⟩ := part_kitRK (rc := rc) (post := postz) ptz HL8.out HKY.out; obtain ⟨az, cz, huz⟩ := ptz.slice; subst huz; rw [hXz] at kz; have PZ := Lib.hid pz; clear hXz ptz prez postz pz; have S17 := Lib.hid (S16.out.pushRow b17 kz (by simp)); go_wp2_with fail
          refine hK.out _ _ ?_ (fun hHeld => ?_)
          · exact ⟨S17.out.cell (b := (GB, 29, #[.int .i64 rc, .slice azB L.length czB])) (by simp) 0, S17.out.cell (b := (GB, 29, #[.int .i64 rc, .slice azB L.length czB])) (by simp) 1, S17.out.cell (b := (G5, 29, #[.int .i64 cap, .slice a4 l.length c4])) (by simp) 0, S17.out.cell (b := (G5, 29, #[.int .i64 cap, .slice a4 l.length c4])) (by simp) 1, S17.out.cell (b := (GA, 29, #[.int .i64 rc, .slice azA L.length czA])) (by simp) 0, S17.out.cell (b := (GA, 29, #[.int .i64 rc, .slice azA L.length czA])) (by simp) 1, S17.out.cell (b := (w.heap.size + 1, 34, #[.int .i64 x.1, .int .i64 x.2.1, .string x.2.2.1, .int .i64 x.2.2.2])) (by simp) 0, S17.out.cell (b := (w.heap.size + 1, 34, #[.int .i64 x.1, .int .i64 x.2.1, .string x.2.2.1, .int .i64 x.2.2.2])) (by simp) 1, S17.out.cell (b := (w.heap.size + 1, 34, #[.int .i64 x.1, .int .i64 x.2.1, .string x.2.2.1, .int .i64 x.2.2.2])) (by simp) 2, S17.out.cell (b := (w.heap.size + 1, 34, #[.int .i64 x.1, .int .i64 x.2.1, .string x.2.2.1, .int .i64 x.2.2.2])) (by simp) 3, S17.out.cell (b := (w.heap.size, 24, #[.int .i64 cap, .slice a l.length c])) (by simp) 0, S17.out.cell (b := (w.heap.size, 24, #[.int .i64 cap, .slice a l.length c])) (by simp) 1⟩
          clear hK K
          try simp only [Act.put, List.getElem_toArray, List.getElem_cons_succ, List.getElem_cons_zero, List.setIfInBounds_toArray, List.set_cons_zero, List.set_cons_succ]
          clear b17 S16
          refine wpAnyH_take (i := 5) (v := ?_) rfl (by kernel_rfl) (by kernel_rfl) (by kernel_rfl) (fun _ _ _ h => h) (Or.inl ⟨by rfl, ?_⟩) (by assumption) ?_
          rotate_left
          · intro w hSw; (try dsimp only at hSw); go_simp; try with_reducible rfl
          try simp only [Act.put, List.getElem_toArray, List.getElem_cons_succ, List.getElem_cons_zero, List.setIfInBounds_toArray, List.set_cons_zero, List.set_cons_succ]
          refine wpAnyH_take (i := 6) (v := ?_) rfl (by kernel_rfl) (by kernel_rfl) (by kernel_rfl) (fun _ _ _ h => h) (Or.inl ⟨by rfl, ?_⟩) (by assumption) ?_
          rotate_left
          · intro w hSw; (try dsimp only at hSw); go_simp; try with_reducible rfl
          try simp only [Act.put, List.getElem_toArray, List.getElem_cons_succ, List.getElem_cons_zero, List.setIfInBounds_toArray, List.set_cons_zero, List.set_cons_succ]
          refine wpAnyH_take (i := 7) (v := ?_) rfl (by kernel_rfl) (by kernel_rfl) (by kernel_rfl) (fun _ _ _ h => h) (Or.inl ⟨by rfl, ?_⟩) (by assumption) ?_
          rotate_left
          · intro w hSw; (try dsimp only at hSw); go_simp; try with_reducible rfl
          try simp only [Act.put, List.getElem_toArray, List.getElem_cons_succ, List.getElem_cons_zero, List.setIfInBounds_toArray, List.set_cons_zero, List.set_cons_succ]
          have SA := Lib.hid (S17.out.pushBox 29 #[.int .i64 0, .slice none 0 0] (by simp))
          refine wpAnyH_ready (rs := [8]) (by kernel_rfl) (by simp) (AllReadyH.cons rfl (fun K hK => ?_) AllReadyH.nil)
          rw [if_pos (by rfl)]
          go_simp
          refine hK.out _ _ ?_ (fun hHeld => ?_)
          · exact ⟨SA.out.cell (b := (GB, 29, #[.int .i64 rc, .slice azB L.length czB])) (by simp) 0, SA.out.cell (b := (GB, 29, #[.int .i64 rc, .slice azB L.length czB])) (by simp) 1, SA.out.cell (b := (G5, 29, #[.int .i64 cap, .slice a4 l.length c4])) (by simp) 0, SA.out.cell (b := (G5, 29, #[.int .i64 cap, .slice a4 l.length c4])) (by simp) 1, SA.out.cell (b := (GA, 29, #[.int .i64 rc, .slice azA L.length czA])) (by simp) 0, SA.out.cell (b := (GA, 29, #[.int .i64 rc, .slice azA L.length czA])) (by simp) 1, SA.out.cell (b := (w.heap.size + 1, 34, #[.int .i64 x.1, .int .i64 x.2.1, .string x.2.2.1, .int .i64 x.2.2.2])) (by simp) 0, SA.out.cell (b := (w.heap.size + 1, 34, #[.int .i64 x.1, .int .i64 x.2.1, .string x.2.2.1, .int .i64 x.2.2.2])) (by simp) 1, SA.out.cell (b := (w.heap.size + 1, 34, #[.int .i64 x.1, .int .i64 x.2.1, .string x.2.2.1, .int .i64 x.2.2.2])) (by simp) 2, SA.out.cell (b := (w.heap.size + 1, 34, #[.int .i64 x.1, .int .i64 x.2.1, .string x.2.2.1, .int .i64 x.2.2.2])) (by simp) 3, SA.out.cell (b := (w.heap.size, 24, #[.int .i64 cap, .slice a l.length c])) (by simp) 0, SA.out.cell (b := (w.heap.size, 24, #[.int .i64 cap, .slice a l.length c])) (by simp) 1⟩
          clear hK K
          try simp only [Act.put, List.getElem_toArray, List.getElem_cons_succ, List.getElem_cons_zero, List.setIfInBounds_toArray, List.set_cons_zero, List.set_cons_succ]
          generalize w17.alloc (.cells #[.int .i64 0, .slice none 0 0] 29) = w18 at SA hHeld ⊢
          obtain ⟨G, hG⟩ : ∃ G, w17.heap.size = G := ⟨_, rfl⟩
          rw [hG] at SA ⊢
          clear hG S17
          have S18 := SA
          clear SA
          have z0 : w18.cell? ⟨G, 0, none⟩ = some (.int .i64 0) := S18.out.cell (b := (G, 29, #[.int .i64 0, .slice none 0 0])) (by simp) 0
          have z1 : w18.cell? ⟨G, 1, none⟩ = some (.slice none 0 0) := S18.out.cell (b := (G, 29, #[.int .i64 0, .slice none 0 0])) (by simp) 1
          have y0 : w18.frozen? ⟨G, 0, none⟩ = false := S18.out.frozen (b := (G, 29, #[.int .i64 0, .slice none 0 0])) (by simp) 0
          have y1 : w18.frozen? ⟨G, 1, none⟩ = false := S18.out.frozen (b := (G, 29, #[.int .i64 0, .slice none 0 0])) (by simp) 1
          have SE := (S18.out.store 0 (.int .i64 rc)).store 1 (.slice az L.length cz)
          simp only [List.setIfInBounds_toArray, List.set_cons_zero, List.set_cons_succ] at SE
          refine wpAnyH_ready (rs := [9]) (by kernel_rfl) (by simp) (AllReadyH.cons rfl (fun K hK => ?_) AllReadyH.nil)
          rw [if_pos (by rfl)]
          go_simp
          refine hK.out _ _ ?_ (fun hHeld => ?_)
          · exact ⟨SE.cell (b := (GB, 29, #[.int .i64 rc, .slice azB L.length czB])) (by simp) 0, SE.cell (b := (GB, 29, #[.int .i64 rc, .slice azB L.length czB])) (by simp) 1, SE.cell (b := (G5, 29, #[.int .i64 cap, .slice a4 l.length c4])) (by simp) 0, SE.cell (b := (G5, 29, #[.int .i64 cap, .slice a4 l.length c4])) (by simp) 1, SE.cell (b := (GA, 29, #[.int .i64 rc, .slice azA L.length czA])) (by simp) 0, SE.cell (b := (GA, 29, #[.int .i64 rc, .slice azA L.length czA])) (by simp) 1, SE.cell (b := (w.heap.size + 1, 34, #[.int .i64 x.1, .int .i64 x.2.1, .string x.2.2.1, .int .i64 x.2.2.2])) (by simp) 0, SE.cell (b := (w.heap.size + 1, 34, #[.int .i64 x.1, .int .i64 x.2.1, .string x.2.2.1, .int .i64 x.2.2.2])) (by simp) 1, SE.cell (b := (w.heap.size + 1, 34, #[.int .i64 x.1, .int .i64 x.2.1, .string x.2.2.1, .int .i64 x.2.2.2])) (by simp) 2, SE.cell (b := (w.heap.size + 1, 34, #[.int .i64 x.1, .int .i64 x.2.1, .string x.2.2.1, .int .i64 x.2.2.2])) (by simp) 3, SE.cell (b := (w.heap.size, 24, #[.int .i64 cap, .slice a l.length c])) (by simp) 0, SE.cell (b := (w.heap.size, 24, #[.int .i64 cap, .slice a l.length c])) (by simp) 1⟩
          clear hK K
          try simp only [Act.put, List.getElem_toArray, List.getElem_cons_succ, List.getElem_cons_zero, List.setIfInBounds_toArray, List.set_cons_zero, List.set_cons_succ]
          generalize (w18.setCell ⟨G, 0, none⟩ (.int .i64 rc)).setCell ⟨G, 1, none⟩ (.slice az L.length cz) = WW at SE hHeld ⊢
          refine wpAnyH_take (i := 10) (v := ?_) rfl (by kernel_rfl) (by kernel_rfl) (by kernel_rfl) (fun _ _ _ h => h) (Or.inl ⟨by rfl, ?_⟩) (by assumption) ?_
          rotate_left
          · intro w hSw; (try dsimp only at hSw); go_simp; try with_reducible rfl
          try simp only [Act.put, List.getElem_toArray, List.getElem_cons_succ, List.getElem_cons_zero, List.setIfInBounds_toArray, List.set_cons_zero, List.set_cons_succ]
          refine wpAnyH_done (by kernel_rfl) ?_ _
          clear hHeld z0 z1 y0 y1 S18
          obtain ⟨bz, hbz⟩ : ∃ b, w16.heap.size = b := ⟨_, rfl⟩
          rw [hbz] at SE
          clear hbz kz KR
          revert SE
          revert PZ
          revert ar cr Vz Xz Yz az cz G WW bz
          exact tail
        · skip
          have SA := Lib.hid (S16.out.pushBox 29 #[.int .i64 0, .slice none 0 0] (by simp))
          replace KR := Lib.hid (KR.out.alloc (.cells #[.int .i64 0, .slice none 0 0] 29))
          rw [if_pos (by rfl)]
          go_simp
          refine hK.out _ _ ?_ (fun hHeld => ?_)
          · exact ⟨SA.out.cell (b := (GB, 29, #[.int .i64 rc, .slice azB L.length czB])) (by simp) 0, SA.out.cell (b := (GB, 29, #[.int .i64 rc, .slice azB L.length czB])) (by simp) 1, SA.out.cell (b := (G5, 29, #[.int .i64 cap, .slice a4 l.length c4])) (by simp) 0, SA.out.cell (b := (G5, 29, #[.int .i64 cap, .slice a4 l.length c4])) (by simp) 1, SA.out.cell (b := (GA, 29, #[.int .i64 rc, .slice azA L.length czA])) (by simp) 0, SA.out.cell (b := (GA, 29, #[.int .i64 rc, .slice azA L.length czA])) (by simp) 1, SA.out.cell (b := (w.heap.size + 1, 34, #[.int .i64 x.1, .int .i64 x.2.1, .string x.2.2.1, .int .i64 x.2.2.2])) (by simp) 0, SA.out.cell (b := (w.heap.size + 1, 34, #[.int .i64 x.1, .int .i64 x.2.1, .string x.2.2.1, .int .i64 x.2.2.2])) (by simp) 1, SA.out.cell (b := (w.heap.size + 1, 34, #[.int .i64 x.1, .int .i64 x.2.1, .string x.2.2.1, .int .i64 x.2.2.2])) (by simp) 2, SA.out.cell (b := (w.heap.size + 1, 34, #[.int .i64 x.1, .int .i64 x.2.1, .string x.2.2.1, .int .i64 x.2.2.2])) (by simp) 3, SA.out.cell (b := (w.heap.size, 24, #[.int .i64 cap, .slice a l.length c])) (by simp) 0, SA.out.cell (b := (w.heap.size, 24, #[.int .i64 cap, .slice a l.length c])) (by simp) 1⟩
          clear hK K
          try simp only [Act.put, List.getElem_toArray, List.getElem_cons_succ, List.getElem_cons_zero, List.setIfInBounds_toArray, List.set_cons_zero, List.set_cons_succ]
          generalize w16.alloc (.cells #[.int .i64 0, .slice none 0 0] 29) = w17 at SA hHeld KR ⊢
          obtain ⟨G, hG⟩ : ∃ G, w16.heap.size = G := ⟨_, rfl⟩
          rw [hG] at SA ⊢
          clear hG S16
          have S17 := SA
          clear SA
          refine wpAnyH_ready (rs := [4]) (by kernel_rfl) (by simp) (AllReadyH.cons rfl (fun K hK => ?_) AllReadyH.nil)
          rw [if_pos (by rfl)]
          go_simp; go_at_call 14; refine (CI.out _ _ KR.out ((S17.out.bw.cell hlt).trans HM.out)).mono ?_; rintro e w18 ⟨Vz, uz, prez, postz, rfl, kz, ptz, b18⟩; obtain ⟨Xz, Yz, hXz, pz⟩ := part_kitRK (rc := rc) (post := postz) ptz HL8.out HKY.out; obtain ⟨az, cz, huz⟩ := ptz.slice; subst huz; rw [hXz] at kz; have PZ := Lib.hid pz; clear hXz ptz prez postz pz; have S18 := Lib.hid (S17.out.pushRow b18 kz (by simp)); go_wp2_with fail
          refine hK.out _ _ ?_ (fun hHeld => ?_)
          · exact ⟨S18.out.cell (b := (GB, 29, #[.int .i64 rc, .slice azB L.length czB])) (by simp) 0, S18.out.cell (b := (GB, 29, #[.int .i64 rc, .slice azB L.length czB])) (by simp) 1, S18.out.cell (b := (G5, 29, #[.int .i64 cap, .slice a4 l.length c4])) (by simp) 0, S18.out.cell (b := (G5, 29, #[.int .i64 cap, .slice a4 l.length c4])) (by simp) 1, S18.out.cell (b := (GA, 29, #[.int .i64 rc, .slice azA L.length czA])) (by simp) 0, S18.out.cell (b := (GA, 29, #[.int .i64 rc, .slice azA L.length czA])) (by simp) 1, S18.out.cell (b := (w.heap.size + 1, 34, #[.int .i64 x.1, .int .i64 x.2.1, .string x.2.2.1, .int .i64 x.2.2.2])) (by simp) 0, S18.out.cell (b := (w.heap.size + 1, 34, #[.int .i64 x.1, .int .i64 x.2.1, .string x.2.2.1, .int .i64 x.2.2.2])) (by simp) 1, S18.out.cell (b := (w.heap.size + 1, 34, #[.int .i64 x.1, .int .i64 x.2.1, .string x.2.2.1, .int .i64 x.2.2.2])) (by simp) 2, S18.out.cell (b := (w.heap.size + 1, 34, #[.int .i64 x.1, .int .i64 x.2.1, .string x.2.2.1, .int .i64 x.2.2.2])) (by simp) 3, S18.out.cell (b := (w.heap.size, 24, #[.int .i64 cap, .slice a l.length c])) (by simp) 0, S18.out.cell (b := (w.heap.size, 24, #[.int .i64 cap, .slice a l.length c])) (by simp) 1⟩
          clear hK K
          try simp only [Act.put, List.getElem_toArray, List.getElem_cons_succ, List.getElem_cons_zero, List.setIfInBounds_toArray, List.set_cons_zero, List.set_cons_succ]
          clear b18 S17
          refine wpAnyH_take (i := 5) (v := ?_) rfl (by kernel_rfl) (by kernel_rfl) (by kernel_rfl) (fun _ _ _ h => h) (Or.inl ⟨by rfl, ?_⟩) (by assumption) ?_
          rotate_left
          · intro w hSw; (try dsimp only at hSw); go_simp; try with_reducible rfl
          try simp only [Act.put, List.getElem_toArray, List.getElem_cons_succ, List.getElem_cons_zero, List.setIfInBounds_toArray, List.set_cons_zero, List.set_cons_succ]
          refine wpAnyH_take (i := 6) (v := ?_) rfl (by kernel_rfl) (by kernel_rfl) (by kernel_rfl) (fun _ _ _ h => h) (Or.inl ⟨by rfl, ?_⟩) (by assumption) ?_
          rotate_left
          · intro w hSw; (try dsimp only at hSw); go_simp; try with_reducible rfl
          try simp only [Act.put, List.getElem_toArray, List.getElem_cons_succ, List.getElem_cons_zero, List.setIfInBounds_toArray, List.set_cons_zero, List.set_cons_succ]
          refine wpAnyH_take (i := 7) (v := ?_) rfl (by kernel_rfl) (by kernel_rfl) (by kernel_rfl) (fun _ _ _ h => h) (Or.inl ⟨by rfl, ?_⟩) (by assumption) ?_
          rotate_left
          · intro w hSw; (try dsimp only at hSw); go_simp; try with_reducible rfl
          try simp only [Act.put, List.getElem_toArray, List.getElem_cons_succ, List.getElem_cons_zero, List.setIfInBounds_toArray, List.set_cons_zero, List.set_cons_succ]
          have z0 : w18.cell? ⟨G, 0, none⟩ = some (.int .i64 0) := S18.out.cell (b := (G, 29, #[.int .i64 0, .slice none 0 0])) (by simp) 0
          have z1 : w18.cell? ⟨G, 1, none⟩ = some (.slice none 0 0) := S18.out.cell (b := (G, 29, #[.int .i64 0, .slice none 0 0])) (by simp) 1
          have y0 : w18.frozen? ⟨G, 0, none⟩ = false := S18.out.frozen (b := (G, 29, #[.int .i64 0, .slice none 0 0])) (by simp) 0
          have y1 : w18.frozen? ⟨G, 1, none⟩ = false := S18.out.frozen (b := (G, 29, #[.int .i64 0, .slice none 0 0])) (by simp) 1
          have SE := (S18.out.store 0 (.int .i64 rc)).store 1 (.slice az L.length cz)
          simp only [List.setIfInBounds_toArray, List.set_cons_zero, List.set_cons_succ] at SE
          refine wpAnyH_ready (rs := [9]) (by kernel_rfl) (by simp) (AllReadyH.cons rfl (fun K hK => ?_) AllReadyH.nil)
          rw [if_pos (by rfl)]
          go_simp
          refine hK.out _ _ ?_ (fun hHeld => ?_)
          · exact ⟨SE.cell (b := (GB, 29, #[.int .i64 rc, .slice azB L.length czB])) (by simp) 0, SE.cell (b := (GB, 29, #[.int .i64 rc, .slice azB L.length czB])) (by simp) 1, SE.cell (b := (G5, 29, #[.int .i64 cap, .slice a4 l.length c4])) (by simp) 0, SE.cell (b := (G5, 29, #[.int .i64 cap, .slice a4 l.length c4])) (by simp) 1, SE.cell (b := (GA, 29, #[.int .i64 rc, .slice azA L.length czA])) (by simp) 0, SE.cell (b := (GA, 29, #[.int .i64 rc, .slice azA L.length czA])) (by simp) 1, SE.cell (b := (w.heap.size + 1, 34, #[.int .i64 x.1, .int .i64 x.2.1, .string x.2.2.1, .int .i64 x.2.2.2])) (by simp) 0, SE.cell (b := (w.heap.size + 1, 34, #[.int .i64 x.1, .int .i64 x.2.1, .string x.2.2.1, .int .i64 x.2.2.2])) (by simp) 1, SE.cell (b := (w.heap.size + 1, 34, #[.int .i64 x.1, .int .i64 x.2.1, .string x.2.2.1, .int .i64 x.2.2.2])) (by simp) 2, SE.cell (b := (w.heap.size + 1, 34, #[.int .i64 x.1, .int .i64 x.2.1, .string x.2.2.1, .int .i64 x.2.2.2])) (by simp) 3, SE.cell (b := (w.heap.size, 24, #[.int .i64 cap, .slice a l.length c])) (by simp) 0, SE.cell (b := (w.heap.size, 24, #[.int .i64 cap, .slice a l.length c])) (by simp) 1⟩
          clear hK K
          try simp only [Act.put, List.getElem_toArray, List.getElem_cons_succ, List.getElem_cons_zero, List.setIfInBounds_toArray, List.set_cons_zero, List.set_cons_succ]
          generalize (w18.setCell ⟨G, 0, none⟩ (.int .i64 rc)).setCell ⟨G, 1, none⟩ (.slice az L.length cz) = WW at SE hHeld ⊢
          refine wpAnyH_take (i := 10) (v := ?_) rfl (by kernel_rfl) (by kernel_rfl) (by kernel_rfl) (fun _ _ _ h => h) (Or.inl ⟨by rfl, ?_⟩) (by assumption) ?_
          rotate_left
          · intro w hSw; (try dsimp only at hSw); go_simp; try with_reducible rfl
          try simp only [Act.put, List.getElem_toArray, List.getElem_cons_succ, List.getElem_cons_zero, List.setIfInBounds_toArray, List.set_cons_zero, List.set_cons_succ]
          refine wpAnyH_done (by kernel_rfl) ?_ _
          clear hHeld z0 z1 y0 y1 S18
          obtain ⟨bz, hbz⟩ : ∃ b, w17.heap.size = b := ⟨_, rfl⟩
          rw [hbz] at SE
          clear hbz kz KR
          exact tail _ _ _ _ _ _ _ _ _ _ PZ SE
      · skip
        have SA := Lib.hid (S15.out.pushBox 29 #[.int .i64 0, .slice none 0 0] (by simp))
        replace KR := Lib.hid (KR.out.alloc (.cells #[.int .i64 0, .slice none 0 0] 29))
        rw [if_pos (by rfl)]
        go_simp
        refine hK.out _ _ ?_ (fun hHeld => ?_)
        · exact ⟨SA.out.cell (b := (GB, 29, #[.int .i64 rc, .slice azB L.length czB])) (by simp) 0, SA.out.cell (b := (GB, 29, #[.int .i64 rc, .slice azB L.length czB])) (by simp) 1, SA.out.cell (b := (G5, 29, #[.int .i64 cap, .slice a4 l.length c4])) (by simp) 0, SA.out.cell (b := (G5, 29, #[.int .i64 cap, .slice a4 l.length c4])) (by simp) 1, SA.out.cell (b := (GA, 29, #[.int .i64 rc, .slice azA L.length czA])) (by simp) 0, SA.out.cell (b := (GA, 29, #[.int .i64 rc, .slice azA L.length czA])) (by simp) 1, SA.out.cell (b := (w.heap.size + 1, 34, #[.int .i64 x.1, .int .i64 x.2.1, .string x.2.2.1, .int .i64 x.2.2.2])) (by simp) 0, SA.out.cell (b := (w.heap.size + 1, 34, #[.int .i64 x.1, .int .i64 x.2.1, .string x.2.2.1, .int .i64 x.2.2.2])) (by simp) 1, SA.out.cell (b := (w.heap.size + 1, 34, #[.int .i64 x.1, .int .i64 x.2.1, .string x.2.2.1, .int .i64 x.2.2.2])) (by simp) 2, SA.out.cell (b := (w.heap.size + 1, 34, #[.int .i64 x.1, .int .i64 x.2.1, .string x.2.2.1, .int .i64 x.2.2.2])) (by simp) 3, SA.out.cell (b := (w.heap.size, 24, #[.int .i64 cap, .slice a l.length c])) (by simp) 0, SA.out.cell (b := (w.heap.size, 24, #[.int .i64 cap, .slice a l.length c])) (by simp) 1⟩
        clear hK K
        try simp only [Act.put, List.getElem_toArray, List.getElem_cons_succ, List.getElem_cons_zero, List.setIfInBounds_toArray, List.set_cons_zero, List.set_cons_succ]
        generalize w15.alloc (.cells #[.int .i64 0, .slice none 0 0] 29) = w16 at SA hHeld KR ⊢
        obtain ⟨G, hG⟩ : ∃ G, w15.heap.size = G := ⟨_, rfl⟩
        rw [hG] at SA ⊢
        clear hG S15
        have S16 := SA
        clear SA
        refine wpAnyH_ready (rs := [3]) (by kernel_rfl) (by simp) (AllReadyH.cons rfl (fun K hK => ?_) AllReadyH.nil)
        rw [if_pos (by rfl)]
        go_simp; go_at_call 13; refine (CU.out _).mono ?_; rintro e w17 ⟨rfl, b17⟩; replace KR := Lib.hid (KR.out.below b17); have S17 := Lib.hid (S16.out.below b17); go_wp2_with fail
        refine hK.out _ _ ?_ (fun hHeld => ?_)
        · exact ⟨S17.out.cell (b := (GB, 29, #[.int .i64 rc, .slice azB L.length czB])) (by simp) 0, S17.out.cell (b := (GB, 29, #[.int .i64 rc, .slice azB L.length czB])) (by simp) 1, S17.out.cell (b := (G5, 29, #[.int .i64 cap, .slice a4 l.length c4])) (by simp) 0, S17.out.cell (b := (G5, 29, #[.int .i64 cap, .slice a4 l.length c4])) (by simp) 1, S17.out.cell (b := (GA, 29, #[.int .i64 rc, .slice azA L.length czA])) (by simp) 0, S17.out.cell (b := (GA, 29, #[.int .i64 rc, .slice azA L.length czA])) (by simp) 1, S17.out.cell (b := (w.heap.size + 1, 34, #[.int .i64 x.1, .int .i64 x.2.1, .string x.2.2.1, .int .i64 x.2.2.2])) (by simp) 0, S17.out.cell (b := (w.heap.size + 1, 34, #[.int .i64 x.1, .int .i64 x.2.1, .string x.2.2.1, .int .i64 x.2.2.2])) (by simp) 1, S17.out.cell (b := (w.heap.size + 1, 34, #[.int .i64 x.1, .int .i64 x.2.1, .string x.2.2.1, .int .i64 x.2.2.2])) (by simp) 2, S17.out.cell (b := (w.heap.size + 1, 34, #[.int .i64 x.1, .int .i64 x.2.1, .string x.2.2.1, .int .i64 x.2.2.2])) (by simp) 3, S17.out.cell (b := (w.heap.size, 24, #[.int .i64 cap, .slice a l.length c])) (by simp) 0, S17.out.cell (b := (w.heap.size, 24, #[.int .i64 cap, .slice a l.length c])) (by simp) 1⟩
        clear hK K
        try simp only [Act.put, List.getElem_toArray, List.getElem_cons_succ, List.getElem_cons_zero, List.setIfInBounds_toArray, List.set_cons_zero, List.set_cons_succ]
        clear b17 S16
        refine wpAnyH_ready (rs := [4]) (by kernel_rfl) (by simp) (AllReadyH.cons rfl (fun K hK => ?_) AllReadyH.nil)
        rw [if_pos (by rfl)]
        go_simp; go_at_call 14; refine (CI.out _ _ KR.out ((S17.out.bw.cell hlt).trans HM.out)).mono ?_; rintro e w18 ⟨Vz, uz, prez, postz, rfl, kz, ptz, b18⟩; obtain ⟨Xz, Yz, hXz, pz⟩ := part_kitRK (rc := rc) (post := postz) ptz HL8.out HKY.out; obtain ⟨az, cz, huz⟩ := ptz.slice; subst huz; rw [hXz] at kz; have PZ := Lib.hid pz; clear hXz ptz prez postz pz; have S18 := Lib.hid (S17.out.pushRow b18 kz (by simp)); go_wp2_with fail
        refine hK.out _ _ ?_ (fun hHeld => ?_)
        · exact ⟨S18.out.cell (b := (GB, 29, #[.int .i64 rc, .slice azB L.length czB])) (by simp) 0, S18.out.cell (b := (GB, 29, #[.int .i64 rc, .slice azB L.length czB])) (by simp) 1, S18.out.cell (b := (G5, 29, #[.int .i64 cap, .slice a4 l.length c4])) (by simp) 0, S18.out.cell (b := (G5, 29, #[.int .i64 cap, .slice a4 l.length c4])) (by simp) 1, S18.out.cell (b := (GA, 29, #[.int .i64 rc, .slice azA L.length czA])) (by simp) 0, S18.out.cell (b := (GA, 29, #[.int .i64 rc, .slice azA L.length czA])) (by simp) 1, S18.out.cell (b := (w.heap.size + 1, 34, #[.int .i64 x.1, .int .i64 x.2.1, .string x.2.2.1, .int .i64 x.2.2.2])) (by simp) 0, S18.out.cell (b := (w.heap.size + 1, 34, #[.int .i64 x.1, .int .i64 x.2.1, .string x.2.2.1, .int .i64 x.2.2.2])) (by simp) 1, S18.out.cell (b := (w.heap.size + 1, 34, #[.int .i64 x.1, .int .i64 x.2.1, .string x.2.2.1, .int .i64 x.2.2.2])) (by simp) 2, S18.out.cell (b := (w.heap.size + 1, 34, #[.int .i64 x.1, .int .i64 x.2.1, .string x.2.2.1, .int .i64 x.2.2.2])) (by simp) 3, S18.out.cell (b := (w.heap.size, 24, #[.int .i64 cap, .slice a l.length c])) (by simp) 0, S18.out.cell (b := (w.heap.size, 24, #[.int .i64 cap, .slice a l.length c])) (by simp) 1⟩
        clear hK K
        try simp only [Act.put, List.getElem_toArray, List.getElem_cons_succ, List.getElem_cons_zero, List.setIfInBounds_toArray, List.set_cons_zero, List.set_cons_succ]
        clear b18 S17
        refine wpAnyH_take (i := 5) (v := ?_) rfl (by kernel_rfl) (by kernel_rfl) (by kernel_rfl) (fun _ _ _ h => h) (Or.inl ⟨by rfl, ?_⟩) (by assumption) ?_
        rotate_left
        · intro w hSw; (try dsimp only at hSw); go_simp; try with_reducible rfl
        try simp only [Act.put, List.getElem_toArray, List.getElem_cons_succ, List.getElem_cons_zero, List.setIfInBounds_toArray, List.set_cons_zero, List.set_cons_succ]
        refine wpAnyH_take (i := 6) (v := ?_) rfl (by kernel_rfl) (by kernel_rfl) (by kernel_rfl) (fun _ _ _ h => h) (Or.inl ⟨by rfl, ?_⟩) (by assumption) ?_
        rotate_left
        · intro w hSw; (try dsimp only at hSw); go_simp; try with_reducible rfl
        try simp only [Act.put, List.getElem_toArray, List.getElem_cons_succ, List.getElem_cons_zero, List.setIfInBounds_toArray, List.set_cons_zero, List.set_cons_succ]
        refine wpAnyH_take (i := 7) (v := ?_) rfl (by kernel_rfl) (by kernel_rfl) (by kernel_rfl) (fun _ _ _ h => h) (Or.inl ⟨by rfl, ?_⟩) (by assumption) ?_
        rotate_left
        · intro w hSw; (try dsimp only at hSw); go_simp; try with_reducible rfl
        try simp only [Act.put, List.getElem_toArray, List.getElem_cons_succ, List.getElem_cons_zero, List.setIfInBounds_toArray, List.set_cons_zero, List.set_cons_succ]
        have z0 : w18.cell? ⟨G, 0, none⟩ = some (.int .i64 0) := S18.out.cell (b := (G, 29, #[.int .i64 0, .slice none 0 0])) (by simp) 0
        have z1 : w18.cell? ⟨G, 1, none⟩ = some (.slice none 0 0) := S18.out.cell (b := (G, 29, #[.int .i64 0, .slice none 0 0])) (by simp) 1
        have y0 : w18.frozen? ⟨G, 0, none⟩ = false := S18.out.frozen (b := (G, 29, #[.int .i64 0, .slice none 0 0])) (by simp) 0
        have y1 : w18.frozen? ⟨G, 1, none⟩ = false := S18.out.frozen (b := (G, 29, #[.int .i64 0, .slice none 0 0])) (by simp) 1
        have SE := (S18.out.store 0 (.int .i64 rc)).store 1 (.slice az L.length cz)
        simp only [List.setIfInBounds_toArray, List.set_cons_zero, List.set_cons_succ] at SE
        refine wpAnyH_ready (rs := [9]) (by kernel_rfl) (by simp) (AllReadyH.cons rfl (fun K hK => ?_) AllReadyH.nil)
        rw [if_pos (by rfl)]
        go_simp
        refine hK.out _ _ ?_ (fun hHeld => ?_)
        · exact ⟨SE.cell (b := (GB, 29, #[.int .i64 rc, .slice azB L.length czB])) (by simp) 0, SE.cell (b := (GB, 29, #[.int .i64 rc, .slice azB L.length czB])) (by simp) 1, SE.cell (b := (G5, 29, #[.int .i64 cap, .slice a4 l.length c4])) (by simp) 0, SE.cell (b := (G5, 29, #[.int .i64 cap, .slice a4 l.length c4])) (by simp) 1, SE.cell (b := (GA, 29, #[.int .i64 rc, .slice azA L.length czA])) (by simp) 0, SE.cell (b := (GA, 29, #[.int .i64 rc, .slice azA L.length czA])) (by simp) 1, SE.cell (b := (w.heap.size + 1, 34, #[.int .i64 x.1, .int .i64 x.2.1, .string x.2.2.1, .int .i64 x.2.2.2])) (by simp) 0, SE.cell (b := (w.heap.size + 1, 34, #[.int .i64 x.1, .int .i64 x.2.1, .string x.2.2.1, .int .i64 x.2.2.2])) (by simp) 1, SE.cell (b := (w.heap.size + 1, 34, #[.int .i64 x.1, .int .i64 x.2.1, .string x.2.2.1, .int .i64 x.2.2.2])) (by simp) 2, SE.cell (b := (w.heap.size + 1, 34, #[.int .i64 x.1, .int .i64 x.2.1, .string x.2.2.1, .int .i64 x.2.2.2])) (by simp) 3, SE.cell (b := (w.heap.size, 24, #[.int .i64 cap, .slice a l.length c])) (by simp) 0, SE.cell (b := (w.heap.size, 24, #[.int .i64 cap, .slice a l.length c])) (by simp) 1⟩
        clear hK K
        try simp only [Act.put, List.getElem_toArray, List.getElem_cons_succ, List.getElem_cons_zero, List.setIfInBounds_toArray, List.set_cons_zero, List.set_cons_succ]
        generalize (w18.setCell ⟨G, 0, none⟩ (.int .i64 rc)).setCell ⟨G, 1, none⟩ (.slice az L.length cz) = WW at SE hHeld ⊢
        refine wpAnyH_take (i := 10) (v := ?_) rfl (by kernel_rfl) (by kernel_rfl) (by kernel_rfl) (fun _ _ _ h => h) (Or.inl ⟨by rfl, ?_⟩) (by assumption) ?_
        rotate_left
        · intro w hSw; (try dsimp only at hSw); go_simp; try with_reducible rfl
        try simp only [Act.put, List.getElem_toArray, List.getElem_cons_succ, List.getElem_cons_zero, List.setIfInBounds_toArray, List.set_cons_zero, List.set_cons_succ]
        refine wpAnyH_done (by kernel_rfl) ?_ _
        clear hHeld z0 z1 y0 y1 S18
        obtain ⟨bz, hbz⟩ : ∃ b, w17.heap.size = b := ⟨_, rfl⟩
        rw [hbz] at SE
        clear hbz kz KR
        exact tail _ _ _ _ _ _ _ _ _ _ PZ SE
    · skip
      have SA := Lib.hid (S14.out.pushBox 29 #[.int .i64 0, .slice none 0 0] (by simp))
      rw [if_pos (by rfl)]
      go_simp
      refine hK.out _ _ ?_ (fun hHeld => ?_)
      · exact ⟨SA.out.cell (b := (GB, 29, #[.int .i64 rc, .slice azB L.length czB])) (by simp) 0, SA.out.cell (b := (GB, 29, #[.int .i64 rc, .slice azB L.length czB])) (by simp) 1, SA.out.cell (b := (G5, 29, #[.int .i64 cap, .slice a4 l.length c4])) (by simp) 0, SA.out.cell (b := (G5, 29, #[.int .i64 cap, .slice a4 l.length c4])) (by simp) 1, SA.out.cell (b := (GA, 29, #[.int .i64 rc, .slice azA L.length czA])) (by simp) 0, SA.out.cell (b := (GA, 29, #[.int .i64 rc, .slice azA L.length czA])) (by simp) 1, SA.out.cell (b := (w.heap.size + 1, 34, #[.int .i64 x.1, .int .i64 x.2.1, .string x.2.2.1, .int .i64 x.2.2.2])) (by simp) 0, SA.out.cell (b := (w.heap.size + 1, 34, #[.int .i64 x.1, .int .i64 x.2.1, .string x.2.2.1, .int .i64 x.2.2.2])) (by simp) 1, SA.out.cell (b := (w.heap.size + 1, 34, #[.int .i64 x.1, .int .i64 x.2.1, .string x.2.2.1, .int .i64 x.2.2.2])) (by simp) 2, SA.out.cell (b := (w.heap.size + 1, 34, #[.int .i64 x.1, .int .i64 x.2.1, .string x.2.2.1, .int .i64 x.2.2.2])) (by simp) 3, SA.out.cell (b := (w.heap.size, 24, #[.int .i64 cap, .slice a l.length c])) (by simp) 0, SA.out.cell (b := (w.heap.size, 24, #[.int .i64 cap, .slice a l.length c])) (by simp) 1⟩
      clear hK K
      try simp only [Act.put, List.getElem_toArray, List.getElem_cons_succ, List.getElem_cons_zero, List.setIfInBounds_toArray, List.set_cons_zero, List.set_cons_succ]
      generalize w14.alloc (.cells #[.int .i64 0, .slice none 0 0] 29) = w15 at SA hHeld ⊢
      obtain ⟨G, hG⟩ : ∃ G, w14.heap.size = G := ⟨_, rfl⟩
      rw [hG] at SA ⊢
      clear hG S14
      have S15 := SA
      clear SA
      refine wpAnyH_ready (rs := [1]) (by kernel_rfl) (by simp) (AllReadyH.cons rfl (fun K hK => ?_) AllReadyH.nil)
      rw [if_pos (by rfl)]
      go_simp; go_at_call 8; refine (CT.out _ (HV.out.below S15.out.bw)).mono ?_; rintro e w16 ⟨ur, rfl, kr, b16⟩; have KR := Lib.hid (own_msgs_at kr); obtain ⟨ar, cr, hur⟩ := own_slice kr; subst hur; clear kr; have S16 := Lib.hid (S15.out.below b16); go_wp2_with fail
      refine hK.out _ _ ?_ (fun hHeld => ?_)
      · exact ⟨S16.out.cell (b := (GB, 29, #[.int .i64 rc, .slice azB L.length czB])) (by simp) 0, S16.out.cell (b := (GB, 29, #[.int .i64 rc, .slice azB L.length czB])) (by simp) 1, S16.out.cell (b := (G5, 29, #[.int .i64 cap, .slice a4 l.length c4])) (by simp) 0, S16.out.cell (b := (G5, 29, #[.int .i64 cap, .slice a4 l.length c4])) (by simp) 1, S16.out.cell (b := (GA, 29, #[.int .i64 rc, .slice azA L.length czA])) (by simp) 0, S16.out.cell (b := (GA, 29, #[.int .i64 rc, .slice azA L.length czA])) (by simp) 1, S16.out.cell (b := (w.heap.size + 1, 34, #[.int .i64 x.1, .int .i64 x.2.1, .string x.2.2.1, .int .i64 x.2.2.2])) (by simp) 0, S16.out.cell (b := (w.heap.size + 1, 34, #[.int .i64 x.1, .int .i64 x.2.1, .string x.2.2.1, .int .i64 x.2.2.2])) (by simp) 1, S16.out.cell (b := (w.heap.size + 1, 34, #[.int .i64 x.1, .int .i64 x.2.1, .string x.2.2.1, .int .i64 x.2.2.2])) (by simp) 2, S16.out.cell (b := (w.heap.size + 1, 34, #[.int .i64 x.1, .int .i64 x.2.1, .string x.2.2.1, .int .i64 x.2.2.2])) (by simp) 3, S16.out.cell (b := (w.heap.size, 24, #[.int .i64 cap, .slice a l.length c])) (by simp) 0, S16.out.cell (b := (w.heap.size, 24, #[.int .i64 cap, .slice a l.length c])) (by simp) 1⟩
      clear hK K
      try simp only [Act.put, List.getElem_toArray, List.getElem_cons_succ, List.getElem_cons_zero, List.setIfInBounds_toArray, List.set_cons_zero, List.set_cons_succ]
      clear b16 S15
      refine wpAnyH_ready (rs := [3]) (by kernel_rfl) (by simp) (AllReadyH.cons rfl (fun K hK => ?_) AllReadyH.nil)
      rw [if_pos (by rfl)]
      go_simp; go_at_call 13; refine (CU.out _).mono ?_; rintro e w17 ⟨rfl, b17⟩; replace KR := Lib.hid (KR.out.below b17); have S17 := Lib.hid (S16.out.below b17); go_wp2_with fail
      refine hK.out _ _ ?_ (fun hHeld => ?_)
      · exact ⟨S17.out.cell (b := (GB, 29, #[.int .i64 rc, .slice azB L.length czB])) (by simp) 0, S17.out.cell (b := (GB, 29, #[.int .i64 rc, .slice azB L.length czB])) (by simp) 1, S17.out.cell (b := (G5, 29, #[.int .i64 cap, .slice a4 l.length c4])) (by simp) 0, S17.out.cell (b := (G5, 29, #[.int .i64 cap, .slice a4 l.length c4])) (by simp) 1, S17.out.cell (b := (GA, 29, #[.int .i64 rc, .slice azA L.length czA])) (by simp) 0, S17.out.cell (b := (GA, 29, #[.int .i64 rc, .slice azA L.length czA])) (by simp) 1, S17.out.cell (b := (w.heap.size + 1, 34, #[.int .i64 x.1, .int .i64 x.2.1, .string x.2.2.1, .int .i64 x.2.2.2])) (by simp) 0, S17.out.cell (b := (w.heap.size + 1, 34, #[.int .i64 x.1, .int .i64 x.2.1, .string x.2.2.1, .int .i64 x.2.2.2])) (by simp) 1, S17.out.cell (b := (w.heap.size + 1, 34, #[.int .i64 x.1, .int .i64 x.2.1, .string x.2.2.1, .int .i64 x.2.2.2])) (by simp) 2, S17.out.cell (b := (w.heap.size + 1, 34, #[.int .i64 x.1, .int .i64 x.2.1, .string x.2.2.1, .int .i64 x.2.2.2])) (by simp) 3, S17.out.cell (b := (w.heap.size, 24, #[.int .i64 cap, .slice a l.length c])) (by simp) 0, S17.out.cell (b := (w.heap.size, 24, #[.int .i64 cap, .slice a l.length c])) (by simp) 1⟩
      clear hK K
      try simp only [Act.put, List.getElem_toArray, List.getElem_cons_succ, List.getElem_cons_zero, List.setIfInBounds_toArray, List.set_cons_zero, List.set_cons_succ]
      clear b17 S16
      refine wpAnyH_ready (rs := [4]) (by kernel_rfl) (by simp) (AllReadyH.cons rfl (fun K hK => ?_) AllReadyH.nil)
      rw [if_pos (by rfl)]
      go_simp; go_at_call 14; refine (CI.out _ _ KR.out ((S17.out.bw.cell hlt).trans HM.out)).mono ?_; rintro e w18 ⟨Vz, uz, prez, postz, rfl, kz, ptz, b18⟩; obtain ⟨Xz, Yz, hXz, pz⟩ := part_kitRK (rc := rc) (post := postz) ptz HL8.out HKY.out; obtain ⟨az, cz, huz⟩ := ptz.slice; subst huz; rw [hXz] at kz; have PZ := Lib.hid pz; clear hXz ptz prez postz pz; have S18 := Lib.hid (S17.out.pushRow b18 kz (by simp)); go_wp2_with fail
      refine hK.out _ _ ?_ (fun hHeld => ?_)
      · exact ⟨S18.out.cell (b := (GB, 29, #[.int .i64 rc, .slice azB L.length czB])) (by simp) 0, S18.out.cell (b := (GB, 29, #[.int .i64 rc, .slice azB L.length czB])) (by simp) 1, S18.out.cell (b := (G5, 29, #[.int .i64 cap, .slice a4 l.length c4])) (by simp) 0, S18.out.cell (b := (G5, 29, #[.int .i64 cap, .slice a4 l.length c4])) (by simp) 1, S18.out.cell (b := (GA, 29, #[.int .i64 rc, .slice azA L.length czA])) (by simp) 0, S18.out.cell (b := (GA, 29, #[.int .i64 rc, .slice azA L.length czA])) (by simp) 1, S18.out.cell (b := (w.heap.size + 1, 34, #[.int .i64 x.1, .int .i64 x.2.1, .string x.2.2.1, .int .i64 x.2.2.2])) (by simp) 0, S18.out.cell (b := (w.heap.size + 1, 34, #[.int .i64 x.1, .int .i64 x.2.1, .string x.2.2.1, .int .i64 x.2.2.2])) (by simp) 1, S18.out.cell (b := (w.heap.size + 1, 34, #[.int .i64 x.1, .int .i64 x.2.1, .string x.2.2.1, .int .i64 x.2.2.2])) (by simp) 2, S18.out.cell (b := (w.heap.size + 1, 34, #[.int .i64 x.1, .int .i64 x.2.1, .string x.2.2.1, .int .i64 x.2.2.2])) (by simp) 3, S18.out.cell (b := (w.heap.size, 24, #[.int .i64 cap, .slice a l.length c])) (by simp) 0, S18.out.cell (b := (w.heap.size, 24, #[.int .i64 cap, .slice a l.length c])) (by simp) 1⟩
      clear hK K
      try simp only [Act.put, List.getElem_toArray, List.getElem_cons_succ, List.getElem_cons_zero, List.setIfInBounds_toArray, List.set_cons_zero, List.set_cons_succ]
      clear b18 S17
      refine wpAnyH_take (i := 5) (v := ?_) rfl (by kernel_rfl) (by kernel_rfl) (by kernel_rfl) (fun _ _ _ h => h) (Or.inl ⟨by rfl, ?_⟩) (by assumption) ?_
      rotate_left
      · intro w hSw; (try dsimp only at hSw); go_simp; try with_reducible rfl
      try simp only [Act.put, List.getElem_toArray, List.getElem_cons_succ, List.getElem_cons_zero, List.setIfInBounds_toArray, List.set_cons_zero, List.set_cons_succ]
      refine wpAnyH_take (i := 6) (v := ?_) rfl (by kernel_rfl) (by kernel_rfl) (by kernel_rfl) (fun _ _ _ h => h) (Or.inl ⟨by rfl, ?_⟩) (by assumption) ?_
      rotate_left
      · intro w hSw; (try dsimp only at hSw); go_simp; try with_reducible rfl
      try simp only [Act.put, List.getElem_toArray, List.getElem_cons_succ, List.getElem_cons_zero, List.setIfInBounds_toArray, List.set_cons_zero, List.set_cons_succ]
      refine wpAnyH_take (i := 7) (v := ?_) rfl (by kernel_rfl) (by kernel_rfl) (by kernel_rfl) (fun _ _ _ h => h) (Or.inl ⟨by rfl, ?_⟩) (by assumption) ?_
      rotate_left
      · intro w hSw; (try dsimp only at hSw); go_simp; try with_reducible rfl
      try simp only [Act.put, List.getElem_toArray, List.getElem_cons_succ, List.getElem_cons_zero, List.setIfInBounds_toArray, List.set_cons_zero, List.set_cons_succ]
      have z0 : w18.cell? ⟨G, 0, none⟩ = some (.int .i64 0) := S18.out.cell (b := (G, 29, #[.int .i64 0, .slice none 0 0])) (by simp) 0
      have z1 : w18.cell? ⟨G, 1, none⟩ = some (.slice none 0 0) := S18.out.cell (b := (G, 29, #[.int .i64 0, .slice none 0 0])) (by simp) 1
      have y0 : w18.frozen? ⟨G, 0, none⟩ = false := S18.out.frozen (b := (G, 29, #[.int .i64 0, .slice none 0 0])) (by simp) 0
      have y1 : w18.frozen? ⟨G, 1, none⟩ = false := S18.out.frozen (b := (G, 29, #[.int .i64 0, .slice none 0 0])) (by simp) 1
      have SE := (S18.out.store 0 (.int .i64 rc)).store 1 (.slice az L.length cz)
      simp only [List.setIfInBounds_toArray, List.set_cons_zero, List.set_cons_succ] at SE
      refine wpAnyH_ready (rs := [9]) (by kernel_rfl) (by simp) (AllReadyH.cons rfl (fun K hK => ?_) AllReadyH.nil)
      rw [if_pos (by rfl)]
      go_simp
      refine hK.out _ _ ?_ (fun hHeld => ?_)
      · exact ⟨SE.cell (b := (GB, 29, #[.int .i64 rc, .slice azB L.length czB])) (by simp) 0, SE.cell (b := (GB, 29, #[.int .i64 rc, .slice azB L.length czB])) (by simp) 1, SE.cell (b := (G5, 29, #[.int .i64 cap, .slice a4 l.length c4])) (by simp) 0, SE.cell (b := (G5, 29, #[.int .i64 cap, .slice a4 l.length c4])) (by simp) 1, SE.cell (b := (GA, 29, #[.int .i64 rc, .slice azA L.length czA])) (by simp) 0, SE.cell (b := (GA, 29, #[.int .i64 rc, .slice azA L.length czA])) (by simp) 1, SE.cell (b := (w.heap.size + 1, 34, #[.int .i64 x.1, .int .i64 x.2.1, .string x.2.2.1, .int .i64 x.2.2.2])) (by simp) 0, SE.cell (b := (w.heap.size + 1, 34, #[.int .i64 x.1, .int .i64 x.2.1, .string x.2.2.1, .int .i64 x.2.2.2])) (by simp) 1, SE.cell (b := (w.heap.size + 1, 34, #[.int .i64 x.1, .int .i64 x.2.1, .string x.2.2.1, .int .i64 x.2.2.2])) (by simp) 2, SE.cell (b := (w.heap.size + 1, 34, #[.int .i64 x.1, .int .i64 x.2.1, .string x.2.2.1, .int .i64 x.2.2.2])) (by simp) 3, SE.cell (b := (w.heap.size, 24, #[.int .i64 cap, .slice a l.length c])) (by simp) 0, SE.cell (b := (w.heap.size, 24, #[.int .i64 cap, .slice a l.length c])) (by simp) 1⟩
      clear hK K
      try simp only [Act.put, List.getElem_toArray, List.getElem_cons_succ, List.getElem_cons_zero, List.setIfInBounds_toArray, List.set_cons_zero, List.set_cons_succ]
      generalize (w18.setCell ⟨G, 0, none⟩ (.int .i64 rc)).setCell ⟨G, 1, none⟩ (.slice az L.length cz) = WW at SE hHeld ⊢
      refine wpAnyH_take (i := 10) (v := ?_) rfl (by kernel_rfl) (by kernel_rfl) (by kernel_rfl) (fun _ _ _ h => h) (Or.inl ⟨by rfl, ?_⟩) (by assumption) ?_
      rotate_left
      · intro w hSw; (try dsimp only at hSw); go_simp; try with_reducible rfl
      try simp only [Act.put, List.getElem_toArray, List.getElem_cons_succ, List.getElem_cons_zero, List.setIfInBounds_toArray, List.set_cons_zero, List.set_cons_succ]
      refine wpAnyH_done (by kernel_rfl) ?_ _
      clear hHeld z0 z1 y0 y1 S18
      obtain ⟨bz, hbz⟩ : ∃ b, w17.heap.size = b := ⟨_, rfl⟩
      rw [hbz] at SE
      clear hbz kz KR
      exact tail _ _ _ _ _ _ _ _ _ _ PZ SE
  intro arC crC VzC XzC YzC azC czC GC w14 bzC PZC SEC
  have S14 := Lib.hid SEC
  clear SEC S13
  have d0_0 : w14.cell? ⟨GC, 0, none⟩ = some (.int .i64 rc) := S14.out.cell (b := (GC, 29, #[.int .i64 rc, .slice azC L.length czC])) (by simp) 0
  have d0_1 : w14.cell? ⟨GC, 1, none⟩ = some (.slice azC L.length czC) := S14.out.cell (b := (GC, 29, #[.int .i64 rc, .slice azC L.length czC])) (by simp) 1
  have d1_0 : w14.cell? ⟨GB, 0, none⟩ = some (.int .i64 rc) := S14.out.cell (b := (GB, 29, #[.int .i64 rc, .slice azB L.length czB])) (by simp) 0
  have d1_1 : w14.cell? ⟨GB, 1, none⟩ = some (.slice azB L.length czB) := S14.out.cell (b := (GB, 29, #[.int .i64 rc, .slice azB L.length czB])) (by simp) 1
  have d2_0 : w14.cell? ⟨G5, 0, none⟩ = some (.int .i64 cap) := S14.out.cell (b := (G5, 29, #[.int .i64 cap, .slice a4 l.length c4])) (by simp) 0
  have d2_1 : w14.cell? ⟨G5, 1, none⟩ = some (.slice a4 l.length c4) := S14.out.cell (b := (G5, 29, #[.int .i64 cap, .slice a4 l.length c4])) (by simp) 1
  have d3_0 : w14.cell? ⟨GA, 0, none⟩ = some (.int .i64 rc) := S14.out.cell (b := (GA, 29, #[.int .i64 rc, .slice azA L.length czA])) (by simp) 0
  have d3_1 : w14.cell? ⟨GA, 1, none⟩ = some (.slice azA L.length czA) := S14.out.cell (b := (GA, 29, #[.int .i64 rc, .slice azA L.length czA])) (by simp) 1
  have d4_0 : w14.cell? ⟨w.heap.size + 1, 0, none⟩ = some (.int .i64 x.1) := S14.out.cell (b := (w.heap.size + 1, 34, #[.int .i64 x.1, .int .i64 x.2.1, .string x.2.2.1, .int .i64 x.2.2.2])) (by simp) 0
  have d4_1 : w14.cell? ⟨w.heap.size + 1, 1, none⟩ = some (.int .i64 x.2.1) := S14.out.cell (b := (w.heap.size + 1, 34, #[.int .i64 x.1, .int .i64 x.2.1, .string x.2.2.1, .int .i64 x.2.2.2])) (by simp) 1
  have d4_2 : w14.cell? ⟨w.heap.size + 1, 2, none⟩ = some (.string x.2.2.1) := S14.out.cell (b := (w.heap.size + 1, 34, #[.int .i64 x.1, .int .i64 x.2.1, .string x.2.2.1, .int .i64 x.2.2.2])) (by simp) 2
  have d4_3 : w14.cell? ⟨w.heap.size + 1, 3, none⟩ = some (.int .i64 x.2.2.2) := S14.out.cell (b := (w.heap.size + 1, 34, #[.int .i64 x.1, .int .i64 x.2.1, .string x.2.2.1, .int .i64 x.2.2.2])) (by simp) 3
  have d5_0 : w14.cell? ⟨w.heap.size, 0, none⟩ = some (.int .i64 cap) := S14.out.cell (b := (w.heap.size, 24, #[.int .i64 cap, .slice a l.length c])) (by simp) 0
  have d5_1 : w14.cell? ⟨w.heap.size, 1, none⟩ = some (.slice a l.length c) := S14.out.cell (b := (w.heap.size, 24, #[.int .i64 cap, .slice a l.length c])) (by simp) 1
  go_wp2_with fail
  refine (CE.out _ _ _ (PZC.out.reads _ _ (show MOwn w14 bzC VzC XzC from (S14.out.row ⟨bzC, 38, 4, VzC, XzC.length, mcells XzC⟩ (by simp)).1)) (own_msgs_at (show MOwn w14 bzA (.slice azA L.length czA) L from (S14.out.row ⟨bzA, 38, 4, (.slice azA L.length czA), L.length, mcells L⟩ (by simp)).1))).mono ?_
  clear d0_0 d0_1 d1_0 d1_1 d2_0 d2_1 d3_0 d3_1 d4_0 d4_1 d4_2 d4_3 d5_0 d5_1
  rintro e w15 ⟨rfl, b15⟩
  have S15 := Lib.hid (S14.out.below b15)
  clear b15 S14
  have d0_0 : w15.cell? ⟨GC, 0, none⟩ = some (.int .i64 rc) := S15.out.cell (b := (GC, 29, #[.int .i64 rc, .slice azC L.length czC])) (by simp) 0
  have d0_1 : w15.cell? ⟨GC, 1, none⟩ = some (.slice azC L.length czC) := S15.out.cell (b := (GC, 29, #[.int .i64 rc, .slice azC L.length czC])) (by simp) 1
  have d1_0 : w15.cell? ⟨GB, 0, none⟩ = some (.int .i64 rc) := S15.out.cell (b := (GB, 29, #[.int .i64 rc, .slice azB L.length czB])) (by simp) 0
  have d1_1 : w15.cell? ⟨GB, 1, none⟩ = some (.slice azB L.length czB) := S15.out.cell (b := (GB, 29, #[.int .i64 rc, .slice azB L.length czB])) (by simp) 1
  have d2_0 : w15.cell? ⟨G5, 0, none⟩ = some (.int .i64 cap) := S15.out.cell (b := (G5, 29, #[.int .i64 cap, .slice a4 l.length c4])) (by simp) 0
  have d2_1 : w15.cell? ⟨G5, 1, none⟩ = some (.slice a4 l.length c4) := S15.out.cell (b := (G5, 29, #[.int .i64 cap, .slice a4 l.length c4])) (by simp) 1
  have d3_0 : w15.cell? ⟨GA, 0, none⟩ = some (.int .i64 rc) := S15.out.cell (b := (GA, 29, #[.int .i64 rc, .slice azA L.length czA])) (by simp) 0
  have d3_1 : w15.cell? ⟨GA, 1, none⟩ = some (.slice azA L.length czA) := S15.out.cell (b := (GA, 29, #[.int .i64 rc, .slice azA L.length czA])) (by simp) 1
  have d4_0 : w15.cell? ⟨w.heap.size + 1, 0, none⟩ = some (.int .i64 x.1) := S15.out.cell (b := (w.heap.size + 1, 34, #[.int .i64 x.1, .int .i64 x.2.1, .string x.2.2.1, .int .i64 x.2.2.2])) (by simp) 0
  have d4_1 : w15.cell? ⟨w.heap.size + 1, 1, none⟩ = some (.int .i64 x.2.1) := S15.out.cell (b := (w.heap.size + 1, 34, #[.int .i64 x.1, .int .i64 x.2.1, .string x.2.2.1, .int .i64 x.2.2.2])) (by simp) 1
  have d4_2 : w15.cell? ⟨w.heap.size + 1, 2, none⟩ = some (.string x.2.2.1) := S15.out.cell (b := (w.heap.size + 1, 34, #[.int .i64 x.1, .int .i64 x.2.1, .string x.2.2.1, .int .i64 x.2.2.2])) (by simp) 2
  have d4_3 : w15.cell? ⟨w.heap.size + 1, 3, none⟩ = some (.int .i64 x.2.2.2) := S15.out.cell (b := (w.heap.size + 1, 34, #[.int .i64 x.1, .int .i64 x.2.1, .string x.2.2.1, .int .i64 x.2.2.2])) (by simp) 3
  have d5_0 : w15.cell? ⟨w.heap.size, 0, none⟩ = some (.int .i64 cap) := S15.out.cell (b := (w.heap.size, 24, #[.int .i64 cap, .slice a l.length c])) (by simp) 0
  have d5_1 : w15.cell? ⟨w.heap.size, 1, none⟩ = some (.slice a l.length c) := S15.out.cell (b := (w.heap.size, 24, #[.int .i64 cap, .slice a l.length c])) (by simp) 1
  go_wp2_with fail
  refine (CH.out _ _ (PZB.out.marked _ _ (show MOwn w15 bzB VzB YzB from by have h := (S15.out.row ⟨bzB, 38, 4, VzB, XzB.length, mcells YzB⟩ (by simp)).1; unfold MOwn; rw [PZB.out.len]; exact h))).mono ?_
  clear d0_0 d0_1 d1_0 d1_1 d2_0 d2_1 d3_0 d3_1 d4_0 d4_1 d4_2 d4_3 d5_0 d5_1
  rintro e w16 ⟨rfl, b16⟩
  have S16 := Lib.hid (S15.out.below b16)
  clear b16 S15
  have d0_0 : w16.cell? ⟨GC, 0, none⟩ = some (.int .i64 rc) := S16.out.cell (b := (GC, 29, #[.int .i64 rc, .slice azC L.length czC])) (by simp) 0
  have d0_1 : w16.cell? ⟨GC, 1, none⟩ = some (.slice azC L.length czC) := S16.out.cell (b := (GC, 29, #[.int .i64 rc, .slice azC L.length czC])) (by simp) 1
  have d1_0 : w16.cell? ⟨GB, 0, none⟩ = some (.int .i64 rc) := S16.out.cell (b := (GB, 29, #[.int .i64 rc, .slice azB L.length czB])) (by simp) 0
  have d1_1 : w16.cell? ⟨GB, 1, none⟩ = some (.slice azB L.length czB) := S16.out.cell (b := (GB, 29, #[.int .i64 rc, .slice azB L.length czB])) (by simp) 1
  have d2_0 : w16.cell? ⟨G5, 0, none⟩ = some (.int .i64 cap) := S16.out.cell (b := (G5, 29, #[.int .i64 cap, .slice a4 l.length c4])) (by simp) 0
  have d2_1 : w16.cell? ⟨G5, 1, none⟩ = some (.slice a4 l.length c4) := S16.out.cell (b := (G5, 29, #[.int .i64 cap, .slice a4 l.length c4])) (by simp) 1
  have d3_0 : w16.cell? ⟨GA, 0, none⟩ = some (.int .i64 rc) := S16.out.cell (b := (GA, 29, #[.int .i64 rc, .slice azA L.length czA])) (by simp) 0
  have d3_1 : w16.cell? ⟨GA, 1, none⟩ = some (.slice azA L.length czA) := S16.out.cell (b := (GA, 29, #[.int .i64 rc, .slice azA L.length czA])) (by simp) 1
  have d4_0 : w16.cell? ⟨w.heap.size + 1, 0, none⟩ = some (.int .i64 x.1) := S16.out.cell (b := (w.heap.size + 1, 34, #[.int .i64 x.1, .int .i64 x.2.1, .string x.2.2.1, .int .i64 x.2.2.2])) (by simp) 0
  have d4_1 : w16.cell? ⟨w.heap.size + 1, 1, none⟩ = some (.int .i64 x.2.1) := S16.out.cell (b := (w.heap.size + 1, 34, #[.int .i64 x.1, .int .i64 x.2.1, .string x.2.2.1, .int .i64 x.2.2.2])) (by simp) 1
  have d4_2 : w16.cell? ⟨w.heap.size + 1, 2, none⟩ = some (.string x.2.2.1) := S16.out.cell (b := (w.heap.size + 1, 34, #[.int .i64 x.1, .int .i64 x.2.1, .string x.2.2.1, .int .i64 x.2.2.2])) (by simp) 2
  have d4_3 : w16.cell? ⟨w.heap.size + 1, 3, none⟩ = some (.int .i64 x.2.2.2) := S16.out.cell (b := (w.heap.size + 1, 34, #[.int .i64 x.1, .int .i64 x.2.1, .string x.2.2.1, .int .i64 x.2.2.2])) (by simp) 3
  have d5_0 : w16.cell? ⟨w.heap.size, 0, none⟩ = some (.int .i64 cap) := S16.out.cell (b := (w.heap.size, 24, #[.int .i64 cap, .slice a l.length c])) (by simp) 0
  have d5_1 : w16.cell? ⟨w.heap.size, 1, none⟩ = some (.slice a l.length c) := S16.out.cell (b := (w.heap.size, 24, #[.int .i64 cap, .slice a l.length c])) (by simp) 1
  go_wp2
  go_ret
  exact ⟨rfl, S16.out.bw⟩

set_option maxRecDepth 100000 in
theorem contract (H : Type) (enc : TypeId × Value → H) (W : World) (base : Nat) (args : Array Value) (ds gs : List (DataW H)) (before : List MemPlace)
    (hval : ∀ (j : Nat) t v, Tryd.f4.params[j]? = some t → args[j]? = some v → Value.okWide Tryd.prog W .any base t v)
    (hW : DataW.Whole enc Tryd.prog Tryd.f4.params.toList Rows.fnExactRecordedSpec.vars false W args.toList ds gs before) (hsh : W.ShapedOpen Tryd.prog) :
    Calls Tryd.prog 4 args W fun e W' => ∃ v, e = .returned v ∧ Rows.fnExactRecordedSpec.post enc Tryd.prog Tryd.f4 false true false false W args v W' := by
  have hW' := hW
  obtain ⟨p, q, hA0, hV, rfl, hfz, hnd⟩ := hW
  have hA : DataW.TrodAll enc Tryd.prog W 0 (fun _ => true) true Tryd.f4.params.toList args.toList ds p := hA0
  rw [Tryd.params4] at hA hval
  obtain ⟨v0, vs0, d0, ds0, p0, q0, hargs, rfl, rfl, h0, r0⟩ := trodAll_cons hA
  obtain ⟨v1, vs1, d1, ds1, p1, q1, rfl, rfl, rfl, h1, r1⟩ := trodAll_cons r0
  obtain ⟨rfl, rfl, rfl⟩ := trodAll_nil r1
  obtain rfl : args = #[v0, v1] := by cases args; simp_all
  obtain ⟨rfl, rfl⟩ := trodVars_none hV
  obtain ⟨cs0, rfl, cz0⟩ := okWide_struct Tryd.underlying24 (hval 0 24 v0 rfl rfl)
  have k0 := h0
  have lt0 : ∀ x ∈ p0, x.block < W.heap.size := by obtain ⟨m, hm⟩ := k0; exact DataW.trod_lt m _ _ _ hm
  have w0 : ∃ c v l, cs0 = #[.int .i64 c, v] ∧ MsgsAt W v l ∧ ∀ y ∈ l, y.2.2.1.size ≤ maxLen := by
    obtain ⟨fuel, hf⟩ := h0
    obtain ⟨c, v, l, e, hk, hs⟩ := ring_read Tryd.underlying24 (by kernel_rfl) ⟨rfl, rfl⟩ ⟨rfl, rfl⟩ (by kernel_rfl) Tryd.underlying22 Tryd.underlying34 (by kernel_rfl) ⟨rfl, rfl⟩ ⟨rfl, rfl⟩ ⟨rfl, rfl⟩ ⟨rfl, rfl⟩ Tryd.underlying2 (by kernel_rfl) Tryd.underlying9 (by kernel_rfl) hf
    exact ⟨c, v, l, Array.toList_inj.1 e, hk, hs⟩
  obtain ⟨c0, v0, l0, rfl, w0, s0⟩ := w0
  obtain ⟨cs1, rfl, cz1⟩ := okWide_struct Tryd.underlying34 (hval 1 34 v1 rfl rfl)
  have k1 := h1
  have lt1 : ∀ x ∈ p1, x.block < W.heap.size := by obtain ⟨m, hm⟩ := k1; exact DataW.trod_lt m _ _ _ hm
  have w1 : ∃ y : MsgM, cs1 = (mval y).toArray ∧ y.2.2.1.size ≤ maxLen := by
    obtain ⟨fuel, hf⟩ := h1
    obtain ⟨y, e, hs⟩ := msg_read Tryd.underlying34 (by kernel_rfl) ⟨rfl, rfl⟩ ⟨rfl, rfl⟩ ⟨rfl, rfl⟩ ⟨rfl, rfl⟩ Tryd.underlying2 (by kernel_rfl) Tryd.underlying9 (by kernel_rfl) hf
    exact ⟨y, by rw [← e]; rfl, hs⟩
  obtain ⟨x1, rfl, s1⟩ := w1
  clear hA0
  simp only [List.append_nil] at hW'
  obtain ⟨m, hm⟩ := maxLen_cell hsh
  refine (law W c0 v0 l0 w0 s0 x1 s1 m hm).mono fun e W' ⟨he, hg⟩ => ?_
  subst he
  exact ⟨_, rfl, _, _, _, [], _, [], hW', trodAll_cons_mk (shut_bool Tryd.underlying4 _) trodAll_mk0, trodAll_cons_mk (Below.trod laidOut (by kernel_rfl) (of_decide_eq_true (by kernel_rfl)) k0 hg lt0) (trodAll_cons_mk (Below.trod laidOut (by kernel_rfl) (of_decide_eq_true (by kernel_rfl)) k1 hg lt1) (trodAll_mk0)), rfl, hg.frame _, fun h => by cases h⟩

theorem reads (os : Os) {H : Type} (enc : TypeId × Value → H) : ∃ places, DataW.whole enc Tryd.prog ((World.laidAll Tryd.prog os Rows.fnExactRecordedRow.laid).forCall (fun _ _ => 0) ⟨#[], #[(.agg #[.int .i64 0, .slice none 0 0] : Value), (.agg #[.int .i64 0, .int .i64 0, .string ByteArray.empty, .int .i64 0] : Value)], []⟩).memory Tryd.f4.params.toList Rows.fnExactRecordedSpec.vars false (#[(.agg #[.int .i64 0, .slice none 0 0] : Value), (.agg #[.int .i64 0, .int .i64 0, .string ByteArray.empty, .int .i64 0] : Value)] : Array Value).toList 8 = some ([.agg [.lit (.int .i64 0), .nil], .agg [.lit (.int .i64 0), .lit (.int .i64 0), .lit (.string []), .lit (.int .i64 0)]], [], places) :=
  ⟨[], by kernel_rfl⟩

theorem laid_met (os : Os) : laidMetH Tryd.prog Rows.fnExactRecordedRow.laid ((World.laidAll Tryd.prog os Rows.fnExactRecordedRow.laid).forCall (fun _ _ => 0) ⟨#[], #[(.agg #[.int .i64 0, .slice none 0 0] : Value), (.agg #[.int .i64 0, .int .i64 0, .string ByteArray.empty, .int .i64 0] : Value)], []⟩).memory := by
  rw [MakeChecks.laidMetH_plain _ _ _ (by kernel_rfl)]
  exact laidMet_laidAll _ (by kernel_rfl) (by kernel_rfl)

set_option maxRecDepth 100000 in
theorem lifted (os : Os) (started : os.Started) (H : Type) (enc : TypeId × Value → H) (F : Stop.Interp) :
    ReturnsInHanded {} Tryd.checked os 4 .any ((OpenSpec.ofChange Rows.fnExactRecordedSpec).preRow enc Tryd.prog Tryd.f4 Rows.fnExactRecordedRow.domain false Rows.fnExactRecordedRow.laid) (((OpenSpec.ofChange Rows.fnExactRecordedSpec).at F).post enc Tryd.prog Tryd.f4 false true false false) := by
  obtain ⟨places, hx⟩ := reads os enc
  refine returnsInHanded_of_row (C := Tryd.checked) (s := OpenSpec.ofChange Rows.fnExactRecordedSpec) own started (by kernel_rfl) Tryd.func4
    (witness_row_at (enc := enc) (C := Tryd.checked) false (World.laidAll Tryd.prog os Rows.fnExactRecordedRow.laid) #[(.agg #[.int .i64 0, .slice none 0 0] : Value), (.agg #[.int .i64 0, .int .i64 0, .string ByteArray.empty, .int .i64 0] : Value)] (World.laidAll_os _ _ _) (by kernel_rfl) (by kernel_rfl) (by kernel_rfl)
      (OpenSpec.preRow_of_cond 8 hx (by kernel_rfl) (fun k hk => by cases hk) (by kernel_rfl) (laid_met os))) ?_
  intro W base args ds gs before hval hW _ _ _ _ hsh _
  exact contract H enc W base args ds gs before hval hW hsh

theorem said : Rows.FnExactRecordedSaid :=
  OpenClaim.holds_of_cond 4 Tryd.f4 rfl rfl rfl rfl rfl rfl rfl ⟨rfl, rfl, rfl, rfl, rfl⟩ rfl rfl rfl rfl rfl (by kernel_rfl) Tryd.func4 (by kernel_rfl)
    (of_decide_eq_true (by kernel_rfl)) (by unfold Func.isWrapper; first | (rw [if_pos (by decide +kernel)]; kernel_rfl) | (rw [if_neg (by decide +kernel)]; exact ⟨rfl, rfl⟩))
    (fun os started H enc _ F => by rw [OpenClaim.pre_eq_preRow]; exact lifted os started H enc F)

theorem plain (f : FuncId) (fn : Func) (hf : Tryd.pinned.checked.prog.funcNamed Tryd.f4.name = some f) (hfn : Tryd.pinned.checked.prog.funcs[f]? = some fn) :
    false = Tryd.pinned.checked.prog.looks [] ∧ ∀ (j : Nat) t, fn.params[j]? = some t → Tryd.pinned.checked.prog.wantsStandIn t = false := by
  obtain rfl : f = 4 := Option.some.inj ((show Tryd.prog.funcNamed Tryd.f4.name = some 4 by kernel_rfl).symm.trans hf) |>.symm
  obtain rfl : fn = Tryd.f4 := (Option.some.inj (Tryd.func4.symm.trans hfn)).symm
  refine ⟨by kernel_rfl, fun j t ht => ?_⟩
  rw [Tryd.params4] at ht
  have hm := Array.mem_of_getElem? ht
  have hall : (Tryd.f4.params.all fun u => !Tryd.prog.wantsStandIn u) = true := by kernel_rfl
  rw [Tryd.params4] at hall
  rw [Array.all_eq_true_iff_forall_mem] at hall
  have := hall t hm
  exact (show Tryd.prog.wantsStandIn t = false by simpa using this)

theorem card : Rows.FnExactRecordedCardSaid :=
  Claim7.holds_tied_plain_at .later [] _ _ _ _ said (fun _ h => by cases h) (by kernel_rfl) (fun _ h => by cases h) fnExactRecorded_row_tie rfl ⟨rfl, rfl⟩ (by kernel_rfl) rfl plain (by kernel_rfl)
end Go.Proofs.YtfdikopfpeiilaaDoor.lawFnExactRecorded
