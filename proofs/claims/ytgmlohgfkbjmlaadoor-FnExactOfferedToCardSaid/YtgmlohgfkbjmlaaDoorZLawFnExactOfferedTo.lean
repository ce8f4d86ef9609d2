/- The law FnExactOfferedTo holds at every argument: for every input it returns true and leaves the input as it was. -/
import Derived.Test.YtgmlohgfkbjmlaaDoorZB1
import Derived.Test.YtgmlohgfkbjmlaaDoorZB5
import Derived.Test.YtgmlohgfkbjmlaaDoorZIOff
import Derived.Test.YtgmlohgfkbjmlaaDoorZSOff
import Derived.Test.YtgmlohgfkbjmlaaDoorZB2
import Derived.Test.YtgmlohgfkbjmlaaDoorZB4
set_option linter.unusedSimpArgs false
set_option linter.unusedVariables false
namespace Go.Proofs.YtgmlohgfkbjmlaaDoor.lawFnExactOfferedTo
open Go.ChangeShapes Go.WideShapes Go.ChangeAt Go.RowKit Go.WideMaps Go.WideElems
open Go.ChangeMaps (open_string shut_string)

set_option maxRecDepth 100000 in
set_option maxHeartbeats 6400000 in
theorem law (w : World) (b : BoxM) (v : Value) (hv : MsgsAt w v b.q) (hp : ∀ y ∈ b.q, y.2.2.1.size ≤ maxLen) (x : MsgM) (hx : x.2.2.1.size ≤ maxLen) (m : Int) (hm : w.cell? ⟨0, 0, none⟩ = some (.int .i64 m)) :
    Calls Tryd.prog 5 #[bagg b v, magg x] w fun e w' => e = .returned (.bool true) ∧ Below w.heap.size w w' := by
  have cz := fun wx (h : MsgsAt wx v b.q) => szBox_any b v 1048576 wx (by omega) (by omega) hp h
  have HV := Lib.hid hv
  obtain ⟨a, c, rfl, _, _, _⟩ := hv
  have hzle := szMs_le b.q 1048576 (by omega)
  have cy := fun wx (h : 0 ≤ szMs b.q 1048576) => szMsg_any x (szMs b.q 1048576) wx h hzle hx
  go_enter Tryd.func5, Tryd.ntmps5
  go_upto_region 2 with (fail)
  have S0 := Lib.hid (((Held.start w).pushBox 24 (bcells b (.slice a b.q.length c)) (by simp)).pushBox 38 #[.int .i64 x.1, .int .i64 x.2.1, .string x.2.2.1, .int .i64 x.2.2.2] (by simp))
  rw [World.size_alloc] at S0
  generalize (w.alloc (.cells (bcells b (.slice a b.q.length c)) 24)).alloc (.cells #[.int .i64 x.1, .int .i64 x.2.1, .string x.2.2.1, .int .i64 x.2.2.2] 38) = w0 at S0 ⊢
  go_wp2_with (first | refine wpList_load_row rfl 24 (.tmp 2) rfl w.heap.size rfl 24 (bcells b (.slice a b.q.length c)) (0, 0) _ (S0.out.box (w.heap.size, 24, (bcells b (.slice a b.q.length c))) (by simp)).1 Tryd.underlying24 rfl (by kernel_rfl) ?_)
  refine (cz w0 (HV.out.below S0.out.bw)).mono ?_
  rintro e w1 ⟨rfl, b1⟩
  have S1 := Lib.hid (S0.out.below b1)
  clear b1 S0
  clear cz
  by_cases hz : szMs b.q 1048576 < 0
  · have g1 : decide (szMs b.q 1048576 < 0) = true := decide_eq_true hz
    go_wp2
    go_ret
    exact ⟨rfl, S1.out.bw⟩
  have g1 : decide (szMs b.q 1048576 < 0) = false := decide_eq_false hz
  go_wp2_with (first | refine wpList_load_row rfl 38 (.tmp 3) rfl (w.heap.size + 1) rfl 38 #[.int .i64 x.1, .int .i64 x.2.1, .string x.2.2.1, .int .i64 x.2.2.2] (0, 0) _ (S1.out.box (w.heap.size + 1, 38, #[.int .i64 x.1, .int .i64 x.2.1, .string x.2.2.1, .int .i64 x.2.2.2]) (by simp)).1 Tryd.underlying38 rfl (by kernel_rfl) ?_)
  refine (cy w1 (by omega)).mono ?_
  rintro e w2 ⟨rfl, b2⟩
  have S2 := Lib.hid (S1.out.below b2)
  clear b2 S1
  clear cy
  by_cases hy : szN x.2.2.1.size (szMs b.q 1048576) < 0
  · have g2 : decide (szN x.2.2.1.size (szMs b.q 1048576) < 0) = true := decide_eq_true hy
    go_wp2
    go_ret
    exact ⟨rfl, S2.out.bw⟩
  have g2 : decide (szN x.2.2.1.size (szMs b.q 1048576) < 0) = false := decide_eq_false hy
  obtain ⟨hlen, hall⟩ := szMs_small (by omega) (show 0 ≤ szMs b.q 1048576 by omega)
  have hl : b.q.length ≤ 1048576 := by omega
  have hs : ∀ x ∈ b.q, x.2.2.1.size ≤ 1048576 := fun x hx => by have := hall x hx; omega
  have hx1 : x.2.2.1.size ≤ 1048576 := by have := szN_small (show 0 ≤ szN x.2.2.1.size (szMs b.q 1048576) by omega); omega
  have CT := Lib.hid (fun wx (h : MsgsAt wx (.slice a b.q.length c) b.q) => toBox_any b _ wx (by omega) h)
  have CU := Lib.hid (fun wx => toMsg_any x wx)
  have CS := Lib.hid (fun u wx (h : MsgsAt wx u b.q) => specOffered_any b u x wx hl hs hx1 h)
  have CI := Lib.hid (fun u wx (h : MsgsAt wx u b.q) h2 => implOffered_any b u x m wx hl hs hx1 h h2)
  have hLl := offerM_len b x
  obtain ⟨N, cd, hR⟩ : ∃ N cd, offerM b x = (N, cd) := ⟨_, _, rfl⟩
  simp only [hR] at CS CI hLl
  have CQ := Lib.hid (fun u1 u2 wx (h1 : MsgsAt wx u1 b.q) (h2 : MsgsAt wx u2 b.q) => eqBox_any b u1 u2 wx (by omega) h1 h2)
  have CE := Lib.hid (fun u1 u2 wx (h1 : MsgsAt wx u1 N.q) (h2 : MsgsAt wx u2 N.q) => eqBox_any N u1 u2 wx (by omega) h1 h2)
  have CK := Lib.hid (fun u B wx (h : MOwn wx B u b.q) => markBox_any b u 1 B wx (Nat.le_refl _) (by omega) h)
  have HL8 := Lib.hid (show 1 + N.q.length * 4 ≤ 8000000 by omega)
  have CH := Lib.hid (fun u wx (h : MsgsAt wx u (mmarks 1 N.q.length)) => heldBox_any N N.q.length u 1 wx (Nat.le_refl _) (by omega) h)
  obtain ⟨z, hz2⟩ : ∃ z, szMs b.q 1048576 = z := ⟨_, rfl⟩
  rw [hz2] at g1 g2
  obtain ⟨z2, hz3⟩ : ∃ z2, szN x.2.2.1.size z = z2 := ⟨_, rfl⟩
  rw [hz3] at g2
  obtain ⟨kx, hkx⟩ : ∃ kx, ((1 + b.q.length * 4 : Nat) : Int) = kx := ⟨_, rfl⟩
  have g3 : decide (kx < 0) = false := decide_eq_false (by omega)
  simp only [hkx] at CK
  obtain ⟨ky, hky⟩ : ∃ ky, ((1 + N.q.length * 4 : Nat) : Int) = ky := ⟨_, rfl⟩
  have g4 : decide (ky < 0) = false := decide_eq_false (by omega)
  have g5 : (ky != ky) = false := by simp
  have g6 : (cd != cd) = false := by simp
  simp only [hky] at CH
  have HKY := Lib.hid hky
  have HM := Lib.hid hm
  have hlt : 0 < w.heap.size := World.block_lt_of_cell? _ _ hm
  rw [hz2, hz3]
  clear hm hz hy hz3 hz2 hzle hlen hall hl hs hp hx hx1 hLl hkx hky hR
  go_upto_region 8 with (fail)
  refine (fun (tail : ?TA) => ?mainA) ?pfA
  case mainA =>
    have SD := S2.out.below (show Below w2.heap.size w2 w2.drew from (Below.refl _ _).drew)
    refine wp_region_held_drew (S := fun wx => wx.heap[w.heap.size]? = some (.cells (bcells b (.slice a b.q.length c)) 24 (0, 0)) ∧ wx.heap[w.heap.size + 1]? = some (.cells #[.int .i64 x.1, .int .i64 x.2.1, .string x.2.2.1, .int .i64 x.2.2.2] 38 (0, 0))) (by kernel_rfl) ?_ (fun hHeld => ?_)
    · exact ⟨(SD.box (w.heap.size, 24, (bcells b (.slice a b.q.length c))) (by simp)).1, (SD.box (w.heap.size + 1, 38, #[.int .i64 x.1, .int .i64 x.2.1, .string x.2.2.1, .int .i64 x.2.2.2]) (by simp)).1⟩
    change wpAnyH _ _ _ _ _ 11 #[false, false, false, false, false, false, false, false, false, false, false] _ _
    have S3 := Lib.hid SD
    clear SD
    generalize w2.drew = w3 at S3 hHeld ⊢
    refine wpAnyH_take (i := 0) (v := bagg b (.slice a b.q.length c)) rfl (by kernel_rfl) (by kernel_rfl) (by kernel_rfl) (fun _ _ _ h => h) (yieldsIf_load_mid rfl 24 (.tmp 2) rfl w.heap.size 0 rfl [.int .i64 b.cap, .int .i64 b.pol, (.slice a b.q.length c), .int .i64 b.ofr, .int .i64 b.rcv, .int .i64 b.drp, .int .i64 b.mrg, .bool b.shut] _ (fun wx h => range_of_heap h.1) Tryd.underlying24 rfl (by kernel_rfl)) (by assumption) ?_
    try simp only [Act.put, List.getElem_toArray, List.getElem_cons_succ, List.getElem_cons_zero, List.setIfInBounds_toArray, List.set_cons_zero, List.set_cons_succ]
    refine wpAnyH_take (i := 2) (v := magg x) rfl (by kernel_rfl) (by kernel_rfl) (by kernel_rfl) (fun _ _ _ h => h) (yieldsIf_load_mid rfl 38 (.tmp 3) rfl (w.heap.size + 1) 0 rfl [.int .i64 x.1, .int .i64 x.2.1, .string x.2.2.1, .int .i64 x.2.2.2] _ (fun wx h => range_of_heap h.2) Tryd.underlying38 rfl (by kernel_rfl)) (by assumption) ?_
    try simp only [Act.put, List.getElem_toArray, List.getElem_cons_succ, List.getElem_cons_zero, List.setIfInBounds_toArray, List.set_cons_zero, List.set_cons_succ]
    refine wpAnyH_ready (rs := [1, 8]) (by kernel_rfl) (by simp) (AllReadyH.cons rfl (fun K hK => ?_) (AllReadyH.cons rfl (fun K hK => ?_) AllReadyH.nil))
    · skip
      rw [if_pos (by rfl)]
      go_simp; go_at_call 8; refine (CT.out _ (HV.out.below S3.out.bw)).mono ?_; rintro e w4 ⟨ur, rfl, kr, b4⟩; have KR := Lib.hid (own_msgs_at kr); obtain ⟨ar, cr, hur⟩ := own_slice kr; subst hur; clear kr; have S4 := Lib.hid (S3.out.below b4); go_wp2_with fail
      refine hK.out _ _ ?_ (fun hHeld => ?_)
      · exact ⟨(S4.out.box (w.heap.size, 24, (bcells b (.slice a b.q.length c))) (by simp)).1, (S4.out.box (w.heap.size + 1, 38, #[.int .i64 x.1, .int .i64 x.2.1, .string x.2.2.1, .int .i64 x.2.2.2]) (by simp)).1⟩
      clear hK K
      try simp only [Act.put, List.getElem_toArray, List.getElem_cons_succ, List.getElem_cons_zero, List.setIfInBounds_toArray, List.set_cons_zero, List.set_cons_succ]
      clear b4 S3
      refine wpAnyH_ready (rs := [3, 8]) (by kernel_rfl) (by simp) (AllReadyH.cons rfl (fun K hK => ?_) (AllReadyH.cons rfl (fun K hK => ?_) AllReadyH.nil))
      · skip
        rw [if_pos (by rfl)]
        go_simp; go_at_call 17; refine (CU.out _).mono ?_; rintro e w5 ⟨rfl, b5⟩; replace KR := Lib.hid (KR.out.below b5); have S5 := Lib.hid (S4.out.below b5); go_wp2_with fail
        refine hK.out _ _ ?_ (fun hHeld => ?_)
        · exact ⟨(S5.out.box (w.heap.size, 24, (bcells b (.slice a b.q.length c))) (by simp)).1, (S5.out.box (w.heap.size + 1, 38, #[.int .i64 x.1, .int .i64 x.2.1, .string x.2.2.1, .int .i64 x.2.2.2]) (by simp)).1⟩
        clear hK K
        try simp only [Act.put, List.getElem_toArray, List.getElem_cons_succ, List.getElem_cons_zero, List.setIfInBounds_toArray, List.set_cons_zero, List.set_cons_succ]
        clear b5 S4
        refine wpAnyH_ready (rs := [4, 8]) (by kernel_rfl) (by simp) (AllReadyH.cons rfl (fun K hK => ?_) (AllReadyH.cons rfl (fun K hK => ?_) AllReadyH.nil))
        · skip
          rw [if_pos (by rfl)]
          go_simp; go_at_call 16; refine (CS.out _ _ KR.out).mono ?_; rintro e w6 ⟨uz, rfl, kz, b6⟩; obtain ⟨az, cz, huz⟩ := own_slice kz; subst huz; have S6 := Lib.hid (S5.out.pushRow b6 kz (by simp)); go_wp2_with fail
          refine hK.out _ _ ?_ (fun hHeld => ?_)
          · exact ⟨(S6.out.box (w.heap.size, 24, (bcells b (.slice a b.q.length c))) (by simp)).1, (S6.out.box (w.heap.size + 1, 38, #[.int .i64 x.1, .int .i64 x.2.1, .string x.2.2.1, .int .i64 x.2.2.2]) (by simp)).1⟩
          clear hK K
          try simp only [Act.put, List.getElem_toArray, List.getElem_cons_succ, List.getElem_cons_zero, List.setIfInBounds_toArray, List.set_cons_zero, List.set_cons_succ]
          clear b6 S5
          refine wpAnyH_take (i := 5) (v := ?_) rfl (by kernel_rfl) (by kernel_rfl) (by kernel_rfl) (fun _ _ _ h => h) (Or.inl ⟨by rfl, ?_⟩) (by assumption) ?_
          rotate_left
          · intro w hSw; (try dsimp only at hSw); go_simp; try with_reducible rfl
          try simp only [Act.put, List.getElem_toArray, List.getElem_cons_succ, List.getElem_cons_zero, List.setIfInBounds_toArray, List.set_cons_zero, List.set_cons_succ]
          refine wpAnyH_take (i := 6) (v := ?_) rfl (by kernel_rfl) (by kernel_rfl) (by kernel_rfl) (fun _ _ _ h => h) (Or.inl ⟨by rfl, ?_⟩) (by assumption) ?_
          rotate_left
          · intro w hSw; (try dsimp only at hSw); go_simp; try with_reducible rfl
          try simp only [Act.put, List.getElem_toArray, List.getElem_cons_succ, List.getElem_cons_zero, List.setIfInBounds_toArray, List.set_cons_zero, List.set_cons_succ]
          refine wpAnyH_take (i := 7) (v := ?_) rfl (by kernel_rfl) (by kernel_rfl) (by kernel_rfl) (fun _ _ _ h => h) (Or.inl ⟨by rfl, ?_⟩) (by assumption) ?_
          rotate_left
          · intro w hSw; (try dsimp only at hSw); go_simp; try with_reducible rfl
          try simp only [Act.put, List.getElem_toArray, List.getElem_cons_succ, List.getElem_cons_zero, List.setIfInBounds_toArray, List.set_cons_zero, List.set_cons_succ]
          have SA := Lib.hid (S6.out.pushBox 29 #[.int .i64 0, .int .i64 0, .slice none 0 0, .int .i64 0, .int .i64 0, .int .i64 0, .int .i64 0, .bool false] (by simp))
          refine wpAnyH_ready (rs := [8]) (by kernel_rfl) (by simp) (AllReadyH.cons rfl (fun K hK => ?_) AllReadyH.nil)
          rw [if_pos (by rfl)]
          go_simp
          refine hK.out _ _ ?_ (fun hHeld => ?_)
          · exact ⟨(SA.out.box (w.heap.size, 24, (bcells b (.slice a b.q.length c))) (by simp)).1, (SA.out.box (w.heap.size + 1, 38, #[.int .i64 x.1, .int .i64 x.2.1, .string x.2.2.1, .int .i64 x.2.2.2]) (by simp)).1⟩
          clear hK K
          try simp only [Act.put, List.getElem_toArray, List.getElem_cons_succ, List.getElem_cons_zero, List.setIfInBounds_toArray, List.set_cons_zero, List.set_cons_succ]
          generalize w6.alloc (.cells #[.int .i64 0, .int .i64 0, .slice none 0 0, .int .i64 0, .int .i64 0, .int .i64 0, .int .i64 0, .bool false] 29) = w7 at SA hHeld ⊢
          obtain ⟨G, hG⟩ : ∃ G, w6.heap.size = G := ⟨_, rfl⟩
          rw [hG] at SA ⊢
          clear hG S6
          have S7 := SA
          clear SA
          have SE := S7.out.put (bcells N (.slice az N.q.length cz))
          refine wpAnyH_ready (rs := [9]) (by kernel_rfl) (by simp) (AllReadyH.cons rfl (fun K hK => ?_) AllReadyH.nil)
          rw [if_pos (by rfl)]
          refine wp_store_row 29 (.tmp 6) (.tmp 32) rfl G (bcells N (.slice az N.q.length cz)) rfl rfl 29 _ (S7.out.box (G, 29, #[.int .i64 0, .int .i64 0, .slice none 0 0, .int .i64 0, .int .i64 0, .int .i64 0, .int .i64 0, .bool false]) (by simp)).1 (by kernel_rfl) rfl (bcells_one _ _ _ _) ?_
          refine hK.out _ _ ?_ (fun hHeld => ?_)
          · exact ⟨(SE.box (w.heap.size, 24, (bcells b (.slice a b.q.length c))) (by simp)).1, (SE.box (w.heap.size + 1, 38, #[.int .i64 x.1, .int .i64 x.2.1, .string x.2.2.1, .int .i64 x.2.2.2]) (by simp)).1⟩
          clear hK K
          try simp only [Act.put, List.getElem_toArray, List.getElem_cons_succ, List.getElem_cons_zero, List.setIfInBounds_toArray, List.set_cons_zero, List.set_cons_succ]
          generalize w7.setRow G (bcells N (.slice az N.q.length cz)) = WW at SE hHeld ⊢
          refine wpAnyH_take (i := 10) (v := ?_) rfl (by kernel_rfl) (by kernel_rfl) (by kernel_rfl) (fun _ _ _ h => h) (Or.inl ⟨by rfl, ?_⟩) (by assumption) ?_
          rotate_left
          · intro w hSw; (try dsimp only at hSw); go_simp; try with_reducible rfl
          try simp only [Act.put, List.getElem_toArray, List.getElem_cons_succ, List.getElem_cons_zero, List.setIfInBounds_toArray, List.set_cons_zero, List.set_cons_succ]
          refine wpAnyH_done (by kernel_rfl) ?_ _
          clear hHeld S7
          obtain ⟨bz, hbz⟩ : ∃ b, w5.heap.size = b := ⟨_, rfl⟩
          rw [hbz] at SE
          clear hbz kz KR
          revert SE
          revert ar cr az cz G WW bz
          exact tail
        · skip
          have SA := Lib.hid (S5.out.pushBox 29 #[.int .i64 0, .int .i64 0, .slice none 0 0, .int .i64 0, .int .i64 0, .int .i64 0, .int .i64 0, .bool false] (by simp))
          replace KR := Lib.hid (KR.out.alloc (.cells #[.int .i64 0, .int .i64 0, .slice none 0 0, .int .i64 0, .int .i64 0, .int .i64 0, .int .i64 0, .bool false] 29))
          rw [if_pos (by rfl)]
          go_simp
          refine hK.out _ _ ?_ (fun hHeld => ?_)
          · exact ⟨(SA.out.box (w.heap.size, 24, (bcells b (.slice a b.q.length c))) (by simp)).1, (SA.out.box (w.heap.size + 1, 38, #[.int .i64 x.1, .int .i64 x.2.1, .string x.2.2.1, .int .i64 x.2.2.2]) (by simp)).1⟩
          clear hK K
          try simp only [Act.put, List.getElem_toArray, List.getElem_cons_succ, List.getElem_cons_zero, List.setIfInBounds_toArray, List.set_cons_zero, List.set_cons_succ]
          generalize w5.alloc (.cells #[.int .i64 0, .int .i64 0, .slice none 0 0, .int .i64 0, .int .i64 0, .int .i64 0, .int .i64 0, .bool false] 29) = w6 at SA hHeld KR ⊢
          obtain ⟨G, hG⟩ : ∃ G, w5.heap.size = G := ⟨_, rfl⟩
          rw [hG] at SA ⊢
          clear hG S5
          have S6 := SA
          clear SA
          refine wpAnyH_ready (rs := [4]) (by kernel_rfl) (by simp) (AllReadyH.cons rfl (fun K hK => ?_) AllReadyH.nil)
          rw [if_pos (by rfl)]
          go_simp; go_at_call 16; refine (CS.out _ _ KR.out).mono ?_; rintro e w7 ⟨uz, rfl, kz, b7⟩; obtain ⟨az, cz, huz⟩ := own_slice kz; subst huz; have S7 := Lib.hid (S6.out.pushRow b7 kz (by simp)); go_wp2_with fail
          refine hK.out _ _ ?_ (fun hHeld => ?_)
          · exact ⟨(S7.out.box (w.heap.size, 24, (bcells b (.slice a b.q.length c))) (by simp)).1, (S7.out.box (w.heap.size + 1, 38, #[.int .i64 x.1, .int .i64 x.2.1, .string x.2.2.1, .int .i64 x.2.2.2]) (by simp)).1⟩
          clear hK K
          try simp only [Act.put, List.getElem_toArray, List.getElem_cons_succ, List.getElem_cons_zero, List.setIfInBounds_toArray, List.set_cons_zero, List.set_cons_succ]
          clear b7 S6
          refine wpAnyH_take (i := 5) (v := ?_) rfl (by kernel_rfl) (by kernel_rfl) (by kernel_rfl) (fun _ _ _ h => h) (Or.inl ⟨by rfl, ?_⟩) (by assumption) ?_
          rotate_left
          · intro w hSw; (try dsimp only at hSw); go_simp; try with_reducible rfl
          try simp only [Act.put, List.getElem_toArray, List.getElem_cons_succ, List.getElem_cons_zero, List.setIfInBounds_toArray, List.set_cons_zero, List.set_cons_succ]
          refine wpAnyH_take (i := 6) (v := ?_) rfl (by kernel_rfl) (by kernel_rfl) (by kernel_rfl) (fun _ _ _ h => h) (Or.inl ⟨by rfl, ?_⟩) (by assumption) ?_
          rotate_left
          · intro w hSw; (try dsimp only at hSw); go_simp; try with_reducible rfl
          try simp only [Act.put, List.getElem_toArray, List.getElem_cons_succ, List.getElem_cons_zero, List.setIfInBounds_toArray, List.set_cons_zero, List.set_cons_succ]
          refine wpAnyH_take (i := 7) (v := ?_) rfl (by kernel_rfl) (by kernel_rfl) (by kernel_rfl) (fun _ _ _ h => h) (Or.inl ⟨by rfl, ?_⟩) (by assumption) ?_
          rotate_left
          · intro w hSw; (try dsimp only at hSw); go_simp; try with_reducible rfl
          try simp only [Act.put, List.getElem_toArray, List.getElem_cons_succ, List.getElem_cons_zero, List.setIfInBounds_toArray, List.set_cons_zero, List.set_cons_succ]
          have SE := S7.out.put (bcells N (.slice az N.q.length cz))
          refine wpAnyH_ready (rs := [9]) (by kernel_rfl) (by simp) (AllReadyH.cons rfl (fun K hK => ?_) AllReadyH.nil)
          rw [if_pos (by rfl)]
          refine wp_store_row 29 (.tmp 6) (.tmp 32) rfl G (bcells N (.slice az N.q.length cz)) rfl rfl 29 _ (S7.out.box (G, 29, #[.int .i64 0, .int .i64 0, .slice none 0 0, .int .i64 0, .int .i64 0, .int .i64 0, .int .i64 0, .bool false]) (by simp)).1 (by kernel_rfl) rfl (bcells_one _ _ _ _) ?_
          refine hK.out _ _ ?_ (fun hHeld => ?_)
          · exact ⟨(SE.box (w.heap.size, 24, (bcells b (.slice a b.q.length c))) (by simp)).1, (SE.box (w.heap.size + 1, 38, #[.int .i64 x.1, .int .i64 x.2.1, .string x.2.2.1, .int .i64 x.2.2.2]) (by simp)).1⟩
          clear hK K
          try simp only [Act.put, List.getElem_toArray, List.getElem_cons_succ, List.getElem_cons_zero, List.setIfInBounds_toArray, List.set_cons_zero, List.set_cons_succ]
          generalize w7.setRow G (bcells N (.slice az N.q.length cz)) = WW at SE hHeld ⊢
          refine wpAnyH_take (i := 10) (v := ?_) rfl (by kernel_rfl) (by kernel_rfl) (by kernel_rfl) (fun _ _ _ h => h) (Or.inl ⟨by rfl, ?_⟩) (by assumption) ?_
          rotate_left
          · intro w hSw; (try dsimp only at hSw); go_simp; try with_reducible rfl
          try simp only [Act.put, List.getElem_toArray, List.getElem_cons_succ, List.getElem_cons_zero, List.setIfInBounds_toArray, List.set_cons_zero, List.set_cons_succ]
          refine wpAnyH_done (by kernel_rfl) ?_ _
          clear hHeld S7
          obtain ⟨bz, hbz⟩ : ∃ b, w6.heap.size = b := ⟨_, rfl⟩
          rw [hbz] at SE
          clear hbz kz KR
          exact tail _ _ _ _ _ _ _ SE
      · skip
        have SA := Lib.hid (S4.out.pushBox 29 #[.int .i64 0, .int .i64 0, .slice none 0 0, .int .i64 0, .int .i64 0, .int .i64 0, .int .i64 0, .bool false] (by simp))
        replace KR := Lib.hid (KR.out.alloc (.cells #[.int .i64 0, .int .i64 0, .slice none 0 0, .int .i64 0, .int .i64 0, .int .i64 0, .int .i64 0, .bool false] 29))
        rw [if_pos (by rfl)]
        go_simp
        refine hK.out _ _ ?_ (fun hHeld => ?_)
        · exact ⟨(SA.out.box (w.heap.size, 24, (bcells b (.slice a b.q.length c))) (by simp)).1, (SA.out.box (w.heap.size + 1, 38, #[.int .i64 x.1, .int .i64 x.2.1, .string x.2.2.1, .int .i64 x.2.2.2]) (by simp)).1⟩
        clear hK K
        try simp only [Act.put, List.getElem_toArray, List.getElem_cons_succ, List.getElem_cons_zero, List.setIfInBounds_toArray, List.set_cons_zero, List.set_cons_succ]
        generalize w4.alloc (.cells #[.int .i64 0, .int .i64 0, .slice none 0 0, .int .i64 0, .int .i64 0, .int .i64 0, .int .i64 0, .bool false] 29) = w5 at SA hHeld KR ⊢
        obtain ⟨G, hG⟩ : ∃ G, w4.heap.size = G := ⟨_, rfl⟩
        rw [hG] at SA ⊢
        clear hG S4
        have S5 := SA
        clear SA
        refine wpAnyH_ready (rs := [3]) (by kernel_rfl) (by simp) (AllReadyH.cons rfl (fun K hK => ?_) AllReadyH.nil)
        rw [if_pos (by rfl)]
        go_simp; go_at_call 17; refine (CU.out _).mono ?_; rintro e w6 ⟨rfl, b6⟩; replace KR := Lib.hid (KR.out.below b6); have S6 := Lib.hid (S5.out.below b6); go_wp2_with fail
        refine hK.out _ _ ?_ (fun hHeld => ?_)
        · exact ⟨(S6.out.box (w.heap.size, 24, (bcells b (.slice a b.q.length c))) (by simp)).1, (S6.out.box (w.heap.size + 1, 38, #[.int .i64 x.1, .int .i64 x.2.1, .string x.2.2.1, .int .i64 x.2.2.2]) (by simp)).1⟩
        clear hK K
        try simp only [Act.put, List.getElem_toArray, List.getElem_cons_succ, List.getElem_cons_zero, List.setIfInBounds_toArray, List.set_cons_zero, List.set_cons_succ]
        clear b6 S5
        refine wpAnyH_ready (rs := [4]) (by kernel_rfl) (by simp) (AllReadyH.cons rfl (fun K hK => ?_) AllReadyH.nil)
        rw [if_pos (by rfl)]
        go_simp; go_at_call 16; refine (CS.out _ _ KR.out).mono ?_; rintro e w7 ⟨uz, rfl, kz, b7⟩; obtain ⟨az, cz, huz⟩ := own_slice kz; subst huz; have S7 := Lib.hid (S6.out.pushRow b7 kz (by simp)); go_wp2_with fail
        refine hK.out _ _ ?_ (fun hHeld => ?_)
        · exact ⟨(S7.out.box (w.heap.size, 24, (bcells b (.slice a b.q.length c))) (by simp)).1, (S7.out.box (w.heap.size + 1, 38, #[.int .i64 x.1, .int .i64 x.2.1, .string x.2.2.1, .int .i64 x.2.2.2]) (by simp)).1⟩
        clear hK K
        try simp only [Act.put, List.getElem_toArray, List.getElem_cons_succ, List.getElem_cons_zero, List.setIfInBounds_toArray, List.set_cons_zero, List.set_cons_succ]
        clear b7 S6
        refine wpAnyH_take (i := 5) (v := ?_) rfl (by kernel_rfl) (by kernel_rfl) (by kernel_rfl) (fun _ _ _ h => h) (Or.inl ⟨by rfl, ?_⟩) (by assumption) ?_
        rotate_left
        · intro w hSw; (try dsimp only at hSw); go_simp; try with_reducible rfl
        try simp only [Act.put, List.getElem_toArray, List.getElem_cons_succ, List.getElem_cons_zero, List.setIfInBounds_toArray, List.set_cons_zero, List.set_cons_succ]
        refine wpAnyH_take (i := 6) (v := ?_) rfl (by kernel_rfl) (by kernel_rfl) (by kernel_rfl) (fun _ _ _ h => h) (Or.inl ⟨by rfl, ?_⟩) (by assumption) ?_
        rotate_left
        · intro w hSw; (try dsimp only at hSw); go_simp; try with_reducible rfl
        try simp only [Act.put, List.getElem_toArray, List.getElem_cons_succ, List.getElem_cons_zero, List.setIfInBounds_toArray, List.set_cons_zero, List.set_cons_succ]
        refine wpAnyH_take (i := 7) (v := ?_) rfl (by kernel_rfl) (by kernel_rfl) (by kernel_rfl) (fun _ _ _ h => h) (Or.inl ⟨by rfl, ?_⟩) (by assumption) ?_
        rotate_left
        · intro w hSw; (try dsimp only at hSw); go_simp; try with_reducible rfl
        try simp only [Act.put, List.getElem_toArray, List.getElem_cons_succ, List.getElem_cons_zero, List.setIfInBounds_toArray, List.set_cons_zero, List.set_cons_succ]
        have SE := S7.out.put (bcells N (.slice az N.q.length cz))
        refine wpAnyH_ready (rs := [9]) (by kernel_rfl) (by simp) (AllReadyH.cons rfl (fun K hK => ?_) AllReadyH.nil)
        rw [if_pos (by rfl)]
        refine wp_store_row 29 (.tmp 6) (.tmp 32) rfl G (bcells N (.slice az N.q.length cz)) rfl rfl 29 _ (S7.out.box (G, 29, #[.int .i64 0, .int .i64 0, .slice none 0 0, .int .i64 0, .int .i64 0, .int .i64 0, .int .i64 0, .bool false]) (by simp)).1 (by kernel_rfl) rfl (bcells_one _ _ _ _) ?_
        refine hK.out _ _ ?_ (fun hHeld => ?_)
        · exact ⟨(SE.box (w.heap.size, 24, (bcells b (.slice a b.q.length c))) (by simp)).1, (SE.box (w.heap.size + 1, 38, #[.int .i64 x.1, .int .i64 x.2.1, .string x.2.2.1, .int .i64 x.2.2.2]) (by simp)).1⟩
        clear hK K
        try simp only [Act.put, List.getElem_toArray, List.getElem_cons_succ, List.getElem_cons_zero, List.setIfInBounds_toArray, List.set_cons_zero, List.set_cons_succ]
        generalize w7.setRow G (bcells N (.slice az N.q.length cz)) = WW at SE hHeld ⊢
        refine wpAnyH_take (i := 10) (v := ?_) rfl (by kernel_rfl) (by kernel_rfl) (by kernel_rfl) (fun _ _ _ h => h) (Or.inl ⟨by rfl, ?_⟩) (by assumption) ?_
        rotate_left
        · intro w hSw; (try dsimp only at hSw); go_simp; try with_reducible rfl
        try simp only [Act.put, List.getElem_toArray, List.getElem_cons_succ, List.getElem_cons_zero, List.setIfInBounds_toArray, List.set_cons_zero, List.set_cons_succ]
        refine wpAnyH_done (by kernel_rfl) ?_ _
        clear hHeld S7
        obtain ⟨bz, hbz⟩ : ∃ b, w6.heap.size = b := ⟨_, rfl⟩
        rw [hbz] at SE
        clear hbz kz KR
        exact tail _ _ _ _ _ _ _ SE
    · skip
      have SA := Lib.hid (S3.out.pushBox 29 #[.int .i64 0, .int .i64 0, .slice none 0 0, .int .i64 0, .int .i64 0, .int .i64 0, .int .i64 0, .bool false] (by simp))
      rw [if_pos (by rfl)]
      go_simp
      refine hK.out _ _ ?_ (fun hHeld => ?_)
      · exact ⟨(SA.out.box (w.heap.size, 24, (bcells b (.slice a b.q.length c))) (by simp)).1, (SA.out.box (w.heap.size + 1, 38, #[.int .i64 x.1, .int .i64 x.2.1, .string x.2.2.1, .int .i64 x.2.2.2]) (by simp)).1⟩
      clear hK K
      try simp only [Act.put, List.getElem_toArray, List.getElem_cons_succ, List.getElem_cons_zero, List.setIfInBounds_toArray, List.set_cons_zero, List.set_cons_succ]
      generalize w3.alloc (.cells #[.int .i64 0, .int .i64 0, .slice none 0 0, .int .i64 0, .int .i64 0, .int .i64 0, .int .i64 0, .bool false] 29) = w4 at SA hHeld ⊢
      obtain ⟨G, hG⟩ : ∃ G, w3.heap.size = G := ⟨_, rfl⟩
      rw [hG] at SA ⊢
      clear hG S3
      have S4 := SA
      clear SA
      refine wpAnyH_ready (rs := [1]) (by kernel_rfl) (by simp) (AllReadyH.cons rfl (fun K hK => ?_) AllReadyH.nil)
      rw [if_pos (by rfl)]
      go_simp; go_at_call 8; refine (CT.out _ (HV.out.below S4.out.bw)).mono ?_; rintro e w5 ⟨ur, rfl, kr, b5⟩; have KR := Lib.hid (own_msgs_at kr); obtain ⟨ar, cr, hur⟩ := own_slice kr; subst hur; clear kr; have S5 := Lib.hid (S4.out.below b5); go_wp2_with fail
      refine hK.out _ _ ?_ (fun hHeld => ?_)
      · exact ⟨(S5.out.box (w.heap.size, 24, (bcells b (.slice a b.q.length c))) (by simp)).1, (S5.out.box (w.heap.size + 1, 38, #[.int .i64 x.1, .int .i64 x.2.1, .string x.2.2.1, .int .i64 x.2.2.2]) (by simp)).1⟩
      clear hK K
      try simp only [Act.put, List.getElem_toArray, List.getElem_cons_succ, List.getElem_cons_zero, List.setIfInBounds_toArray, List.set_cons_zero, List.set_cons_succ]
      clear b5 S4
      refine wpAnyH_ready (rs := [3]) (by kernel_rfl) (by simp) (AllReadyH.cons rfl (fun K hK => ?_) AllReadyH.nil)
      rw [if_pos (by rfl)]
      go_simp; go_at_call 17; refine (CU.out _).mono ?_; rintro e w6 ⟨rfl, b6⟩; replace KR := Lib.hid (KR.out.below b6); have S6 := Lib.hid (S5.out.below b6); go_wp2_with fail
      refine hK.out _ _ ?_ (fun hHeld => ?_)
      · exact ⟨(S6.out.box (w.heap.size, 24, (bcells b (.slice a b.q.length c))) (by simp)).1, (S6.out.box (w.heap.size + 1, 38, #[.int .i64 x.1, .int .i64 x.2.1, .string x.2.2.1, .int .i64 x.2.2.2]) (by simp)).1⟩
      clear hK K
      try simp only [Act.put, List.getElem_toArray, List.getElem_cons_succ, List.getElem_cons_zero, List.setIfInBounds_toArray, List.set_cons_zero, List.set_cons_succ]
      clear b6 S5
      refine wpAnyH_ready (rs := [4]) (by kernel_rfl) (by simp) (AllReadyH.cons rfl (fun K hK => ?_) AllReadyH.nil)
      rw [if_pos (by rfl)]
      go_simp; go_at_call 16; refine (CS.out _ _ KR.out).mono ?_; rintro e w7 ⟨uz, rfl, kz, b7⟩; obtain ⟨az, cz, huz⟩ := own_slice kz; subst huz; have S7 := Lib.hid (S6.out.pushRow b7 kz (by simp)); go_wp2_with fail
      refine hK.out _ _ ?_ (fun hHeld => ?_)
      · exact ⟨(S7.out.box (w.heap.size, 24, (bcells b (.slice a b.q.length c))) (by simp)).1, (S7.out.box (w.heap.size + 1, 38, #[.int .i64 x.1, .int .i64 x.2.1, .string x.2.2.1, .int .i64 x.2.2.2]) (by simp)).1⟩
      clear hK K
      try simp only [Act.put, List.getElem_toArray, List.getElem_cons_succ, List.getElem_cons_zero, List.setIfInBounds_toArray, List.set_cons_zero, List.set_cons_succ]
      clear b7 S6
      refine wpAnyH_take (i := 5) (v := ?_) rfl (by kernel_rfl) (by kernel_rfl) (by kernel_rfl) (fun _ _ _ h => h) (Or.inl ⟨by rfl, ?_⟩) (by assumption) ?_
      rotate_left
      · intro w hSw; (try dsimp only at hSw); go_simp; try with_reducible rfl
      try simp only [Act.put, List.getElem_toArray, List.getElem_cons_succ, List.getElem_cons_zero, List.setIfInBounds_toArray, List.set_cons_zero, List.set_cons_succ]
      refine wpAnyH_take (i := 6) (v := ?_) rfl (by kernel_rfl) (by kernel_rfl) (by kernel_rfl) (fun _ _ _ h => h) (Or.inl ⟨by rfl, ?_⟩) (by assumption) ?_
      rotate_left
      · intro w hSw; (try dsimp only at hSw); go_simp; try with_reducible rfl
      try simp only [Act.put, List.getElem_toArray, List.getElem_cons_succ, List.getElem_cons_zero, List.setIfInBounds_toArray, List.set_cons_zero, List.set_cons_succ]
      refine wpAnyH_take (i := 7) (v := ?_) rfl (by kernel_rfl) (by kernel_rfl) (by kernel_rfl) (fun _ _ _ h => h) (Or.inl ⟨by rfl, ?_⟩) (by assumption) ?_
      rotate_left
      · intro w hSw; (try dsimp only at hSw); go_simp; try with_reducible rfl
      try simp only [Act.put, List.getElem_toArray, List.getElem_cons_succ, List.getElem_cons_zero, List.setIfInBounds_toArray, List.set_cons_zero, List.set_cons_succ]
      have SE := S7.out.put (bcells N (.slice az N.q.length cz))
      refine wpAnyH_ready (rs := [9]) (by kernel_rfl) (by simp) (AllReadyH.cons rfl (fun K hK => ?_) AllReadyH.nil)
      rw [if_pos (by rfl)]
      refine wp_store_row 29 (.tmp 6) (.tmp 32) rfl G (bcells N (.slice az N.q.length cz)) rfl rfl 29 _ (S7.out.box (G, 29, #[.int .i64 0, .int .i64 0, .slice none 0 0, .int .i64 0, .int .i64 0, .int .i64 0, .int .i64 0, .bool false]) (by simp)).1 (by kernel_rfl) rfl (bcells_one _ _ _ _) ?_
      refine hK.out _ _ ?_ (fun hHeld => ?_)
      · exact ⟨(SE.box (w.heap.size, 24, (bcells b (.slice a b.q.length c))) (by simp)).1, (SE.box (w.heap.size + 1, 38, #[.int .i64 x.1, .int .i64 x.2.1, .string x.2.2.1, .int .i64 x.2.2.2]) (by simp)).1⟩
      clear hK K
      try simp only [Act.put, List.getElem_toArray, List.getElem_cons_succ, List.getElem_cons_zero, List.setIfInBounds_toArray, List.set_cons_zero, List.set_cons_succ]
      generalize w7.setRow G (bcells N (.slice az N.q.length cz)) = WW at SE hHeld ⊢
      refine wpAnyH_take (i := 10) (v := ?_) rfl (by kernel_rfl) (by kernel_rfl) (by kernel_rfl) (fun _ _ _ h => h) (Or.inl ⟨by rfl, ?_⟩) (by assumption) ?_
      rotate_left
      · intro w hSw; (try dsimp only at hSw); go_simp; try with_reducible rfl
      try simp only [Act.put, List.getElem_toArray, List.getElem_cons_succ, List.getElem_cons_zero, List.setIfInBounds_toArray, List.set_cons_zero, List.set_cons_succ]
      refine wpAnyH_done (by kernel_rfl) ?_ _
      clear hHeld S7
      obtain ⟨bz, hbz⟩ : ∃ b, w6.heap.size = b := ⟨_, rfl⟩
      rw [hbz] at SE
      clear hbz kz KR
      exact tail _ _ _ _ _ _ _ SE
  intro arA crA azA czA GA w3 bzA SEA
  have S3 := Lib.hid SEA
  clear SEA S2
  go_wp2_with (first | refine wpList_load_row rfl 24 (.tmp 2) rfl w.heap.size rfl 24 (bcells b (.slice a b.q.length c)) (0, 0) _ (S3.out.box (w.heap.size, 24, (bcells b (.slice a b.q.length c))) (by simp)).1 Tryd.underlying24 rfl (by kernel_rfl) ?_)
  refine (CT.out _ (HV.out.below S3.out.bw)).mono ?_
  rintro e w4 ⟨u4, rfl, k4, b4⟩
  obtain ⟨a4, c4, hu4⟩ := own_slice k4; subst hu4
  have S4 := Lib.hid (S3.out.pushRow b4 k4 (by simp))
  clear b4 S3
  go_upto_region 10 with (fail)
  have S5 := Lib.hid (S4.out.pushBox 29 (bcells b (.slice a4 b.q.length c4)) (by simp))
  generalize w4.alloc (.cells (bcells b (.slice a4 b.q.length c4)) 29) = w5 at S5 ⊢
  obtain ⟨G8, hG8⟩ : ∃ G, w4.heap.size = G := ⟨_, rfl⟩
  rw [hG8] at S5 ⊢
  clear hG8 S4
  go_upto_region 10 with (fail)
  refine (fun (tail : ?TB) => ?mainB) ?pfB
  case mainB =>
    have SD := S5.out.below (show Below w5.heap.size w5 w5.drew from (Below.refl _ _).drew)
    refine wp_region_held_drew (S := fun wx => wx.heap[G8]? = some (.cells (bcells b (.slice a4 b.q.length c4)) 29 (0, 0)) ∧ wx.heap[w.heap.size + 1]? = some (.cells #[.int .i64 x.1, .int .i64 x.2.1, .string x.2.2.1, .int .i64 x.2.2.2] 38 (0, 0))) (by kernel_rfl) ?_ (fun hHeld => ?_)
    · exact ⟨(SD.box (G8, 29, (bcells b (.slice a4 b.q.length c4))) (by simp)).1, (SD.box (w.heap.size + 1, 38, #[.int .i64 x.1, .int .i64 x.2.1, .string x.2.2.1, .int .i64 x.2.2.2]) (by simp)).1⟩
    change wpAnyH _ _ _ _ _ 10 #[false, false, false, false, false, false, false, false, false, false] _ _
    have S6 := Lib.hid SD
    clear SD
    generalize w5.drew = w6 at S6 hHeld ⊢
    refine wpAnyH_take (i := 0) (v := bagg b (.slice a4 b.q.length c4)) rfl (by kernel_rfl) (by kernel_rfl) (by kernel_rfl) (fun _ _ _ h => h) (yieldsIf_load_mid rfl 29 (.tmp 8) rfl G8 0 rfl [.int .i64 b.cap, .int .i64 b.pol, (.slice a4 b.q.length c4), .int .i64 b.ofr, .int .i64 b.rcv, .int .i64 b.drp, .int .i64 b.mrg, .bool b.shut] _ (fun wx h => range_of_heap h.1) Tryd.underlying29 rfl (by kernel_rfl)) (by assumption) ?_
    try simp only [Act.put, List.getElem_toArray, List.getElem_cons_succ, List.getElem_cons_zero, List.setIfInBounds_toArray, List.set_cons_zero, List.set_cons_succ]
    refine wpAnyH_take (i := 1) (v := magg x) rfl (by kernel_rfl) (by kernel_rfl) (by kernel_rfl) (fun _ _ _ h => h) (yieldsIf_load_mid rfl 38 (.tmp 3) rfl (w.heap.size + 1) 0 rfl [.int .i64 x.1, .int .i64 x.2.1, .string x.2.2.1, .int .i64 x.2.2.2] _ (fun wx h => range_of_heap h.2) Tryd.underlying38 rfl (by kernel_rfl)) (by assumption) ?_
    try simp only [Act.put, List.getElem_toArray, List.getElem_cons_succ, List.getElem_cons_zero, List.setIfInBounds_toArray, List.set_cons_zero, List.set_cons_succ]
    refine wpAnyH_ready (rs := [2, 7]) (by kernel_rfl) (by simp) (AllReadyH.cons rfl (fun K hK => ?_) (AllReadyH.cons rfl (fun K hK => ?_) AllReadyH.nil))
    · skip
      rw [if_pos (by rfl)]
      go_simp; go_at_call 17; refine (CU.out _).mono ?_; rintro e w7 ⟨rfl, b7⟩; have S7 := Lib.hid (S6.out.below b7); go_wp2_with fail
      refine hK.out _ _ ?_ (fun hHeld => ?_)
      · exact ⟨(S7.out.box (G8, 29, (bcells b (.slice a4 b.q.length c4))) (by simp)).1, (S7.out.box (w.heap.size + 1, 38, #[.int .i64 x.1, .int .i64 x.2.1, .string x.2.2.1, .int .i64 x.2.2.2]) (by simp)).1⟩
      clear hK K
      try simp only [Act.put, List.getElem_toArray, List.getElem_cons_succ, List.getElem_cons_zero, List.setIfInBounds_toArray, List.set_cons_zero, List.set_cons_succ]
      clear b7 S6
      refine wpAnyH_ready (rs := [3, 7]) (by kernel_rfl) (by simp) (AllReadyH.cons rfl (fun K hK => ?_) (AllReadyH.cons rfl (fun K hK => ?_) AllReadyH.nil))
      · skip
        rw [if_pos (by rfl)]
        go_simp; go_at_call 18; refine (CI.out _ _ (own_msgs_at (show MOwn w7 w3.heap.size (.slice a4 b.q.length c4) b.q from (S7.out.row ⟨w3.heap.size, 42, 4, (.slice a4 b.q.length c4), b.q.length, mcells b.q⟩ (by simp)).1)) ((S7.out.bw.cell hlt).trans HM.out)).mono ?_; rintro e w8 ⟨Vz, uz, prez, postz, rfl, kz, ptz, b8⟩; obtain ⟨Xz, Yz, hXz, pz⟩ := part_kitBK (b := N) (post := postz) ptz HL8.out HKY.out; obtain ⟨az, cz, huz⟩ := ptz.slice; subst huz; rw [hXz] at kz; have PZ := Lib.hid pz; clear hXz ptz prez postz pz; have S8 := Lib.hid (S7.out.pushRow b8 kz (by simp)); go_wp2_with fail
        refine hK.out _ _ ?_ (fun hHeld => ?_)
        · exact ⟨(S8.out.box (G8, 29, (bcells b (.slice a4 b.q.length c4))) (by simp)).1, (S8.out.box (w.heap.size + 1, 38, #[.int .i64 x.1, .int .i64 x.2.1, .string x.2.2.1, .int .i64 x.2.2.2]) (by simp)).1⟩
        clear hK K
        try simp only [Act.put, List.getElem_toArray, List.getElem_cons_succ, List.getElem_cons_zero, List.setIfInBounds_toArray, List.set_cons_zero, List.set_cons_succ]
        clear b8 S7
        refine wpAnyH_take (i := 4) (v := ?_) rfl (by kernel_rfl) (by kernel_rfl) (by kernel_rfl) (fun _ _ _ h => h) (Or.inl ⟨by rfl, ?_⟩) (by assumption) ?_
        rotate_left
        · intro w hSw; (try dsimp only at hSw); go_simp; try with_reducible rfl
        try simp only [Act.put, List.getElem_toArray, List.getElem_cons_succ, List.getElem_cons_zero, List.setIfInBounds_toArray, List.set_cons_zero, List.set_cons_succ]
        refine wpAnyH_take (i := 5) (v := ?_) rfl (by kernel_rfl) (by kernel_rfl) (by kernel_rfl) (fun _ _ _ h => h) (Or.inl ⟨by rfl, ?_⟩) (by assumption) ?_
        rotate_left
        · intro w hSw; (try dsimp only at hSw); go_simp; try with_reducible rfl
        try simp only [Act.put, List.getElem_toArray, List.getElem_cons_succ, List.getElem_cons_zero, List.setIfInBounds_toArray, List.set_cons_zero, List.set_cons_succ]
        refine wpAnyH_take (i := 6) (v := ?_) rfl (by kernel_rfl) (by kernel_rfl) (by kernel_rfl) (fun _ _ _ h => h) (Or.inl ⟨by rfl, ?_⟩) (by assumption) ?_
        rotate_left
        · intro w hSw; (try dsimp only at hSw); go_simp; try with_reducible rfl
        try simp only [Act.put, List.getElem_toArray, List.getElem_cons_succ, List.getElem_cons_zero, List.setIfInBounds_toArray, List.set_cons_zero, List.set_cons_succ]
        have SA := Lib.hid (S8.out.pushBox 29 #[.int .i64 0, .int .i64 0, .slice none 0 0, .int .i64 0, .int .i64 0, .int .i64 0, .int .i64 0, .bool false] (by simp))
        refine wpAnyH_ready (rs := [7]) (by kernel_rfl) (by simp) (AllReadyH.cons rfl (fun K hK => ?_) AllReadyH.nil)
        rw [if_pos (by rfl)]
        go_simp
        refine hK.out _ _ ?_ (fun hHeld => ?_)
        · exact ⟨(SA.out.box (G8, 29, (bcells b (.slice a4 b.q.length c4))) (by simp)).1, (SA.out.box (w.heap.size + 1, 38, #[.int .i64 x.1, .int .i64 x.2.1, .string x.2.2.1, .int .i64 x.2.2.2]) (by simp)).1⟩
        clear hK K
        try simp only [Act.put, List.getElem_toArray, List.getElem_cons_succ, List.getElem_cons_zero, List.setIfInBounds_toArray, List.set_cons_zero, List.set_cons_succ]
        generalize w8.alloc (.cells #[.int .i64 0, .int .i64 0, .slice none 0 0, .int .i64 0, .int .i64 0, .int .i64 0, .int .i64 0, .bool false] 29) = w9 at SA hHeld ⊢
        obtain ⟨G, hG⟩ : ∃ G, w8.heap.size = G := ⟨_, rfl⟩
        rw [hG] at SA ⊢
        clear hG S8
        have S9 := SA
        clear SA
        have SE := S9.out.put (bcells N (.slice az N.q.length cz))
        refine wpAnyH_ready (rs := [8]) (by kernel_rfl) (by simp) (AllReadyH.cons rfl (fun K hK => ?_) AllReadyH.nil)
        rw [if_pos (by rfl)]
        refine wp_store_row 29 (.tmp 9) (.tmp 41) rfl G (bcells N (.slice az N.q.length cz)) rfl rfl 29 _ (S9.out.box (G, 29, #[.int .i64 0, .int .i64 0, .slice none 0 0, .int .i64 0, .int .i64 0, .int .i64 0, .int .i64 0, .bool false]) (by simp)).1 (by kernel_rfl) rfl (bcells_one _ _ _ _) ?_
        refine hK.out _ _ ?_ (fun hHeld => ?_)
        · exact ⟨(SE.box (G8, 29, (bcells b (.slice a4 b.q.length c4))) (by simp)).1, (SE.box (w.heap.size + 1, 38, #[.int .i64 x.1, .int .i64 x.2.1, .string x.2.2.1, .int .i64 x.2.2.2]) (by simp)).1⟩
        clear hK K
        try simp only [Act.put, List.getElem_toArray, List.getElem_cons_succ, List.getElem_cons_zero, List.setIfInBounds_toArray, List.set_cons_zero, List.set_cons_succ]
        generalize w9.setRow G (bcells N (.slice az N.q.length cz)) = WW at SE hHeld ⊢
        refine wpAnyH_take (i := 9) (v := ?_) rfl (by kernel_rfl) (by kernel_rfl) (by kernel_rfl) (fun _ _ _ h => h) (Or.inl ⟨by rfl, ?_⟩) (by assumption) ?_
        rotate_left
        · intro w hSw; (try dsimp only at hSw); go_simp; try with_reducible rfl
        try simp only [Act.put, List.getElem_toArray, List.getElem_cons_succ, List.getElem_cons_zero, List.setIfInBounds_toArray, List.set_cons_zero, List.set_cons_succ]
        refine wpAnyH_done (by kernel_rfl) ?_ _
        clear hHeld S9
        obtain ⟨bz, hbz⟩ : ∃ b, w7.heap.size = b := ⟨_, rfl⟩
        rw [hbz] at SE
        clear hbz kz
        revert SE
        revert PZ
        revert Vz Xz Yz az cz G WW bz
        exact tail
      · skip
        have SA := Lib.hid (S7.out.pushBox 29 #[.int .i64 0, .int .i64 0, .slice none 0 0, .int .i64 0, .int .i64 0, .int .i64 0, .int .i64 0, .bool false] (by simp))
        rw [if_pos (by rfl)]
        go_simp
        refine hK.out _ _ ?_ (fun hHeld => ?_)
        · exact ⟨(SA.out.box (G8, 29, (bcells b (.slice a4 b.q.length c4))) (by simp)).1, (SA.out.box (w.heap.size + 1, 38, #[.int .i64 x.1, .int .i64 x.2.1, .string x.2.2.1, .int .i64 x.2.2.2]) (by simp)).1⟩
        clear hK K
        try simp only [Act.put, List.getElem_toArray, List.getElem_cons_succ, List.getElem_cons_zero, List.setIfInBounds_toArray, List.set_cons_zero, List.set_cons_succ]
        generalize w7.alloc (.cells #[.int .i64 0, .int .i64 0, .slice none 0 0, .int .i64 0, .int .i64 0, .int .i64 0, .int .i64 0, .bool false] 29) = w8 at SA hHeld ⊢
        obtain ⟨G, hG⟩ : ∃ G, w7.heap.size = G := ⟨_, rfl⟩
        rw [hG] at SA ⊢
        clear hG S7
        have S8 := SA
        clear SA
        refine wpAnyH_ready (rs := [3]) (by kernel_rfl) (by simp) (AllReadyH.cons rfl (fun K hK => ?_) AllReadyH.nil)
        rw [if_pos (by rfl)]
        go_simp; go_at_call 18; refine (CI.out _ _ (own_msgs_at (show MOwn w8 w3.heap.size (.slice a4 b.q.length c4) b.q from (S8.out.row ⟨w3.heap.size, 42, 4, (.slice a4 b.q.length c4), b.q.length, mcells b.q⟩ (by simp)).1)) ((S8.out.bw.cell hlt).trans HM.out)).mono ?_; rintro e w9 ⟨Vz, uz, prez, postz, rfl, kz, ptz, b9⟩; obtain ⟨Xz, Yz, hXz, pz⟩ := part_kitBK (b := N) (post := postz) ptz HL8.out HKY.out; obtain ⟨az, cz, huz⟩ := ptz.slice; subst huz; rw [hXz] at kz; have PZ := Lib.hid pz; clear hXz ptz prez postz pz; have S9 := Lib.hid (S8.out.pushRow b9 kz (by simp)); go_wp2_with fail
        refine hK.out _ _ ?_ (fun hHeld => ?_)
        · exact ⟨(S9.out.box (G8, 29, (bcells b (.slice a4 b.q.length c4))) (by simp)).1, (S9.out.box (w.heap.size + 1, 38, #[.int .i64 x.1, .int .i64 x.2.1, .string x.2.2.1, .int .i64 x.2.2.2]) (by simp)).1⟩
        clear hK K
        try simp only [Act.put, List.getElem_toArray, List.getElem_cons_succ, List.getElem_cons_zero, List.setIfInBounds_toArray, List.set_cons_zero, List.set_cons_succ]
        clear b9 S8
        refine wpAnyH_take (i := 4) (v := ?_) rfl (by kernel_rfl) (by kernel_rfl) (by kernel_rfl) (fun _ _ _ h => h) (Or.inl ⟨by rfl, ?_⟩) (by assumption) ?_
        rotate_left
        · intro w hSw; (try dsimp only at hSw); go_simp; try with_reducible rfl
        try simp only [Act.put, List.getElem_toArray, List.getElem_cons_succ, List.getElem_cons_zero, List.setIfInBounds_toArray, List.set_cons_zero, List.set_cons_succ]
        refine wpAnyH_take (i := 5) (v := ?_) rfl (by kernel_rfl) (by kernel_rfl) (by kernel_rfl) (fun _ _ _ h => h) (Or.inl ⟨by rfl, ?_⟩) (by assumption) ?_
        rotate_left
        · intro w hSw; (try dsimp only at hSw); go_simp; try with_reducible rfl
        try simp only [Act.put, List.getElem_toArray, List.getElem_cons_succ, List.getElem_cons_zero, List.setIfInBounds_toArray, List.set_cons_zero, List.set_cons_succ]
        refine wpAnyH_take (i := 6) (v := ?_) rfl (by kernel_rfl) (by kernel_rfl) (by kernel_rfl) (fun _ _ _ h => h) (Or.inl ⟨by rfl, ?_⟩) (by assumption) ?_
        rotate_left
        · intro w hSw; (try dsimp only at hSw); go_simp; try with_reducible rfl
        try simp only [Act.put, List.getElem_toArray, List.getElem_cons_succ, List.getElem_cons_zero, List.setIfInBounds_toArray, List.set_cons_zero, List.set_cons_succ]
        have SE := S9.out.put (bcells N (.slice az N.q.length cz))
        refine wpAnyH_ready (rs := [8]) (by kernel_rfl) (by simp) (AllReadyH.cons rfl (fun K hK => ?_) AllReadyH.nil)
        rw [if_pos (by rfl)]
        refine wp_store_row 29 (.tmp 9) (.tmp 41) rfl G (bcells N (.slice az N.q.length cz)) rfl rfl 29 _ (S9.out.box (G, 29, #[.int .i64 0, .int .i64 0, .slice none 0 0, .int .i64 0, .int .i64 0, .int .i64 0, .int .i64 0, .bool false]) (by simp)).1 (by kernel_rfl) rfl (bcells_one _ _ _ _) ?_
        refine hK.out _ _ ?_ (fun hHeld => ?_)
        · exact ⟨(SE.box (G8, 29, (bcells b (.slice a4 b.q.length c4))) (by simp)).1, (SE.box (w.heap.size + 1, 38, #[.int .i64 x.1, .int .i64 x.2.1, .string x.2.2.1, .int .i64 x.2.2.2]) (by simp)).1⟩
        clear hK K
        try simp only [Act.put, List.getElem_toArray, List.getElem_cons_succ, List.getElem_cons_zero, List.setIfInBounds_toArray, List.set_cons_zero, List.set_cons_succ]
        generalize w9.setRow G (bcells N (.slice az N.q.length cz)) = WW at SE hHeld ⊢
        refine wpAnyH_take (i := 9) (v := ?_) rfl (by kernel_rfl) (by kernel_rfl) (by kernel_rfl) (fun _ _ _ h => h) (Or.inl ⟨by rfl, ?_⟩) (by assumption) ?_
        rotate_left
        · intro w hSw; (try dsimp only at hSw); go_simp; try with_reducible rfl
        try simp only [Act.put, List.getElem_toArray, List.getElem_cons_succ, List.getElem_cons_zero, List.setIfInBounds_toArray, List.set_cons_zero, List.set_cons_succ]
        refine wpAnyH_done (by kernel_rfl) ?_ _
        clear hHeld S9
        obtain ⟨bz, hbz⟩ : ∃ b, w8.heap.size = b := ⟨_, rfl⟩
        rw [hbz] at SE
        clear hbz kz
        exact tail _ _ _ _ _ _ _ _ PZ SE
    · skip
      have SA := Lib.hid (S6.out.pushBox 29 #[.int .i64 0, .int .i64 0, .slice none 0 0, .int .i64 0, .int .i64 0, .int .i64 0, .int .i64 0, .bool false] (by simp))
      rw [if_pos (by rfl)]
      go_simp
      refine hK.out _ _ ?_ (fun hHeld => ?_)
      · exact ⟨(SA.out.box (G8, 29, (bcells b (.slice a4 b.q.length c4))) (by simp)).1, (SA.out.box (w.heap.size + 1, 38, #[.int .i64 x.1, .int .i64 x.2.1, .string x.2.2.1, .int .i64 x.2.2.2]) (by simp)).1⟩
      clear hK K
      try simp only [Act.put, List.getElem_toArray, List.getElem_cons_succ, List.getElem_cons_zero, List.setIfInBounds_toArray, List.set_cons_zero, List.set_cons_succ]
      generalize w6.alloc (.cells #[.int .i64 0, .int .i64 0, .slice none 0 0, .int .i64 0, .int .i64 0, .int .i64 0, .int .i64 0, .bool false] 29) = w7 at SA hHeld ⊢
      obtain ⟨G, hG⟩ : ∃ G, w6.heap.size = G := ⟨_, rfl⟩
      rw [hG] at SA ⊢
      clear hG S6
      have S7 := SA
      clear SA
      refine wpAnyH_ready (rs := [2]) (by kernel_rfl) (by simp) (AllReadyH.cons rfl (fun K hK => ?_) AllReadyH.nil)
      rw [if_pos (by rfl)]
      go_simp; go_at_call 17; refine (CU.out _).mono ?_; rintro e w8 ⟨rfl, b8⟩; have S8 := Lib.hid (S7.out.below b8); go_wp2_with fail
      refine hK.out _ _ ?_ (fun hHeld => ?_)
      · exact ⟨(S8.out.box (G8, 29, (bcells b (.slice a4 b.q.length c4))) (by simp)).1, (S8.out.box (w.heap.size + 1, 38, #[.int .i64 x.1, .int .i64 x.2.1, .string x.2.2.1, .int .i64 x.2.2.2]) (by simp)).1⟩
      clear hK K
      try simp only [Act.put, List.getElem_toArray, List.getElem_cons_succ, List.getElem_cons_zero, List.setIfInBounds_toArray, List.set_cons_zero, List.set_cons_succ]
      clear b8 S7
      refine wpAnyH_ready (rs := [3]) (by kernel_rfl) (by simp) (AllReadyH.cons rfl (fun K hK => ?_) AllReadyH.nil)
      rw [if_pos (by rfl)]
      go_simp; go_at_call 18; refine (CI.out _ _ (own_msgs_at (show MOwn w8 w3.heap.size (.slice a4 b.q.length c4) b.q from (S8.out.row ⟨w3.heap.size, 42, 4, (.slice a4 b.q.length c4), b.q.length, mcells b.q⟩ (by simp)).1)) ((S8.out.bw.cell hlt).trans HM.out)).mono ?_; rintro e w9 ⟨Vz, uz, prez, postz, rfl, kz, ptz, b9⟩; obtain ⟨Xz, Yz, hXz, pz⟩ := part_kitBK (b := N) (post := postz) ptz HL8.out HKY.out; obtain ⟨az, cz, huz⟩ := ptz.slice; subst huz; rw [hXz] at kz; have PZ := Lib.hid pz; clear hXz ptz prez postz pz; have S9 := Lib.hid (S8.out.pushRow b9 kz (by simp)); go_wp2_with fail
      refine hK.out _ _ ?_ (fun hHeld => ?_)
      · exact ⟨(S9.out.box (G8, 29, (bcells b (.slice a4 b.q.length c4))) (by simp)).1, (S9.out.box (w.heap.size + 1, 38, #[.int .i64 x.1, .int .i64 x.2.1, .string x.2.2.1, .int .i64 x.2.2.2]) (by simp)).1⟩
      clear hK K
      try simp only [Act.put, List.getElem_toArray, List.getElem_cons_succ, List.getElem_cons_zero, List.setIfInBounds_toArray, List.set_cons_zero, List.set_cons_succ]
      clear b9 S8
      refine wpAnyH_take (i := 4) (v := ?_) rfl (by kernel_rfl) (by kernel_rfl) (by kernel_rfl) (fun _ _ _ h => h) (Or.inl ⟨by rfl, ?_⟩) (by assumption) ?_
      rotate_left
      · intro w hSw; (try dsimp only at hSw); go_simp; try with_reducible rfl
      try simp only [Act.put, List.getElem_toArray, List.getElem_cons_succ, List.getElem_cons_zero, List.setIfInBounds_toArray, List.set_cons_zero, List.set_cons_succ]
      refine wpAnyH_take (i := 5) (v := ?_) rfl (by kernel_rfl) (by kernel_rfl) (by kernel_rfl) (fun _ _ _ h => h) (Or.inl ⟨by rfl, ?_⟩) (by assumption) ?_
      rotate_left
      · intro w hSw; (try dsimp only at hSw); go_simp; try with_reducible rfl
      try simp only [Act.put, List.getElem_toArray, List.getElem_cons_succ, List.getElem_cons_zero, List.setIfInBounds_toArray, List.set_cons_zero, List.set_cons_succ]
      refine wpAnyH_take (i := 6) (v := ?_) rfl (by kernel_rfl) (by kernel_rfl) (by kernel_rfl) (fun _ _ _ h => h) (Or.inl ⟨by rfl, ?_⟩) (by assumption) ?_
      rotate_left
      · intro w hSw; (try dsimp only at hSw); go_simp; try with_reducible rfl
      try simp only [Act.put, List.getElem_toArray, List.getElem_cons_succ, List.getElem_cons_zero, List.setIfInBounds_toArray, List.set_cons_zero, List.set_cons_succ]
      have SE := S9.out.put (bcells N (.slice az N.q.length cz))
      refine wpAnyH_ready (rs := [8]) (by kernel_rfl) (by simp) (AllReadyH.cons rfl (fun K hK => ?_) AllReadyH.nil)
      rw [if_pos (by rfl)]
      refine wp_store_row 29 (.tmp 9) (.tmp 41) rfl G (bcells N (.slice az N.q.length cz)) rfl rfl 29 _ (S9.out.box (G, 29, #[.int .i64 0, .int .i64 0, .slice none 0 0, .int .i64 0, .int .i64 0, .int .i64 0, .int .i64 0, .bool false]) (by simp)).1 (by kernel_rfl) rfl (bcells_one _ _ _ _) ?_
      refine hK.out _ _ ?_ (fun hHeld => ?_)
      · exact ⟨(SE.box (G8, 29, (bcells b (.slice a4 b.q.length c4))) (by simp)).1, (SE.box (w.heap.size + 1, 38, #[.int .i64 x.1, .int .i64 x.2.1, .string x.2.2.1, .int .i64 x.2.2.2]) (by simp)).1⟩
      clear hK K
      try simp only [Act.put, List.getElem_toArray, List.getElem_cons_succ, List.getElem_cons_zero, List.setIfInBounds_toArray, List.set_cons_zero, List.set_cons_succ]
      generalize w9.setRow G (bcells N (.slice az N.q.length cz)) = WW at SE hHeld ⊢
      refine wpAnyH_take (i := 9) (v := ?_) rfl (by kernel_rfl) (by kernel_rfl) (by kernel_rfl) (fun _ _ _ h => h) (Or.inl ⟨by rfl, ?_⟩) (by assumption) ?_
      rotate_left
      · intro w hSw; (try dsimp only at hSw); go_simp; try with_reducible rfl
      try simp only [Act.put, List.getElem_toArray, List.getElem_cons_succ, List.getElem_cons_zero, List.setIfInBounds_toArray, List.set_cons_zero, List.set_cons_succ]
      refine wpAnyH_done (by kernel_rfl) ?_ _
      clear hHeld S9
      obtain ⟨bz, hbz⟩ : ∃ b, w8.heap.size = b := ⟨_, rfl⟩
      rw [hbz] at SE
      clear hbz kz
      exact tail _ _ _ _ _ _ _ _ PZ SE
  intro VzB XzB YzB azB czB GB w6 bzB PZB SEB
  have S6 := Lib.hid SEB
  clear SEB S5
  go_wp2_with (first | refine wpList_load_row rfl 29 (.tmp 9) rfl GB rfl 29 (bcells N (.slice azB N.q.length czB)) (0, 0) _ (S6.out.box (GB, 29, (bcells N (.slice azB N.q.length czB))) (by simp)).1 Tryd.underlying29 rfl (by kernel_rfl) ?_ | refine wpList_load_row rfl 29 (.tmp 6) rfl GA rfl 29 (bcells N (.slice azA N.q.length czA)) (0, 0) _ (S6.out.box (GA, 29, (bcells N (.slice azA N.q.length czA))) (by simp)).1 Tryd.underlying29 rfl (by kernel_rfl) ?_)
  refine (CE.out _ _ _ (PZB.out.reads _ _ (show MOwn w6 bzB VzB XzB from (S6.out.row ⟨bzB, 42, 4, VzB, XzB.length, mcells XzB⟩ (by simp)).1)) (own_msgs_at (show MOwn w6 bzA (.slice azA N.q.length czA) N.q from (S6.out.row ⟨bzA, 42, 4, (.slice azA N.q.length czA), N.q.length, mcells N.q⟩ (by simp)).1))).mono ?_
  rintro e w7 ⟨rfl, b7⟩
  have S7 := Lib.hid (S6.out.below b7)
  clear b7 S6
  go_upto_region 13 with (fail)
  have SD := S7.out.below (show Below w7.heap.size w7 w7.drew from (Below.refl _ _).drew)
  refine wp_region_held_drew (S := fun wx => wx.heap[G8]? = some (.cells (bcells b (.slice a4 b.q.length c4)) 29 (0, 0)) ∧ wx.heap[w.heap.size]? = some (.cells (bcells b (.slice a b.q.length c)) 24 (0, 0))) (by kernel_rfl) ?_ (fun hHeld => ?_)
  · exact ⟨(SD.box (G8, 29, (bcells b (.slice a4 b.q.length c4))) (by simp)).1, (SD.box (w.heap.size, 24, (bcells b (.slice a b.q.length c))) (by simp)).1⟩
  change wpAnyH _ _ _ _ _ 5 #[false, false, false, false, false] _ _
  have SD := Lib.hid SD
  refine wpAnyH_take (i := 0) (v := bagg b (.slice a4 b.q.length c4)) rfl (by kernel_rfl) (by kernel_rfl) (by kernel_rfl) (fun _ _ _ h => h) (yieldsIf_load_mid rfl 29 (.tmp 8) rfl G8 0 rfl [.int .i64 b.cap, .int .i64 b.pol, (.slice a4 b.q.length c4), .int .i64 b.ofr, .int .i64 b.rcv, .int .i64 b.drp, .int .i64 b.mrg, .bool b.shut] _ (fun wx h => range_of_heap h.1) Tryd.underlying29 rfl (by kernel_rfl)) (by assumption) ?_
  try simp only [Act.put, List.getElem_toArray, List.getElem_cons_succ, List.getElem_cons_zero, List.setIfInBounds_toArray, List.set_cons_zero, List.set_cons_succ]
  refine wpAnyH_take (i := 1) (v := bagg b (.slice a b.q.length c)) rfl (by kernel_rfl) (by kernel_rfl) (by kernel_rfl) (fun _ _ _ h => h) (yieldsIf_load_mid rfl 24 (.tmp 2) rfl w.heap.size 0 rfl [.int .i64 b.cap, .int .i64 b.pol, (.slice a b.q.length c), .int .i64 b.ofr, .int .i64 b.rcv, .int .i64 b.drp, .int .i64 b.mrg, .bool b.shut] _ (fun wx h => range_of_heap h.2) Tryd.underlying24 rfl (by kernel_rfl)) (by assumption) ?_
  try simp only [Act.put, List.getElem_toArray, List.getElem_cons_succ, List.getElem_cons_zero, List.setIfInBounds_toArray, List.set_cons_zero, List.set_cons_succ]
  refine wpAnyH_ready (rs := [2]) (by kernel_rfl) (by simp) (AllReadyH.cons rfl (fun K hK => ?_) AllReadyH.nil)
  rw [if_pos (by rfl)]
  go_simp; go_at_call 8; refine (CT.out _ (HV.out.below SD.out.bw)).mono ?_; rintro e w8 ⟨ut, rfl, kt, b8⟩; obtain ⟨at8, ct8, hut⟩ := own_slice kt; subst hut; have S8 := Lib.hid (SD.out.below b8); go_wp2_with fail
  refine hK.out _ _ ?_ (fun hHeld => ?_)
  · exact ⟨(S8.out.box (G8, 29, (bcells b (.slice a4 b.q.length c4))) (by simp)).1, (S8.out.box (w.heap.size, 24, (bcells b (.slice a b.q.length c))) (by simp)).1⟩
  clear hK K
  try simp only [Act.put, List.getElem_toArray, List.getElem_cons_succ, List.getElem_cons_zero, List.setIfInBounds_toArray, List.set_cons_zero, List.set_cons_succ]
  have KT := Lib.hid (own_msgs_at kt)
  clear kt b8
  refine wpAnyH_ready (rs := [3]) (by kernel_rfl) (by simp) (AllReadyH.cons rfl (fun K hK => ?_) AllReadyH.nil)
  rw [if_pos (by rfl)]
  go_simp; go_at_call 10; refine (CQ.out _ _ _ (own_msgs_at (show MOwn w8 w3.heap.size (.slice a4 b.q.length c4) b.q from (S8.out.row ⟨w3.heap.size, 42, 4, (.slice a4 b.q.length c4), b.q.length, mcells b.q⟩ (by simp)).1)) KT.out).mono ?_; rintro e w9 ⟨rfl, b9⟩; have S9 := Lib.hid (S8.out.below b9); go_wp2_with fail
  refine hK.out _ _ ?_ (fun hHeld => ?_)
  · exact ⟨(S9.out.box (G8, 29, (bcells b (.slice a4 b.q.length c4))) (by simp)).1, (S9.out.box (w.heap.size, 24, (bcells b (.slice a b.q.length c))) (by simp)).1⟩
  clear hK K
  try simp only [Act.put, List.getElem_toArray, List.getElem_cons_succ, List.getElem_cons_zero, List.setIfInBounds_toArray, List.set_cons_zero, List.set_cons_succ]
  refine wpAnyH_take (i := 4) (v := ?_) rfl (by kernel_rfl) (by kernel_rfl) (by kernel_rfl) (fun _ _ _ h => h) (Or.inl ⟨by rfl, ?_⟩) (by assumption) ?_
  rotate_left
  · intro w hSw; (try dsimp only at hSw); go_simp; try with_reducible rfl
  try simp only [Act.put, List.getElem_toArray, List.getElem_cons_succ, List.getElem_cons_zero, List.setIfInBounds_toArray, List.set_cons_zero, List.set_cons_succ]
  refine wpAnyH_done (by kernel_rfl) ?_ _
  clear hHeld b9 S8 KT SD S7
  go_wp2_with (first | refine wpList_load_row rfl 29 (.tmp 8) rfl G8 rfl 29 (bcells b (.slice a4 b.q.length c4)) (0, 0) _ (S9.out.box (G8, 29, (bcells b (.slice a4 b.q.length c4))) (by simp)).1 Tryd.underlying29 rfl (by kernel_rfl) ?_)
  refine (CK.out _ _ _ (show MOwn w9 w3.heap.size (.slice a4 b.q.length c4) b.q from (S9.out.row ⟨w3.heap.size, 42, 4, (.slice a4 b.q.length c4), b.q.length, mcells b.q⟩ (by simp)).1)).mono ?_
  rintro e w10 ⟨rfl, k10, g10⟩
  have S10 := Lib.hid (S9.out.mark 1 (by simp) rfl g10 (mcells (mmarks 1 b.q.length)) (by have h := k10; unfold MOwn at h; rw [mmarks_length] at h; exact h))
  simp only [List.set_cons_succ, List.set_cons_zero, List.getElem_cons_succ, List.getElem_cons_zero] at S10
  clear S9
  go_upto_region 17 with (fail)
  obtain ⟨cc0, cc1, cc2, cc3, cc4, cc5, cc6, cc7⟩ := BBox.cells (show BBox w10 GB 29 N (.slice azB N.q.length czB) from (S10.out.box (GB, 29, (bcells N (.slice azB N.q.length czB))) (by simp)).1)
  obtain ⟨ee0, ee1, ee2, ee3, ee4, ee5, ee6, ee7⟩ := BBox.cells (show BBox w10 GA 29 N (.slice azA N.q.length czA) from (S10.out.box (GA, 29, (bcells N (.slice azA N.q.length czA))) (by simp)).1)
  go_wp2_with fail
  refine (CE.out _ _ _ (PZB.out.reads _ _ (show MOwn w10 bzB VzB XzB from (S10.out.row ⟨bzB, 42, 4, VzB, XzB.length, mcells XzB⟩ (by simp)).1)) (own_msgs_at (show MOwn w10 bzA (.slice azA N.q.length czA) N.q from (S10.out.row ⟨bzA, 42, 4, (.slice azA N.q.length czA), N.q.length, mcells N.q⟩ (by simp)).1))).mono ?_
  rintro e w11 ⟨rfl, b11⟩
  have S11 := Lib.hid (S10.out.below b11)
  clear b11 S10
  clear cc0 cc1 cc2 cc3 cc4 cc5 cc6 cc7 ee0 ee1 ee2 ee3 ee4 ee5 ee6 ee7
  go_upto_region 20 with (fail)
  go_wp2_with (first | refine wpList_load_row rfl 29 (.tmp 9) rfl GB rfl 29 (bcells N (.slice azB N.q.length czB)) (0, 0) _ (S11.out.box (GB, 29, (bcells N (.slice azB N.q.length czB))) (by simp)).1 Tryd.underlying29 rfl (by kernel_rfl) ?_)
  refine (PZB.out.mark _ _ (show MOwn w11 bzB VzB XzB from (S11.out.row ⟨bzB, 42, 4, VzB, XzB.length, mcells XzB⟩ (by simp)).1)).mono ?_
  rintro e w12 ⟨rfl, k12, g12⟩
  have S12 := Lib.hid (S11.out.mark 0 (by simp) rfl g12 (mcells YzB) (by have h := k12; unfold MOwn at h; rw [PZB.out.len] at h; exact h))
  simp only [List.set_cons_succ, List.set_cons_zero, List.getElem_cons_succ, List.getElem_cons_zero] at S12
  clear S11
  go_upto_region 22 with (fail)
  go_wp2_with (first | refine wpList_load_row rfl 29 (.tmp 9) rfl GB rfl 29 (bcells N (.slice azB N.q.length czB)) (0, 0) _ (S12.out.box (GB, 29, (bcells N (.slice azB N.q.length czB))) (by simp)).1 Tryd.underlying29 rfl (by kernel_rfl) ?_)
  refine (CH.out _ _ (PZB.out.marked _ _ (show MOwn w12 bzB VzB YzB from by have h := (S12.out.row ⟨bzB, 42, 4, VzB, XzB.length, mcells YzB⟩ (by simp)).1; unfold MOwn; rw [PZB.out.len]; exact h))).mono ?_
  rintro e w13 ⟨rfl, b13⟩
  have S13 := Lib.hid (S12.out.below b13)
  clear b13 S12
  go_upto_region 27 with (fail)
  refine (fun (tail : ?TC) => ?mainC) ?pfC
  case mainC =>
    have SD := S13.out.below (show Below w13.heap.size w13 w13.drew from (Below.refl _ _).drew)
    refine wp_region_held_drew (S := fun wx => wx.heap[w.heap.size]? = some (.cells (bcells b (.slice a b.q.length c)) 24 (0, 0)) ∧ wx.heap[w.heap.size + 1]? = some (.cells #[.int .i64 x.1, .int .i64 x.2.1, .string x.2.2.1, .int .i64 x.2.2.2] 38 (0, 0))) (by kernel_rfl) ?_ (fun hHeld => ?_)
    · exact ⟨(SD.box (w.heap.size, 24, (bcells b (.slice a b.q.length c))) (by simp)).1, (SD.box (w.heap.size + 1, 38, #[.int .i64 x.1, .int .i64 x.2.1, .string x.2.2.1, .int .i64 x.2.2.2]) (by simp)).1⟩
    change wpAnyH _ _ _ _ _ 11 #[false, false, false, false, false, false, false, false, false, false, false] _ _
    have S14 := Lib.hid SD
    clear SD
    generalize w13.drew = w14 at S14 hHeld ⊢
    refine wpAnyH_take (i := 0) (v := bagg b (.slice a b.q.length c)) rfl (by kernel_rfl) (by kernel_rfl) (by kernel_rfl) (fun _ _ _ h => h) (yieldsIf_load_mid rfl 24 (.tmp 2) rfl w.heap.size 0 rfl [.int .i64 b.cap, .int .i64 b.pol, (.slice a b.q.length c), .int .i64 b.ofr, .int .i64 b.rcv, .int .i64 b.drp, .int .i64 b.mrg, .bool b.shut] _ (fun wx h => range_of_heap h.1) Tryd.underlying24 rfl (by kernel_rfl)) (by assumption) ?_
    try simp only [Act.put, List.getElem_toArray, List.getElem_cons_succ, List.getElem_cons_zero, List.setIfInBounds_toArray, List.set_cons_zero, List.set_cons_succ]
    refine wpAnyH_take (i := 2) (v := magg x) rfl (by kernel_rfl) (by kernel_rfl) (by kernel_rfl) (fun _ _ _ h => h) (yieldsIf_load_mid rfl 38 (.tmp 3) rfl (w.heap.size + 1) 0 rfl [.int .i64 x.1, .int .i64 x.2.1, .string x.2.2.1, .int .i64 x.2.2.2] _ (fun wx h => range_of_heap h.2) Tryd.underlying38 rfl (by kernel_rfl)) (by assumption) ?_
    try simp only [Act.put, List.getElem_toArray, List.getElem_cons_succ, List.getElem_cons_zero, List.setIfInBounds_toArray, List.set_cons_zero, List.set_cons_succ]
    refine wpAnyH_ready (rs := [1, 8]) (by kernel_rfl) (by simp) (AllReadyH.cons rfl (fun K hK => ?_) (AllReadyH.cons rfl (fun K hK => ?_) AllReadyH.nil))
    · skip
      rw [if_pos (by rfl)]
      go_simp; go_at_call 8; refine (CT.out _ (HV.out.below S14.out.bw)).mono ?_; rintro e w15 ⟨ur, rfl, kr, b15⟩; have KR := Lib.hid (own_msgs_at kr); obtain ⟨ar, cr, hur⟩ := own_slice kr; subst hur; clear kr; have S15 := Lib.hid (S14.out.below b15); go_wp2_with fail
      refine hK.out _ _ ?_ (fun hHeld => ?_)
      · exact ⟨(S15.out.box (w.heap.size, 24, (bcells b (.slice a b.q.length c))) (by simp)).1, (S15.out.box (w.heap.size + 1, 38, #[.int .i64 x.1, .int .i64 x.2.1, .string x.2.2.1, .int .i64 x.2.2.2]) (by simp)).1⟩
      clear hK K
      try simp only [Act.put, List.getElem_toArray, List.getElem_cons_succ, List.getElem_cons_zero, List.setIfInBounds_toArray, List.set_cons_zero, List.set_cons_succ]
      clear b15 S14
      refine wpAnyH_ready (rs := [3, 8]) (by kernel_rfl) (by simp) (AllReadyH.cons rfl (fun K hK => ?_) (AllReadyH.cons rfl (fun K hK => ?_) AllReadyH.nil))
      · skip
        rw [if_pos (by rfl)]
        go_simp; go_at_call 17; refine (CU.out _).mono ?_; rintro e w16 ⟨rfl, b16⟩; replace KR := Lib.hid (KR.out.below b16); have S16 := Lib.hid (S15.out.below b16); go_wp2_with fail
        refine hK.out _ _ ?_ (fun hHeld => ?_)
        · exact ⟨(S16.out.box (w.heap.size, 24, (bcells b (.slice a b.q.length c))) (by simp)).1, (S16.out.box (w.heap.size + 1, 38, #[.int .i64 x.1, .int .i64 x.2.1, .string x.2.2.1, .int .i64 x.2.2.2]) (by simp)).1⟩
        clear hK K
        try simp only [Act.put, List.getElem_toArray, List.getElem_cons_succ, List.getElem_cons_zero, List.setIfInBounds_toArray, List.set_cons_zero, List.set_cons_succ]
        clear b16 S15
        refine wpAnyH_ready (rs := [4, 8]) (by kernel_rfl) (by simp) (AllReadyH.cons rfl (fun K hK => ?_) (AllReadyH.cons rfl (fun K hK => ?_) AllReadyH.nil))
        · skip
          rw [if_pos (by rfl)]
          go_simp; go_at_call 18; refine (CI.out _ _ KR.out ((S16.out.bw.cell hlt).trans HM.out)).mono ?_; rintro e w17 ⟨Vz, uz, prez, postz, rfl, kz, ptz, b17⟩; obtain ⟨Xz, Yz, hXz, pz⟩ := part_kitBK (b := N) (post := postz) ptz HL8.out HKY.out; obtain ⟨az, cz, huz⟩ := ptz.slice; subst huz; rw [hXz] at kz; have PZ := Lib.hid pz; clear hXz ptz prez postz pz; have S17 := Lib.hid (S16.out.pushRow b17 kz (by simp)); go_wp2_with fail
          refine hK.out _ _ ?_ (fun hHeld => ?_)
          · exact ⟨(S17.out.box (w.heap.size, 24, (bcells b (.slice a b.q.length c))) (by simp)).1, (S17.out.box (w.heap.size + 1, 38, #[.int .i64 x.1, .int .i64 x.2.1, .string x.2.2.1, .int .i64 x.2.2.2]) (by simp)).1⟩
          clear hK K
          try simp only [Act.put, List.getElem_toArray, List.getElem_cons_succ, List.getElem_cons_zero, List.setIfInBounds_toArray, List.set_cons_zero, List.set_cons_succ]
          clear b17 S16
          refine wpAnyH_take (i := 5) (v := ?_) rfl (by kernel_rfl) (by kernel_rfl) (by kernel_rfl) (fun _ _ _ h => h) (Or.inl ⟨by rfl, ?_⟩) (by assumption) ?_
          rotate_left
          · intro w hSw; (try dsimp only at hSw); go_simp; try with_reducible rfl
          try simp only [Act.put, List.getElem_toArray, List.getElem_cons_succ, List.getElem_cons_zero, List.setIfInBounds_toArray, List.set_cons_zero, List.set_cons_succ]
          refine wpAnyH_take (i := 6) (v := ?_) rfl (by kernel_rfl) (by kernel_rfl) (by kernel_rfl) (fun _ _ _ h => h) (Or.inl ⟨by rfl, ?_⟩) (by assumption) ?_
          rotate_left
          · intro w hSw; (try dsimp only at hSw); go_simp; try with_reducible rfl
          try simp only [Act.put, List.getElem_toArray, List.getElem_cons_succ, List.getElem_cons_zero, List.setIfInBounds_toArray, List.set_cons_zero, List.set_cons_succ]
          refine wpAnyH_take (i := 7) (v := ?_) rfl (by kernel_rfl) (by kernel_rfl) (by kernel_rfl) (fun _ _ _ h => h) (Or.inl ⟨by rfl, ?_⟩) (by assumption) ?_
          rotate_left
          · intro w hSw; (try dsimp only at hSw); go_simp; try with_reducible rfl
          try simp only [Act.put, List.getElem_toArray, List.getElem_cons_succ, List.getElem_cons_zero, List.setIfInBounds_toArray, List.set_cons_zero, List.set_cons_succ]
          have SA := Lib.hid (S17.out.pushBox 29 #[.int .i64 0, .int .i64 0, .slice none 0 0, .int .i64 0, .int .i64 0, .int .i64 0, .int .i64 0, .bool false] (by simp))
          refine wpAnyH_ready (rs := [8]) (by kernel_rfl) (by simp) (AllReadyH.cons rfl (fun K hK => ?_) AllReadyH.nil)
          rw [if_pos (by rfl)]
          go_simp
          refine hK.out _ _ ?_ (fun hHeld => ?_)
          · exact ⟨(SA.out.box (w.heap.size, 24, (bcells b (.slice a b.q.length c))) (by simp)).1, (SA.out.box (w.heap.size + 1, 38, #[.int .i64 x.1, .int .i64 x.2.1, .string x.2.2.1, .int .i64 x.2.2.2]) (by simp)).1⟩
          clear hK K
          try simp only [Act.put, List.getElem_toArray, List.getElem_cons_succ, List.getElem_cons_zero, List.setIfInBounds_toArray, List.set_cons_zero, List.set_cons_succ]
          generalize w17.alloc (.cells #[.int .i64 0, .int .i64 0, .slice none 0 0, .int .i64 0, .int .i64 0, .int .i64 0, .int .i64 0, .bool false] 29) = w18 at SA hHeld ⊢
          obtain ⟨G, hG⟩ : ∃ G, w17.heap.size = G := ⟨_, rfl⟩
          rw [hG] at SA ⊢
          clear hG S17
          have S18 := SA
          clear SA
          have SE := S18.out.put (bcells N (.slice az N.q.length cz))
          refine wpAnyH_ready (rs := [9]) (by kernel_rfl) (by simp) (AllReadyH.cons rfl (fun K hK => ?_) AllReadyH.nil)
          rw [if_pos (by rfl)]
          refine wp_store_row 29 (.tmp 14) (.tmp 90) rfl G (bcells N (.slice az N.q.length cz)) rfl rfl 29 _ (S18.out.box (G, 29, #[.int .i64 0, .int .i64 0, .slice none 0 0, .int .i64 0, .int .i64 0, .int .i64 0, .int .i64 0, .bool false]) (by simp)).1 (by kernel_rfl) rfl (bcells_one _ _ _ _) ?_
          refine hK.out _ _ ?_ (fun hHeld => ?_)
          · exact ⟨(SE.box (w.heap.size, 24, (bcells b (.slice a b.q.length c))) (by simp)).1, (SE.box (w.heap.size + 1, 38, #[.int .i64 x.1, .int .i64 x.2.1, .string x.2.2.1, .int .i64 x.2.2.2]) (by simp)).1⟩
          clear hK K
          try simp only [Act.put, List.getElem_toArray, List.getElem_cons_succ, List.getElem_cons_zero, List.setIfInBounds_toArray, List.set_cons_zero, List.set_cons_succ]
          generalize w18.setRow G (bcells N (.slice az N.q.length cz)) = WW at SE hHeld ⊢
          refine wpAnyH_take (i := 10) (v := ?_) rfl (by kernel_rfl) (by kernel_rfl) (by kernel_rfl) (fun _ _ _ h => h) (Or.inl ⟨by rfl, ?_⟩) (by assumption) ?_
          rotate_left
          · intro w hSw; (try dsimp only at hSw); go_simp; try with_reducible rfl
          try simp only [Act.put, List.getElem_toArray, List.getElem_cons_succ, List.getElem_cons_zero, List.setIfInBounds_toArray, List.set_cons_zero, List.set_cons_succ]
          refine wpAnyH_done (by kernel_rfl) ?_ _
          clear hHeld S18
          obtain ⟨bz, hbz⟩ : ∃ b, w16.heap.size = b := ⟨_, rfl⟩
          rw [hbz] at SE
          clear hbz kz KR
          revert SE
          revert PZ
          revert ar cr Vz Xz Yz az cz G WW bz
          exact tail
        · skip
          have SA := Lib.hid (S16.out.pushBox 29 #[.int .i64 0, .int .i64 0, .slice none 0 0, .int .i64 0, .int .i64 0, .int .i64 0, .int .i64 0, .bool false] (by simp))
          replace KR := Lib.hid (KR.out.alloc (.cells #[.int .i64 0, .int .i64 0, .slice none 0 0, .int .i64 0, .int .i64 0, .int .i64 0, .int .i64 0, .bool false] 29))
          rw [if_pos (by rfl)]
          go_simp
          refine hK.out _ _ ?_ (fun hHeld => ?_)
          · exact ⟨(SA.out.box (w.heap.size, 24, (bcells b (.slice a b.q.length c))) (by simp)).1, (SA.out.box (w.heap.size + 1, 38, #[.int .i64 x.1, .int .i64 x.2.1, .string x.2.2.1, .int .i64 x.2.2.2]) (by simp)).1⟩
          clear hK K
          try simp only [Act.put, List.getElem_toArray, List.getElem_cons_succ, List.getElem_cons_zero, List.setIfInBounds_toArray, List.set_cons_zero, List.set_cons_succ]
          generalize w16.alloc (.cells #[.int .i64 0, .int .i64 0, .slice none 0 0, .int .i64 0, .int .i64 0, .int .i64 0, .int .i64 0, .bool false] 29) = w17 at SA hHeld KR ⊢
          obtain ⟨G, hG⟩ : ∃ G, w16.heap.size = G := ⟨_, rfl⟩
          rw [hG] at SA ⊢
          clear hG S16
          have S17 := SA
          clear SA
          refine wpAnyH_ready (rs := [4]) (by kernel_rfl) (by simp) (AllReadyH.cons rfl (fun K hK => ?_) AllReadyH.nil)
          rw [if_pos (by rfl)]
          go_simp; go_at_call 18; refine (CI.out _ _ KR.out ((S17.out.bw.cell hlt).trans HM.out)).mono ?_; rintro e w18 ⟨Vz, uz, prez, postz, rfl, kz, ptz, b18⟩; obtain ⟨Xz, Yz, hXz, pz⟩ := part_kitBK (b := N) (post := postz) ptz HL8.out HKY.out; obtain ⟨az, cz, huz⟩ := ptz.slice; subst huz; rw [hXz] at kz; have PZ := Lib.hid pz; clear hXz ptz prez postz pz; have S18 := Lib.hid (S17.out.pushRow b18 kz (by simp)); go_wp2_with fail
          refine hK.out _ _ ?_ (fun hHeld => ?_)
          · exact ⟨(S18.out.box (w.heap.size, 24, (bcells b (.slice a b.q.length c))) (by simp)).1, (S18.out.box (w.heap.size + 1, 38, #[.int .i64 x.1, .int .i64 x.2.1, .string x.2.2.1, .int .i64 x.2.2.2]) (by simp)).1⟩
          clear hK K
          try simp only [Act.put, List.getElem_toArray, List.getElem_cons_succ, List.getElem_cons_zero, List.setIfInBounds_toArray, List.set_cons_zero, List.set_cons_succ]
          clear b18 S17
          refine wpAnyH_take (i := 5) (v := ?_) rfl (by kernel_rfl) (by kernel_rfl) (by kernel_rfl) (fun _ _ _ h => h) (Or.inl ⟨by rfl, ?_⟩) (by assumption) ?_
          rotate_left
          · intro w hSw; (try dsimp only at hSw); go_simp; try with_reducible rfl
          try simp only [Act.put, List.getElem_toArray, List.getElem_cons_succ, List.getElem_cons_zero, List.setIfInBounds_toArray, List.set_cons_zero, List.set_cons_succ]
          refine wpAnyH_take (i := 6) (v := ?_) rfl (by kernel_rfl) (by kernel_rfl) (by kernel_rfl) (fun _ _ _ h => h) (Or.inl ⟨by rfl, ?_⟩) (by assumption) ?_
          rotate_left
          · intro w hSw; (try dsimp only at hSw); go_simp; try with_reducible rfl
          try simp only [Act.put, List.getElem_toArray, List.getElem_cons_succ, List.getElem_cons_zero, List.setIfInBounds_toArray, List.set_cons_zero, List.set_cons_succ]
          refine wpAnyH_take (i := 7) (v := ?_) rfl (by kernel_rfl) (by kernel_rfl) (by kernel_rfl) (fun _ _ _ h => h) (Or.inl ⟨by rfl, ?_⟩) (by assumption) ?_
          rotate_left
          · intro w hSw; (try dsimp only at hSw); go_simp; try with_reducible rfl
          try simp only [Act.put, List.getElem_toArray, List.getElem_cons_succ, List.getElem_cons_zero, List.setIfInBounds_toArray, List.set_cons_zero, List.set_cons_succ]
          have SE := S18.out.put (bcells N (.slice az N.q.length cz))
          refine wpAnyH_ready (rs := [9]) (by kernel_rfl) (by simp) (AllReadyH.cons rfl (fun K hK => ?_) AllReadyH.nil)
          rw [if_pos (by rfl)]
          refine wp_store_row 29 (.tmp 14) (.tmp 90) rfl G (bcells N (.slice az N.q.length cz)) rfl rfl 29 _ (S18.out.box (G, 29, #[.int .i64 0, .int .i64 0, .slice none 0 0, .int .i64 0, .int .i64 0, .int .i64 0, .int .i64 0, .bool false]) (by simp)).1 (by kernel_rfl) rfl (bcells_one _ _ _ _) ?_
          refine hK.out _ _ ?_ (fun hHeld => ?_)
          · exact ⟨(SE.box (w.heap.size, 24, (bcells b (.slice a b.q.length c))) (by simp)).1, (SE.box (w.heap.size + 1, 38, #[.int .i64 x.1, .int .i64 x.2.1, .string x.2.2.1, .int .i64 x.2.2.2]) (by simp)).1⟩
          clear hK K
          try simp only [Act.put, List.getElem_toArray, List.getElem_cons_succ, List.getElem_cons_zero, List.setIfInBounds_toArray, List.set_cons_zero, List.set_cons_succ]
          generalize w18.setRow G (bcells N (.slice az N.q.length cz)) = WW at SE hHeld ⊢
          refine wpAnyH_take (i := 10) (v := ?_) rfl (by kernel_rfl) (by kernel_rfl) (by kernel_rfl) (fun _ _ _ h => h) (Or.inl ⟨by rfl, ?_⟩) (by assumption) ?_
          rotate_left
          · intro w hSw; (try dsimp only at hSw); go_simp; try with_reducible rfl
          try simp only [Act.put, List.getElem_toArray, List.getElem_cons_succ, List.getElem_cons_zero, List.setIfInBounds_toArray, List.set_cons_zero, List.set_cons_succ]
          refine wpAnyH_done (by kernel_rfl) ?_ _
          clear hHeld S18
          obtain ⟨bz, hbz⟩ : ∃ b, w17.heap.size = b := ⟨_, rfl⟩
          rw [hbz] at SE
          clear hbz kz KR
          exact tail _ _ _ _ _ _ _ _ _ _ PZ SE
      · skip
        have SA := Lib.hid (S15.out.pushBox 29 #[.int .i64 0, .int .i64 0, .slice none 0 0, .int .i64 0, .int .i64 0, .int .i64 0, .int .i64 0, .bool false] (by simp))
        replace KR := Lib.hid (KR.out.alloc (.cells #[.int .i64 0, .int .i64 0, .slice none 0 0, .int .i64 0, .int .i64 0, .int .i64 0, .int .i64 0, .bool false] 29))
        rw [if_pos (by rfl)]
        go_simp
        refine hK.out _ _ ?_ (fun hHeld => ?_)
        · exact ⟨(SA.out.box (w.heap.size, 24, (bcells b (.slice a b.q.length c))) (by simp)).1, (SA.out.box (w.heap.size + 1, 38, #[.int .i64 x.1, .int .i64 x.2.1, .string x.2.2.1, .int .i64 x.2.2.2]) (by simp)).1⟩
        clear hK K
        try simp only [Act.put, List.getElem_toArray, List.getElem_cons_succ, List.getElem_cons_zero, List.setIfInBounds_toArray, List.set_cons_zero, List.set_cons_succ]
        generalize w15.alloc (.cells #[.int .i64 0, .int .i64 0, .slice none 0 0, .int .i64 0, .int .i64 0, .int .i64 0, .int .i64 0, .bool false] 29) = w16 at SA hHeld KR ⊢
        obtain ⟨G, hG⟩ : ∃ G, w15.heap.size = G := ⟨_, rfl⟩
        rw [hG] at SA ⊢
        clear hG S15
        have S16 := SA
        clear SA
        refine wpAnyH_ready (rs := [3]) (by kernel_rfl) (by simp) (AllReadyH.cons rfl (fun K hK => ?_) AllReadyH.nil)
        rw [if_pos (by rfl)]
        go_simp; go_at_call 17; refine (CU.out _).mono ?_; rintro e w17 ⟨rfl, b17⟩; replace KR := Lib.hid (KR.out.below b17); have S17 := Lib.hid (S16.out.below b17); go_wp2_with fail
        refine hK.out _ _ ?_ (fun hHeld => ?_)
        · exact ⟨(S17.out.box (w.heap.size, 24, (bcells b (.slice a b.q.length c))) (by simp)).1, (S17.out.box (w.heap.size + 1, 38, #[.int .i64 x.1, .int .i64 x.2.1, .string x.2.2.1, .int .i64 x.2.2.2]) (by simp)).1⟩
        clear hK K
        try simp only [Act.put, List.getElem_toArray, List.getElem_cons_succ, List.getElem_cons_zero, List.setIfInBounds_toArray, List.set_cons_zero, List.set_cons_succ]
        clear b17 S16
        refine wpAnyH_ready (rs := [4]) (by kernel_rfl) (by simp) (AllReadyH.cons rfl (fun K hK => ?_) AllReadyH.nil)
        rw [if_pos (by rfl)]
        go_simp; go_at_call 18; refine (CI.out _ _ KR.out ((S17.out.bw.cell hlt).trans HM.out)).mono ?_; rintro e w18 ⟨Vz, uz, prez, postz, rfl, kz, ptz, b18⟩; obtain ⟨Xz, Yz, hXz, pz⟩ := part_kitBK (b := N) (post := postz) ptz HL8.out HKY.out; obtain ⟨az, cz, huz⟩ := ptz.slice; subst huz; rw [hXz] at kz; have PZ := Lib.hid pz; clear hXz ptz prez postz pz; have S18 := Lib.hid (S17.out.pushRow b18 kz (by simp)); go_wp2_with fail
        refine hK.out _ _ ?_ (fun hHeld => ?_)
        · exact ⟨(S18.out.box (w.heap.size, 24, (bcells b (.slice a b.q.length c))) (by simp)).1, (S18.out.box (w.heap.size + 1, 38, #[.int .i64 x.1, .int .i64 x.2.1, .string x.2.2.1, .int .i64 x.2.2.2]) (by simp)).1⟩
        clear hK K
        try simp only [Act.put, List.getElem_toArray, List.getElem_cons_succ, List.getElem_cons_zero, List.setIfInBounds_toArray, List.set_cons_zero, List.set_cons_succ]
        clear b18 S17
        refine wpAnyH_take (i := 5) (v := ?_) rfl (by kernel_rfl) (by kernel_rfl) (by kernel_rfl) (fun _ _ _ h => h) (Or.inl ⟨by rfl, ?_⟩) (by assumption) ?_
        rotate_left
        · intro w hSw; (try dsimp only at hSw); go_simp; try with_reducible rfl
        try simp only [Act.put, List.getElem_toArray, List.getElem_cons_succ, List.getElem_cons_zero, List.setIfInBounds_toArray, List.set_cons_zero, List.set_cons_succ]
        refine wpAnyH_take (i := 6) (v := ?_) rfl (by kernel_rfl) (by kernel_rfl) (by kernel_rfl) (fun _ _ _ h => h) (Or.inl ⟨by rfl, ?_⟩) (by assumption) ?_
        rotate_left
        · intro w hSw; (try dsimp only at hSw); go_simp; try with_reducible rfl
        try simp only [Act.put, List.getElem_toArray, List.getElem_cons_succ, List.getElem_cons_zero, List.setIfInBounds_toArray, List.set_cons_zero, List.set_cons_succ]
        refine wpAnyH_take (i := 7) (v := ?_) rfl (by kernel_rfl) (by kernel_rfl) (by kernel_rfl) (fun _ _ _ h => h) (Or.inl ⟨by rfl, ?_⟩) (by assumption) ?_
        rotate_left
        · intro w hSw; (try dsimp only at hSw); go_simp; try with_reducible rfl
        try simp only [Act.put, List.getElem_toArray, List.getElem_cons_succ, List.getElem_cons_zero, List.setIfInBounds_toArray, List.set_cons_zero, List.set_cons_succ]
        have SE := S18.out.put (bcells N (.slice az N.q.length cz))
        refine wpAnyH_ready (rs := [9]) (by kernel_rfl) (by simp) (AllReadyH.cons rfl (fun K hK => ?_) AllReadyH.nil)
        rw [if_pos (by rfl)]
        refine wp_store_row 29 (.tmp 14) (.tmp 90) rfl G (bcells N (.slice az N.q.length cz)) rfl rfl 29 _ (S18.out.box (G, 29, #[.int .i64 0, .int .i64 0, .slice none 0 0, .int .i64 0, .int .i64 0, .int .i64 0, .int .i64 0, .bool false]) (by simp)).1 (by kernel_rfl) rfl (bcells_one _ _ _ _) ?_
        refine hK.out _ _ ?_ (fun hHeld => ?_)
        · exact ⟨(SE.box (w.heap.size, 24, (bcells b (.slice a b.q.length c))) (by simp)).1, (SE.box (w.heap.size + 1, 38, #[.int .i64 x.1, .int .i64 x.2.1, .string x.2.2.1, .int .i64 x.2.2.2]) (by simp)).1⟩
        clear hK K
        try simp only [Act.put, List.getElem_toArray, List.getElem_cons_succ, List.getElem_cons_zero, List.setIfInBounds_toArray, List.set_cons_zero, List.set_cons_succ]
        generalize w18.setRow G (bcells N (.slice az N.q.length cz)) = WW at SE hHeld ⊢
        refine wpAnyH_take (i := 10) (v := ?_) rfl (by kernel_rfl) (by kernel_rfl) (by kernel_rfl) (fun _ _ _ h => h) (Or.inl ⟨by rfl, ?_⟩) (by assumption) ?_
        rotate_left
        · intro w hSw; (try dsimp only at hSw); go_simp; try with_reducible rfl
        try simp only [Act.put, List.getElem_toArray, List.getElem_cons_succ, List.getElem_cons_zero, List.setIfInBounds_toArray, List.set_cons_zero, List.set_cons_succ]
        refine wpAnyH_done (by kernel_rfl) ?_ _
        clear hHeld S18
        obtain ⟨bz, hbz⟩ : ∃ b, w17.heap.size = b := ⟨_, rfl⟩
        rw [hbz] at SE
        clear hbz kz KR
        exact tail _ _ _ _ _ _ _ _ _ _ PZ SE
    · skip
      have SA := Lib.hid (S14.out.pushBox 29 #[.int .i64 0, .int .i64 0, .slice none 0 0, .int .i64 0, .int .i64 0, .int .i64 0, .int .i64 0, .bool false] (by simp))
      rw [if_pos (by rfl)]
      go_simp
      refine hK.out _ _ ?_ (fun hHeld => ?_)
      · exact ⟨(SA.out.box (w.heap.size, 24, (bcells b (.slice a b.q.length c))) (by simp)).1, (SA.out.box (w.heap.size + 1, 38, #[.int .i64 x.1, .int .i64 x.2.1, .string x.2.2.1, .int .i64 x.2.2.2]) (by simp)).1⟩
      clear hK K
      try simp only [Act.put, List.getElem_toArray, List.getElem_cons_succ, List.getElem_cons_zero, List.setIfInBounds_toArray, List.set_cons_zero, List.set_cons_succ]
      generalize w14.alloc (.cells #[.int .i64 0, .int .i64 0, .slice none 0 0, .int .i64 0, .int .i64 0, .int .i64 0, .int .i64 0, .bool false] 29) = w15 at SA hHeld ⊢
      obtain ⟨G, hG⟩ : ∃ G, w14.heap.size = G := ⟨_, rfl⟩
      rw [hG] at SA ⊢
      clear hG S14
      have S15 := SA
      clear SA
      refine wpAnyH_ready (rs := [1]) (by kernel_rfl) (by simp) (AllReadyH.cons rfl (fun K hK => ?_) AllReadyH.nil)
      rw [if_pos (by rfl)]
      go_simp; go_at_call 8; refine (CT.out _ (HV.out.below S15.out.bw)).mono ?_; rintro e w16 ⟨ur, rfl, kr, b16⟩; have KR := Lib.hid (own_msgs_at kr); obtain ⟨ar, cr, hur⟩ := own_slice kr; subst hur; clear kr; have S16 := Lib.hid (S15.out.below b16); go_wp2_with fail
      refine hK.out _ _ ?_ (fun hHeld => ?_)
      · exact ⟨(S16.out.box (w.heap.size, 24, (bcells b (.slice a b.q.length c))) (by simp)).1, (S16.out.box (w.heap.size + 1, 38, #[.int .i64 x.1, .int .i64 x.2.1, .string x.2.2.1, .int .i64 x.2.2.2]) (by simp)).1⟩
      clear hK K
      try simp only [Act.put, List.getElem_toArray, List.getElem_cons_succ, List.getElem_cons_zero, List.setIfInBounds_toArray, List.set_cons_zero, List.set_cons_succ]
      clear b16 S15
      refine wpAnyH_ready (rs := [3]) (by kernel_rfl) (by simp) (AllReadyH.cons rfl (fun K hK => ?_) AllReadyH.nil)
      rw [if_pos (by rfl)]
      go_simp; go_at_call 17; refine (CU.out _).mono ?_; rintro e w17 ⟨rfl, b17⟩; replace KR := Lib.hid (KR.out.below b17); have S17 := Lib.hid (S16.out.below b17); go_wp2_with fail
      refine hK.out _ _ ?_ (fun hHeld => ?_)
      · exact ⟨(S17.out.box (w.heap.size, 24, (bcells b (.slice a b.q.length c))) (by simp)).1, (S17.out.box (w.heap.size + 1, 38, #[.int .i64 x.1, .int .i64 x.2.1, .string x.2.2.1, .int .i64 x.2.2.2]) (by simp)).1⟩
      clear hK K
      try simp only [Act.put, List.getElem_toArray, List.getElem_cons_succ, List.getElem_cons_zero, List.setIfInBounds_toArray, List.set_cons_zero, List.set_cons_succ]
      clear b17 S16
      refine wpAnyH_ready (rs := [4]) (by kernel_rfl) (by simp) (AllReadyH.cons rfl (fun K hK => ?_) AllReadyH.nil)
      rw [if_pos (by rfl)]
      go_simp; go_at_call 18; refine (CI.out _ _ KR.out ((S17.out.bw.cell hlt).trans HM.out)).mono ?_; rintro e w18 ⟨Vz, uz, prez, postz, rfl, kz, ptz, b18⟩; obtain ⟨Xz, Yz, hXz, pz⟩ := part_kitBK (b := N) (post := postz) ptz HL8.out HKY.out; obtain ⟨az, cz, huz⟩ := ptz.slice; subst huz; rw [hXz] at kz; have PZ := Lib.hid pz; clear hXz ptz prez postz pz; have S18 := Lib.hid (S17.out.pushRow b18 kz (by simp)); go_wp2_with fail
      refine hK.out _ _ ?_ (fun hHeld => ?_)
      · exact ⟨(S18.out.box (w.heap.size, 24, (bcells b (.slice a b.q.length c))) (by simp)).1, (S18.out.box (w.heap.size + 1, 38, #[.int .i64 x.1, .int .i64 x.2.1, .string x.2.2.1, .int .i64 x.2.2.2]) (by simp)).1⟩
      clear hK K
      try simp only [Act.put, List.getElem_toArray, List.getElem_cons_succ, List.getElem_cons_zero, List.setIfInBounds_toArray, List.set_cons_zero, List.set_cons_succ]
      clear b18 S17
      refine wpAnyH_take (i := 5) (v := ?_) rfl (by kernel_rfl) (by kernel_rfl) (by kernel_rfl) (fun _ _ _ h => h) (Or.inl ⟨by rfl, ?_⟩) (by assumption) ?_
      rotate_left
      · intro w hSw; (try dsimp only at hSw); go_simp; try with_reducible rfl
      try simp only [Act.put, List.getElem_toArray, List.getElem_cons_succ, List.getElem_cons_zero, List.setIfInBounds_toArray, List.set_cons_zero, List.set_cons_succ]
      refine wpAnyH_take (i := 6) (v := ?_) rfl (by kernel_rfl) (by kernel_rfl) (by kernel_rfl) (fun _ _ _ h => h) (Or.inl ⟨by rfl, ?_⟩) (by assumption) ?_
      rotate_left
      · intro w hSw; (try dsimp only at hSw); go_simp; try with_reducible rfl
      try simp only [Act.put, List.getElem_toArray, List.getElem_cons_succ, List.getElem_cons_zero, List.setIfInBounds_toArray, List.set_cons_zero, List.set_cons_succ]
      refine wpAnyH_take (i := 7) (v := ?_) rfl (by kernel_rfl) (by kernel_rfl) (by kernel_rfl) (fun _ _ _ h => h) (Or.inl ⟨by rfl, ?_⟩) (by assumption) ?_
      rotate_left
      · intro w hSw; (try dsimp only at hSw); go_simp; try with_reducible rfl
      try simp only [Act.put, List.getElem_toArray, List.getElem_cons_succ, List.getElem_cons_zero, List.setIfInBounds_toArray, List.set_cons_zero, List.set_cons_succ]
      have SE := S18.out.put (bcells N (.slice az N.q.length cz))
      refine wpAnyH_ready (rs := [9]) (by kernel_rfl) (by simp) (AllReadyH.cons rfl (fun K hK => ?_) AllReadyH.nil)
      rw [if_pos (by rfl)]
      refine wp_store_row 29 (.tmp 14) (.tmp 90) rfl G (bcells N (.slice az N.q.length cz)) rfl rfl 29 _ (S18.out.box (G, 29, #[.int .i64 0, .int .i64 0, .slice none 0 0, .int .i64 0, .int .i64 0, .int .i64 0, .int .i64 0, .bool false]) (by simp)).1 (by kernel_rfl) rfl (bcells_one _ _ _ _) ?_
      refine hK.out _ _ ?_ (fun hHeld => ?_)
      · exact ⟨(SE.box (w.heap.size, 24, (bcells b (.slice a b.q.length c))) (by simp)).1, (SE.box (w.heap.size + 1, 38, #[.int .i64 x.1, .int .i64 x.2.1, .string x.2.2.1, .int .i64 x.2.2.2]) (by simp)).1⟩
      clear hK K
      try simp only [Act.put, List.getElem_toArray, List.getElem_cons_succ, List.getElem_cons_zero, List.setIfInBounds_toArray, List.set_cons_zero, List.set_cons_succ]
      generalize w18.setRow G (bcells N (.slice az N.q.length cz)) = WW at SE hHeld ⊢
      refine wpAnyH_take (i := 10) (v := ?_) rfl (by kernel_rfl) (by kernel_rfl) (by kernel_rfl) (fun _ _ _ h => h) (Or.inl ⟨by rfl, ?_⟩) (by assumption) ?_
      rotate_left
      · intro w hSw; (try dsimp only at hSw); go_simp; try with_reducible rfl
      try simp only [Act.put, List.getElem_toArray, List.getElem_cons_succ, List.getElem_cons_zero, List.setIfInBounds_toArray, List.set_cons_zero, List.set_cons_succ]
      refine wpAnyH_done (by kernel_rfl) ?_ _
      clear hHeld S18
      obtain ⟨bz, hbz⟩ : ∃ b, w17.heap.size = b := ⟨_, rfl⟩
      rw [hbz] at SE
      clear hbz kz KR
      exact tail _ _ _ _ _ _ _ _ _ _ PZ SE
  intro arC crC VzC XzC YzC azC czC GC w14 bzC PZC SEC
  have S14 := Lib.hid SEC
  clear SEC S13
  go_wp2_with (first | refine wpList_load_row rfl 29 (.tmp 14) rfl GC rfl 29 (bcells N (.slice azC N.q.length czC)) (0, 0) _ (S14.out.box (GC, 29, (bcells N (.slice azC N.q.length czC))) (by simp)).1 Tryd.underlying29 rfl (by kernel_rfl) ?_ | refine wpList_load_row rfl 29 (.tmp 6) rfl GA rfl 29 (bcells N (.slice azA N.q.length czA)) (0, 0) _ (S14.out.box (GA, 29, (bcells N (.slice azA N.q.length czA))) (by simp)).1 Tryd.underlying29 rfl (by kernel_rfl) ?_)
  refine (CE.out _ _ _ (PZC.out.reads _ _ (show MOwn w14 bzC VzC XzC from (S14.out.row ⟨bzC, 42, 4, VzC, XzC.length, mcells XzC⟩ (by simp)).1)) (own_msgs_at (show MOwn w14 bzA (.slice azA N.q.length czA) N.q from (S14.out.row ⟨bzA, 42, 4, (.slice azA N.q.length czA), N.q.length, mcells N.q⟩ (by simp)).1))).mono ?_
  rintro e w15 ⟨rfl, b15⟩
  have S15 := Lib.hid (S14.out.below b15)
  clear b15 S14
  go_upto_region 31 with (fail)
  go_wp2_with (first | refine wpList_load_row rfl 29 (.tmp 9) rfl GB rfl 29 (bcells N (.slice azB N.q.length czB)) (0, 0) _ (S15.out.box (GB, 29, (bcells N (.slice azB N.q.length czB))) (by simp)).1 Tryd.underlying29 rfl (by kernel_rfl) ?_)
  refine (CH.out _ _ (PZB.out.marked _ _ (show MOwn w15 bzB VzB YzB from by have h := (S15.out.row ⟨bzB, 42, 4, VzB, XzB.length, mcells YzB⟩ (by simp)).1; unfold MOwn; rw [PZB.out.len]; exact h))).mono ?_
  rintro e w16 ⟨rfl, b16⟩
  have S16 := Lib.hid (S15.out.below b16)
  clear b16 S15
  go_wp2
  go_ret
  exact ⟨rfl, S16.out.bw⟩

set_option maxRecDepth 100000 in
theorem contract (H : Type) (enc : TypeId × Value → H) (W : World) (base : Nat) (args : Array Value) (ds gs : List (DataW H)) (before : List MemPlace)
    (hval : ∀ (j : Nat) t v, Tryd.f5.params[j]? = some t → args[j]? = some v → Value.okWide Tryd.prog W .any base t v)
    (hW : DataW.Whole enc Tryd.prog Tryd.f5.params.toList Rows.fnExactOfferedToSpec.vars false W args.toList ds gs before) (hsh : W.ShapedOpen Tryd.prog) :
    Calls Tryd.prog 5 args W fun e W' => ∃ v, e = .returned v ∧ Rows.fnExactOfferedToSpec.post enc Tryd.prog Tryd.f5 false true false false W args v W' := by
  have hW' := hW
  obtain ⟨p, q, hA0, hV, rfl, hfz, hnd⟩ := hW
  have hA : DataW.TrodAll enc Tryd.prog W 0 (fun _ => true) true Tryd.f5.params.toList args.toList ds p := hA0
  rw [Tryd.params5] at hA hval
  obtain ⟨v0, vs0, d0, ds0, p0, q0, hargs, rfl, rfl, h0, r0⟩ := trodAll_cons hA
  obtain ⟨v1, vs1, d1, ds1, p1, q1, rfl, rfl, rfl, h1, r1⟩ := trodAll_cons r0
  obtain ⟨rfl, rfl, rfl⟩ := trodAll_nil r1
  obtain rfl : args = #[v0, v1] := by cases args; simp_all
  obtain ⟨rfl, rfl⟩ := trodVars_none hV
  obtain ⟨cs0, rfl, cz0⟩ := okWide_struct Tryd.underlying24 (hval 0 24 v0 rfl rfl)
  have k0 := h0
  have lt0 : ∀ x ∈ p0, x.block < W.heap.size := by obtain ⟨m, hm⟩ := k0; exact DataW.trod_lt m _ _ _ hm
  have w0 : ∃ (b : BoxM) (v : Value), cs0 = bcells b v ∧ MsgsAt W v b.q ∧ ∀ y ∈ b.q, y.2.2.1.size ≤ maxLen := by
    obtain ⟨fuel, hf⟩ := h0
    obtain ⟨b, v, e, hk, hs⟩ := box_read Tryd.underlying24 (by kernel_rfl) ⟨rfl, rfl⟩ ⟨rfl, rfl⟩ ⟨rfl, rfl⟩ ⟨rfl, rfl⟩ ⟨rfl, rfl⟩ ⟨rfl, rfl⟩ ⟨rfl, rfl⟩ ⟨rfl, rfl⟩ (by kernel_rfl) Tryd.underlying4 (by kernel_rfl) Tryd.underlying22 Tryd.underlying38 (by kernel_rfl) ⟨rfl, rfl⟩ ⟨rfl, rfl⟩ ⟨rfl, rfl⟩ ⟨rfl, rfl⟩ Tryd.underlying2 (by kernel_rfl) Tryd.underlying9 (by kernel_rfl) hf
    exact ⟨b, v, Array.toList_inj.1 e, hk, hs⟩
  obtain ⟨b0, v0, rfl, w0, s0⟩ := w0
  obtain ⟨cs1, rfl, cz1⟩ := okWide_struct Tryd.underlying38 (hval 1 38 v1 rfl rfl)
  have k1 := h1
  have lt1 : ∀ x ∈ p1, x.block < W.heap.size := by obtain ⟨m, hm⟩ := k1; exact DataW.trod_lt m _ _ _ hm
  have w1 : ∃ y : MsgM, cs1 = (mval y).toArray ∧ y.2.2.1.size ≤ maxLen := by
    obtain ⟨fuel, hf⟩ := h1
    obtain ⟨y, e, hs⟩ := msg_read Tryd.underlying38 (by kernel_rfl) ⟨rfl, rfl⟩ ⟨rfl, rfl⟩ ⟨rfl, rfl⟩ ⟨rfl, rfl⟩ Tryd.underlying2 (by kernel_rfl) Tryd.underlying9 (by kernel_rfl) hf
    exact ⟨y, by rw [← e]; rfl, hs⟩
  obtain ⟨x1, rfl, s1⟩ := w1
  clear hA0
  simp only [List.append_nil] at hW'
  obtain ⟨m, hm⟩ := maxLen_cell hsh
  refine (law W b0 v0 w0 s0 x1 s1 m hm).mono fun e W' ⟨he, hg⟩ => ?_
  subst he
  exact ⟨_, rfl, _, _, _, [], _, [], hW', trodAll_cons_mk (shut_bool Tryd.underlying4 _) trodAll_mk0, trodAll_cons_mk (Below.trod laidOut (by kernel_rfl) (of_decide_eq_true (by kernel_rfl)) k0 hg lt0) (trodAll_cons_mk (Below.trod laidOut (by kernel_rfl) (of_decide_eq_true (by kernel_rfl)) k1 hg lt1) (trodAll_mk0)), rfl, hg.frame _, fun h => by cases h⟩

theorem reads (os : Os) {H : Type} (enc : TypeId × Value → H) : ∃ places, DataW.whole enc Tryd.prog ((World.laidAll Tryd.prog os Rows.fnExactOfferedToRow.laid).forCall (fun _ _ => 0) ⟨#[], #[(.agg #[.int .i64 0, .int .i64 0, .slice none 0 0, .int .i64 0, .int .i64 0, .int .i64 0, .int .i64 0, .bool false] : Value), (.agg #[.int .i64 0, .int .i64 0, .string ByteArray.empty, .int .i64 0] : Value)], []⟩).memory Tryd.f5.params.toList Rows.fnExactOfferedToSpec.vars false (#[(.agg #[.int .i64 0, .int .i64 0, .slice none 0 0, .int .i64 0, .int .i64 0, .int .i64 0, .int .i64 0, .bool false] : Value), (.agg #[.int .i64 0, .int .i64 0, .string ByteArray.empty, .int .i64 0] : Value)] : Array Value).toList 8 = some ([.agg [.lit (.int .i64 0), .lit (.int .i64 0), .nil, .lit (.int .i64 0), .lit (.int .i64 0), .lit (.int .i64 0), .lit (.int .i64 0), .lit (.bool false)], .agg [.lit (.int .i64 0), .lit (.int .i64 0), .lit (.string []), .lit (.int .i64 0)]], [], places) :=
  ⟨[], by kernel_rfl⟩

theorem laid_met (os : Os) : laidMetH Tryd.prog Rows.fnExactOfferedToRow.laid ((World.laidAll Tryd.prog os Rows.fnExactOfferedToRow.laid).forCall (fun _ _ => 0) ⟨#[], #[(.agg #[.int .i64 0, .int .i64 0, .slice none 0 0, .int .i64 0, .int .i64 0, .int .i64 0, .int .i64 0, .bool false] : Value), (.agg #[.int .i64 0, .int .i64 0, .string ByteArray.empty, .int .i64 0] : Value)], []⟩).memory := by
  rw [MakeChecks.laidMetH_plain _ _ _ (by kernel_rfl)]
  exact laidMet_laidAll _ (by kernel_rfl) (by kernel_rfl)

set_option maxRecDepth 100000 in
theorem lifted (os : Os) (started : os.Started) (H : Type) (enc : TypeId × Value → H) (F : Stop.Interp) :
    ReturnsInHanded {} Tryd.checked os 5 .any ((OpenSpec.ofChange Rows.fnExactOfferedToSpec).preRow enc Tryd.prog Tryd.f5 Rows.fnExactOfferedToRow.domain false Rows.fnExactOfferedToRow.laid) (((OpenSpec.ofChange Rows.fnExactOfferedToSpec).at F).post enc Tryd.prog Tryd.f5 false true false false) := by
  obtain ⟨places, hx⟩ := reads os enc
  refine returnsInHanded_of_row (C := Tryd.checked) (s := OpenSpec.ofChange Rows.fnExactOfferedToSpec) own started (by kernel_rfl) Tryd.func5
    (witness_row_at (enc := enc) (C := Tryd.checked) false (World.laidAll Tryd.prog os Rows.fnExactOfferedToRow.laid) #[(.agg #[.int .i64 0, .int .i64 0, .slice none 0 0, .int .i64 0, .int .i64 0, .int .i64 0, .int .i64 0, .bool false] : Value), (.agg #[.int .i64 0, .int .i64 0, .string ByteArray.empty, .int .i64 0] : Value)] (World.laidAll_os _ _ _) (by kernel_rfl) (by kernel_rfl) (by kernel_rfl)
      (OpenSpec.preRow_of_cond 8 hx (by kernel_rfl) (fun k hk => by cases hk) (by kernel_rfl) (laid_met os))) ?_
  intro W base args ds gs before hval hW _ _ _ _ hsh _
  exact contract H enc W base args ds gs before hval hW hsh

theorem said : Rows.FnExactOfferedToSaid :=
  OpenClaim.holds_of_cond 5 Tryd.f5 rfl rfl rfl rfl rfl rfl rfl ⟨rfl, rfl, rfl, rfl, rfl⟩ rfl rfl rfl rfl rfl (by kernel_rfl) Tryd.func5 (by kernel_rfl)
    (of_decide_eq_true (by kernel_rfl)) (by unfold Func.isWrapper; first | (rw [if_pos (by decide +kernel)]; kernel_rfl) | (rw [if_neg (by decide +kernel)]; exact ⟨rfl, rfl⟩))
    (fun os started H enc _ F => by rw [OpenClaim.pre_eq_preRow]; exact lifted os started H enc F)

theorem plain (f : FuncId) (fn : Func) (hf : Tryd.pinned.checked.prog.funcNamed Tryd.f5.name = some f) (hfn : Tryd.pinned.checked.prog.funcs[f]? = some fn) :
    ∀ (j : Nat) t, fn.params[j]? = some t → Tryd.pinned.checked.prog.wantsStandIn t = false := by
  obtain rfl : f = 5 := Option.some.inj ((show Tryd.prog.funcNamed Tryd.f5.name = some 5 by kernel_rfl).symm.trans hf) |>.symm
  obtain rfl : fn = Tryd.f5 := (Option.some.inj (Tryd.func5.symm.trans hfn)).symm
  intro j t ht
  rw [Tryd.params5] at ht
  have hm := Array.mem_of_getElem? ht
  have hall : (Tryd.f5.params.all fun u => !Tryd.prog.wantsStandIn u) = true := by kernel_rfl
  rw [Tryd.params5] at hall
  rw [Array.all_eq_true_iff_forall_mem] at hall
  have := hall t hm
  exact (show Tryd.prog.wantsStandIn t = false by simpa using this)

theorem card : Rows.FnExactOfferedToCardSaid :=
  Claim7.holds_tied_plain_at .later [] _ _ _ _ said (fun _ h => by cases h) (by kernel_rfl) (fun _ h => by cases h) fnExactOfferedTo_row_tie rfl ⟨rfl, rfl⟩ (by kernel_rfl) rfl (fun f fn hf hfn => ⟨by kernel_rfl, plain f fn hf hfn⟩) (by kernel_rfl)
end Go.Proofs.YtgmlohgfkbjmlaaDoor.lawFnExactOfferedTo
