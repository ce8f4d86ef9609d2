/- The law FnExactShutOf holds at every argument: for every input it returns true and leaves the input as it was. -/
import Derived.Test.YtnclkdhaabggkaaDoorZB1
import Derived.Test.YtnclkdhaabggkaaDoorZB5
import Derived.Test.YtnclkdhaabggkaaDoorZITake
import Derived.Test.YtnclkdhaabggkaaDoorZB6
import Derived.Test.YtnclkdhaabggkaaDoorZB2
import Derived.Test.YtnclkdhaabggkaaDoorZB4
set_option linter.unusedSimpArgs false
set_option linter.unusedVariables false
namespace Go.Proofs.YtnclkdhaabggkaaDoor.lawFnExactShutOf
open Go.ChangeShapes Go.WideShapes Go.ChangeAt Go.RowKit Go.WideMaps Go.WideElems
open Go.ChangeMaps (open_string shut_string)

theorem shutM_len (b : BoxM) : (shutM b).q.length ≤ b.q.length := by unfold shutM; split <;> simp [zeroBox]

set_option maxRecDepth 100000 in
set_option maxHeartbeats 6400000 in
theorem law (w : World) (b : BoxM) (v : Value) (hv : MsgsAt w v b.q) (hp : ∀ y ∈ b.q, y.2.2.1.size ≤ maxLen) (m : Int) (hm : w.cell? ⟨0, 0, none⟩ = some (.int .i64 m)) :
    Calls Tryd.prog 4 #[bagg b v] w fun e w' => e = .returned (.bool true) ∧ Below w.heap.size w w' := by
  have cz := fun wx (h : MsgsAt wx v b.q) => szBox_any b v 1048576 wx (by omega) (by omega) hp h
  have HV := Lib.hid hv
  obtain ⟨a, c, rfl, _, _, _⟩ := hv
  have hzle := szMs_le b.q 1048576 (by omega)
  go_enter Tryd.func4, Tryd.ntmps4
  go_upto_region 2 with (fail)
  have S0 := Lib.hid ((Held.start w).pushBox 24 (bcells b (.slice a b.q.length c)) (by simp))
  change Code.wp _ _ _ _ (w.alloc (.cells (bcells b (.slice a b.q.length c)) 24))
  generalize w.alloc (.cells (bcells b (.slice a b.q.length c)) 24) = w0 at S0 ⊢
  go_wp2_with (first | refine wpList_load_row rfl 24 (.tmp 1) rfl w.heap.size rfl 24 (bcells b (.slice a b.q.length c)) (0, 0) _ (S0.out.box (w.heap.size, 24, (bcells b (.slice a b.q.length c))) (by simp)).1 Tryd.underlying24 rfl (by kernel_rfl) ?_)
  refine (cz w0 (HV.out.below S0.out.bw)).mono ?_
  rintro e w1 ⟨rfl, b1⟩
  have S1 := Lib.hid (S0.out.below b1)
  clear b1 S0
  clear cz
  by_cases hz : szMs b.q 1048576 < 0
  · have g1 : decide (szMs b.q 1048576 < 0) = true := decide_eq_true hz
    go_wp2
    go_ret
    exact ⟨rfl, S1.out.bw⟩
  have g1 : decide (szMs b.q 1048576 < 0) = false := decide_eq_false hz
  obtain ⟨hlen, hall⟩ := szMs_small (by omega) (show 0 ≤ szMs b.q 1048576 by omega)
  have hl : b.q.length ≤ 1048576 := by omega
  have hs : ∀ x ∈ b.q, x.2.2.1.size ≤ 1048576 := fun x hx => by have := hall x hx; omega
  have CT := Lib.hid (fun wx (h : MsgsAt wx (.slice a b.q.length c) b.q) => toBox_any b _ wx (by omega) h)
  have CS := Lib.hid (fun u wx (h : MsgsAt wx u b.q) => specShut_any b u wx hl hs h)
  have CI := Lib.hid (fun u wx (h : MsgsAt wx u b.q) h2 => implShut_any b u m wx hl hs h h2)
  have hLl := shutM_len b
  obtain ⟨N, hR⟩ : ∃ N, shutM b = N := ⟨_, rfl⟩
  simp only [hR] at CS CI hLl
  have CQ := Lib.hid (fun u1 u2 wx (h1 : MsgsAt wx u1 b.q) (h2 : MsgsAt wx u2 b.q) => eqBox_any b u1 u2 wx (by omega) h1 h2)
  have CE := Lib.hid (fun u1 u2 wx (h1 : MsgsAt wx u1 N.q) (h2 : MsgsAt wx u2 N.q) => eqBox_any N u1 u2 wx (by omega) h1 h2)
  have CK := Lib.hid (fun u B wx (h : MOwn wx B u b.q) => markBox_any b u 1 B wx (Nat.le_refl _) (by omega) h)
  have HL8 := Lib.hid (show 1 + N.q.length * 4 ≤ 8000000 by omega)
  have CH := Lib.hid (fun u wx (h : MsgsAt wx u (mmarks 1 N.q.length)) => heldBox_any N N.q.length u 1 wx (Nat.le_refl _) (by omega) h)
  obtain ⟨z, hz2⟩ : ∃ z, szMs b.q 1048576 = z := ⟨_, rfl⟩
  rw [hz2] at g1
  obtain ⟨kx, hkx⟩ : ∃ kx, ((1 + b.q.length * 4 : Nat) : Int) = kx := ⟨_, rfl⟩
  have g3 : decide (kx < 0) = false := decide_eq_false (by omega)
  simp only [hkx] at CK
  obtain ⟨ky, hky⟩ : ∃ ky, ((1 + N.q.length * 4 : Nat) : Int) = ky := ⟨_, rfl⟩
  have g4 : decide (ky < 0) = false := decide_eq_false (by omega)
  have g5 : (ky != ky) = false := by simp
  simp only [hky] at CH
  have HKY := Lib.hid hky
  have HM := Lib.hid hm
  have hlt : 0 < w.heap.size := World.block_lt_of_cell? _ _ hm
  rw [hz2]
  clear hm hz hz2 hzle hlen hall hl hs hp hLl hkx hky hR
  go_wp2_with (first | refine wpList_load_row rfl 24 (.tmp 1) rfl w.heap.size rfl 24 (bcells b (.slice a b.q.length c)) (0, 0) _ (S1.out.box (w.heap.size, 24, (bcells b (.slice a b.q.length c))) (by simp)).1 Tryd.underlying24 rfl (by kernel_rfl) ?_)
  refine (CT.out _ (HV.out.below S1.out.bw)).mono ?_
  rintro e w2 ⟨ur, rfl, kr, b2⟩
  have KR := Lib.hid (own_msgs_at kr); obtain ⟨ar, cr, hur⟩ := own_slice kr; subst hur; clear kr
  have S2 := Lib.hid (S1.out.below b2)
  clear b2 S1
  go_wp2_with fail
  refine (CS.out _ _ KR.out).mono ?_
  rintro e w3 ⟨uz, rfl, kz, b3⟩
  obtain ⟨azA, czA, huz⟩ := own_slice kz; subst huz
  have S3 := Lib.hid (S2.out.pushRow b3 kz (by simp))
  clear b3 S2
  obtain ⟨bA, hbA⟩ : ∃ b, w2.heap.size = b := ⟨_, rfl⟩
  rw [hbA] at S3
  clear hbA kz KR
  go_upto_region 6 with (fail)
  have S4 := Lib.hid (S3.out.pushBox 28 (bcells N (.slice azA N.q.length czA)) (by simp))
  change Code.wp _ _ _ _ (w3.alloc (.cells (bcells N (.slice azA N.q.length czA)) 28))
  generalize w3.alloc (.cells (bcells N (.slice azA N.q.length czA)) 28) = w4 at S4 ⊢
  obtain ⟨GA, hGGA⟩ : ∃ G, w3.heap.size = G := ⟨_, rfl⟩
  rw [hGGA] at S4 ⊢
  clear hGGA S3
  go_wp2_with (first | refine wpList_load_row rfl 24 (.tmp 1) rfl w.heap.size rfl 24 (bcells b (.slice a b.q.length c)) (0, 0) _ (S4.out.box (w.heap.size, 24, (bcells b (.slice a b.q.length c))) (by simp)).1 Tryd.underlying24 rfl (by kernel_rfl) ?_)
  refine (CT.out _ (HV.out.below S4.out.bw)).mono ?_
  rintro e w5 ⟨ux, rfl, kx2, b5⟩
  obtain ⟨ax, cx, hux⟩ := own_slice kx2; subst hux
  have S5 := Lib.hid (S4.out.pushRow b5 kx2 (by simp))
  clear b5 S4
  obtain ⟨bX, hbX⟩ : ∃ b, w4.heap.size = b := ⟨_, rfl⟩
  rw [hbX] at S5
  clear hbX kx2
  go_upto_region 7 with (fail)
  have S6 := Lib.hid (S5.out.pushBox 28 (bcells b (.slice ax b.q.length cx)) (by simp))
  change Code.wp _ _ _ _ (w5.alloc (.cells (bcells b (.slice ax b.q.length cx)) 28))
  generalize w5.alloc (.cells (bcells b (.slice ax b.q.length cx)) 28) = w6 at S6 ⊢
  obtain ⟨GX, hGGX⟩ : ∃ G, w5.heap.size = G := ⟨_, rfl⟩
  rw [hGGX] at S6 ⊢
  clear hGGX S5
  go_wp2_with (first | refine wpList_load_row rfl 28 (.tmp 5) rfl GX rfl 28 (bcells b (.slice ax b.q.length cx)) (0, 0) _ (S6.out.box (GX, 28, (bcells b (.slice ax b.q.length cx))) (by simp)).1 Tryd.underlying28 rfl (by kernel_rfl) ?_)
  refine (CI.out _ _ (own_msgs_at (show MOwn w6 bX (.slice ax b.q.length cx) b.q from (S6.out.row ⟨bX, 30, 4, (.slice ax b.q.length cx), b.q.length, mcells b.q⟩ (by simp)).1)) ((S6.out.bw.cell hlt).trans HM.out)).mono ?_
  rintro e w7 ⟨VB, uz, prez, postz, rfl, kz, ptz, b7⟩
  obtain ⟨XB, YB, hXz, pz⟩ := part_kitBK (b := N) (post := postz) ptz HL8.out HKY.out; obtain ⟨azB, czB, huz⟩ := ptz.slice; subst huz; rw [hXz] at kz; have PZB := Lib.hid pz; clear hXz ptz prez postz pz
  have S7 := Lib.hid (S6.out.pushRow b7 kz (by simp))
  clear b7 S6
  obtain ⟨bB, hbB⟩ : ∃ b, w6.heap.size = b := ⟨_, rfl⟩
  rw [hbB] at S7
  clear hbB kz
  go_upto_region 8 with (fail)
  have S8 := Lib.hid (S7.out.pushBox 28 (bcells N (.slice azB N.q.length czB)) (by simp))
  change Code.wp _ _ _ _ (w7.alloc (.cells (bcells N (.slice azB N.q.length czB)) 28))
  generalize w7.alloc (.cells (bcells N (.slice azB N.q.length czB)) 28) = w8 at S8 ⊢
  obtain ⟨GB, hGGB⟩ : ∃ G, w7.heap.size = G := ⟨_, rfl⟩
  rw [hGGB] at S8 ⊢
  clear hGGB S7
  go_wp2_with (first | refine wpList_load_row rfl 28 (.tmp 6) rfl GB rfl 28 (bcells N (.slice azB N.q.length czB)) (0, 0) _ (S8.out.box (GB, 28, (bcells N (.slice azB N.q.length czB))) (by simp)).1 Tryd.underlying28 rfl (by kernel_rfl) ?_ | refine wpList_load_row rfl 28 (.tmp 4) rfl GA rfl 28 (bcells N (.slice azA N.q.length czA)) (0, 0) _ (S8.out.box (GA, 28, (bcells N (.slice azA N.q.length czA))) (by simp)).1 Tryd.underlying28 rfl (by kernel_rfl) ?_)
  refine (CE.out _ _ _ (PZB.out.reads _ _ (show MOwn w8 bB VB XB from (S8.out.row ⟨bB, 30, 4, VB, XB.length, mcells XB⟩ (by simp)).1)) (own_msgs_at (show MOwn w8 bA (.slice azA N.q.length czA) N.q from (S8.out.row ⟨bA, 30, 4, (.slice azA N.q.length czA), N.q.length, mcells N.q⟩ (by simp)).1))).mono ?_
  rintro e w9 ⟨rfl, b9⟩
  have S9 := Lib.hid (S8.out.below b9)
  clear b9 S8
  go_upto_region 10 with (fail)
  have hDR : Below w9.heap.size w9 w9.drew := (Below.refl _ _).drew
  have SD := S9.out.below hDR
  refine wp_region_held_drew (S := fun wx => wx.heap[GX]? = some (.cells (bcells b (.slice ax b.q.length cx)) 28 (0, 0)) ∧ wx.heap[w.heap.size]? = some (.cells (bcells b (.slice a b.q.length c)) 24 (0, 0))) (by kernel_rfl) ?_ (fun hHeld => ?_)
  · exact ⟨(SD.box (GX, 28, (bcells b (.slice ax b.q.length cx))) (by simp)).1, (SD.box (w.heap.size, 24, (bcells b (.slice a b.q.length c))) (by simp)).1⟩
  change wpAnyH _ _ _ _ _ 5 #[false, false, false, false, false] _ _
  have SD := Lib.hid SD
  refine wpAnyH_take (i := 0) (v := bagg b (.slice ax b.q.length cx)) rfl (by kernel_rfl) (by kernel_rfl) (by kernel_rfl) (fun _ _ _ h => h) (yieldsIf_load_mid rfl 28 (.tmp 5) rfl GX 0 rfl [.int .i64 b.cap, .int .i64 b.pol, (.slice ax b.q.length cx), .int .i64 b.ofr, .int .i64 b.rcv, .int .i64 b.drp, .int .i64 b.mrg, .bool b.shut] _ (fun wx h => range_of_heap h.1) Tryd.underlying28 rfl (by kernel_rfl)) (by assumption) ?_
  try simp only [Act.put, List.getElem_toArray, List.getElem_cons_succ, List.getElem_cons_zero, List.setIfInBounds_toArray, List.set_cons_zero, List.set_cons_succ]
  refine wpAnyH_take (i := 1) (v := bagg b (.slice a b.q.length c)) rfl (by kernel_rfl) (by kernel_rfl) (by kernel_rfl) (fun _ _ _ h => h) (yieldsIf_load_mid rfl 24 (.tmp 1) rfl w.heap.size 0 rfl [.int .i64 b.cap, .int .i64 b.pol, (.slice a b.q.length c), .int .i64 b.ofr, .int .i64 b.rcv, .int .i64 b.drp, .int .i64 b.mrg, .bool b.shut] _ (fun wx h => range_of_heap h.2) Tryd.underlying24 rfl (by kernel_rfl)) (by assumption) ?_
  try simp only [Act.put, List.getElem_toArray, List.getElem_cons_succ, List.getElem_cons_zero, List.setIfInBounds_toArray, List.set_cons_zero, List.set_cons_succ]
  refine wpAnyH_ready (rs := [2]) (by kernel_rfl) (by simp) (AllReadyH.cons rfl (fun K hK => ?_) AllReadyH.nil)
  rw [if_pos (by rfl)]
  go_simp; go_at_call 8; refine (CT.out _ (HV.out.below SD.out.bw)).mono ?_; rintro e w10 ⟨ut, rfl, kt, b10⟩; obtain ⟨at8, ct8, hut⟩ := own_slice kt; subst hut; have S10 := Lib.hid (SD.out.below b10); go_wp2_with fail
  refine hK.out _ _ ?_ (fun hHeld => ?_)
  · exact ⟨(S10.out.box (GX, 28, (bcells b (.slice ax b.q.length cx))) (by simp)).1, (S10.out.box (w.heap.size, 24, (bcells b (.slice a b.q.length c))) (by simp)).1⟩
  clear hK K
  try simp only [Act.put, List.getElem_toArray, List.getElem_cons_succ, List.getElem_cons_zero, List.setIfInBounds_toArray, List.set_cons_zero, List.set_cons_succ]
  have KT := Lib.hid (own_msgs_at kt)
  clear kt b10
  refine wpAnyH_ready (rs := [3]) (by kernel_rfl) (by simp) (AllReadyH.cons rfl (fun K hK => ?_) AllReadyH.nil)
  rw [if_pos (by rfl)]
  go_simp; go_at_call 10; refine (CQ.out _ _ _ (own_msgs_at (show MOwn w10 bX (.slice ax b.q.length cx) b.q from (S10.out.row ⟨bX, 30, 4, (.slice ax b.q.length cx), b.q.length, mcells b.q⟩ (by simp)).1)) KT.out).mono ?_; rintro e w11 ⟨rfl, b11⟩; have S11 := Lib.hid (S10.out.below b11); go_wp2_with fail
  refine hK.out _ _ ?_ (fun hHeld => ?_)
  · exact ⟨(S11.out.box (GX, 28, (bcells b (.slice ax b.q.length cx))) (by simp)).1, (S11.out.box (w.heap.size, 24, (bcells b (.slice a b.q.length c))) (by simp)).1⟩
  clear hK K
  try simp only [Act.put, List.getElem_toArray, List.getElem_cons_succ, List.getElem_cons_zero, List.setIfInBounds_toArray, List.set_cons_zero, List.set_cons_succ]
  refine wpAnyH_take (i := 4) (v := ?_) rfl (by kernel_rfl) (by kernel_rfl) (by kernel_rfl) (fun _ _ _ h => h) (Or.inl ⟨by rfl, ?_⟩) (by assumption) ?_
  rotate_left
  · intro w hSw; (try dsimp only at hSw); go_simp; try with_reducible rfl
  try simp only [Act.put, List.getElem_toArray, List.getElem_cons_succ, List.getElem_cons_zero, List.setIfInBounds_toArray, List.set_cons_zero, List.set_cons_succ]
  refine wpAnyH_done (by kernel_rfl) ?_ _
  clear hHeld hDR b11 S10 KT SD S9
  go_wp2_with (first | refine wpList_load_row rfl 28 (.tmp 5) rfl GX rfl 28 (bcells b (.slice ax b.q.length cx)) (0, 0) _ (S11.out.box (GX, 28, (bcells b (.slice ax b.q.length cx))) (by simp)).1 Tryd.underlying28 rfl (by kernel_rfl) ?_)
  refine (CK.out _ _ _ (show MOwn w11 bX (.slice ax b.q.length cx) b.q from (S11.out.row ⟨bX, 30, 4, (.slice ax b.q.length cx), b.q.length, mcells b.q⟩ (by simp)).1)).mono ?_
  rintro e w12 ⟨rfl, k12, g12⟩
  have S12 := Lib.hid (S11.out.mark 1 (by simp) rfl g12 (mcells (mmarks 1 b.q.length)) (by have h := k12; unfold MOwn at h; rw [mmarks_length] at h; exact h))
  simp only [List.set_cons_succ, List.set_cons_zero, List.getElem_cons_succ, List.getElem_cons_zero] at S12
  clear S11
  go_upto_region 14 with (fail)
  obtain ⟨cc0, cc1, cc2, cc3, cc4, cc5, cc6, cc7⟩ := BBox.cells (show BBox w12 GB 28 N (.slice azB N.q.length czB) from (S12.out.box (GB, 28, (bcells N (.slice azB N.q.length czB))) (by simp)).1)
  obtain ⟨ee0, ee1, ee2, ee3, ee4, ee5, ee6, ee7⟩ := BBox.cells (show BBox w12 GA 28 N (.slice azA N.q.length czA) from (S12.out.box (GA, 28, (bcells N (.slice azA N.q.length czA))) (by simp)).1)
  go_wp2_with fail
  refine (CE.out _ _ _ (PZB.out.reads _ _ (show MOwn w12 bB VB XB from (S12.out.row ⟨bB, 30, 4, VB, XB.length, mcells XB⟩ (by simp)).1)) (own_msgs_at (show MOwn w12 bA (.slice azA N.q.length czA) N.q from (S12.out.row ⟨bA, 30, 4, (.slice azA N.q.length czA), N.q.length, mcells N.q⟩ (by simp)).1))).mono ?_
  rintro e w13 ⟨rfl, b13⟩
  have S13 := Lib.hid (S12.out.below b13)
  clear b13 S12
  clear cc0 cc1 cc2 cc3 cc4 cc5 cc6 cc7 ee0 ee1 ee2 ee3 ee4 ee5 ee6 ee7
  go_upto_region 17 with (fail)
  go_wp2_with (first | refine wpList_load_row rfl 28 (.tmp 6) rfl GB rfl 28 (bcells N (.slice azB N.q.length czB)) (0, 0) _ (S13.out.box (GB, 28, (bcells N (.slice azB N.q.length czB))) (by simp)).1 Tryd.underlying28 rfl (by kernel_rfl) ?_)
  refine (PZB.out.mark _ _ (show MOwn w13 bB VB XB from (S13.out.row ⟨bB, 30, 4, VB, XB.length, mcells XB⟩ (by simp)).1)).mono ?_
  rintro e w14 ⟨rfl, k14, g14⟩
  have S14 := Lib.hid (S13.out.mark 0 (by simp) rfl g14 (mcells YB) (by have h := k14; unfold MOwn at h; rw [PZB.out.len] at h; exact h))
  simp only [List.set_cons_succ, List.set_cons_zero, List.getElem_cons_succ, List.getElem_cons_zero] at S14
  clear S13
  go_upto_region 19 with (fail)
  go_wp2_with (first | refine wpList_load_row rfl 28 (.tmp 6) rfl GB rfl 28 (bcells N (.slice azB N.q.length czB)) (0, 0) _ (S14.out.box (GB, 28, (bcells N (.slice azB N.q.length czB))) (by simp)).1 Tryd.underlying28 rfl (by kernel_rfl) ?_)
  refine (CH.out _ _ (PZB.out.marked _ _ (show MOwn w14 bB VB YB from by have h := (S14.out.row ⟨bB, 30, 4, VB, XB.length, mcells YB⟩ (by simp)).1; unfold MOwn; rw [PZB.out.len]; exact h))).mono ?_
  rintro e w15 ⟨rfl, b15⟩
  have S15 := Lib.hid (S14.out.below b15)
  clear b15 S14
  go_upto_region 24 with (fail)
  go_wp2_with (first | refine wpList_load_row rfl 24 (.tmp 1) rfl w.heap.size rfl 24 (bcells b (.slice a b.q.length c)) (0, 0) _ (S15.out.box (w.heap.size, 24, (bcells b (.slice a b.q.length c))) (by simp)).1 Tryd.underlying24 rfl (by kernel_rfl) ?_)
  refine (CT.out _ (HV.out.below S15.out.bw)).mono ?_
  rintro e w16 ⟨ur, rfl, kr, b16⟩
  have KR := Lib.hid (own_msgs_at kr); obtain ⟨ar, cr, hur⟩ := own_slice kr; subst hur; clear kr
  have S16 := Lib.hid (S15.out.below b16)
  clear b16 S15
  go_wp2_with fail
  refine (CI.out _ _ KR.out ((S16.out.bw.cell hlt).trans HM.out)).mono ?_
  rintro e w17 ⟨VC, uz, prez, postz, rfl, kz, ptz, b17⟩
  obtain ⟨XC, YC, hXz, pz⟩ := part_kitBK (b := N) (post := postz) ptz HL8.out HKY.out; obtain ⟨azC, czC, huz⟩ := ptz.slice; subst huz; rw [hXz] at kz; have PZC := Lib.hid pz; clear hXz ptz prez postz pz
  have S17 := Lib.hid (S16.out.pushRow b17 kz (by simp))
  clear b17 S16
  obtain ⟨bC, hbC⟩ : ∃ b, w16.heap.size = b := ⟨_, rfl⟩
  rw [hbC] at S17
  clear hbC kz KR
  go_upto_region 25 with (fail)
  have S18 := Lib.hid (S17.out.pushBox 28 (bcells N (.slice azC N.q.length czC)) (by simp))
  change Code.wp _ _ _ _ (w17.alloc (.cells (bcells N (.slice azC N.q.length czC)) 28))
  generalize w17.alloc (.cells (bcells N (.slice azC N.q.length czC)) 28) = w18 at S18 ⊢
  obtain ⟨GC, hGGC⟩ : ∃ G, w17.heap.size = G := ⟨_, rfl⟩
  rw [hGGC] at S18 ⊢
  clear hGGC S17
  go_wp2_with (first | refine wpList_load_row rfl 28 (.tmp 10) rfl GC rfl 28 (bcells N (.slice azC N.q.length czC)) (0, 0) _ (S18.out.box (GC, 28, (bcells N (.slice azC N.q.length czC))) (by simp)).1 Tryd.underlying28 rfl (by kernel_rfl) ?_ | refine wpList_load_row rfl 28 (.tmp 4) rfl GA rfl 28 (bcells N (.slice azA N.q.length czA)) (0, 0) _ (S18.out.box (GA, 28, (bcells N (.slice azA N.q.length czA))) (by simp)).1 Tryd.underlying28 rfl (by kernel_rfl) ?_)
  refine (CE.out _ _ _ (PZC.out.reads _ _ (show MOwn w18 bC VC XC from (S18.out.row ⟨bC, 30, 4, VC, XC.length, mcells XC⟩ (by simp)).1)) (own_msgs_at (show MOwn w18 bA (.slice azA N.q.length czA) N.q from (S18.out.row ⟨bA, 30, 4, (.slice azA N.q.length czA), N.q.length, mcells N.q⟩ (by simp)).1))).mono ?_
  rintro e w19 ⟨rfl, b19⟩
  have S19 := Lib.hid (S18.out.below b19)
  clear b19 S18
  go_upto_region 28 with (fail)
  go_wp2_with (first | refine wpList_load_row rfl 28 (.tmp 6) rfl GB rfl 28 (bcells N (.slice azB N.q.length czB)) (0, 0) _ (S19.out.box (GB, 28, (bcells N (.slice azB N.q.length czB))) (by simp)).1 Tryd.underlying28 rfl (by kernel_rfl) ?_)
  refine (CH.out _ _ (PZB.out.marked _ _ (show MOwn w19 bB VB YB from by have h := (S19.out.row ⟨bB, 30, 4, VB, XB.length, mcells YB⟩ (by simp)).1; unfold MOwn; rw [PZB.out.len]; exact h))).mono ?_
  rintro e w20 ⟨rfl, b20⟩
  have S20 := Lib.hid (S19.out.below b20)
  clear b20 S19
  go_wp2
  go_ret
  exact ⟨rfl, S20.out.bw⟩

set_option maxRecDepth 100000 in
theorem contract (H : Type) (enc : TypeId × Value → H) (W : World) (base : Nat) (args : Array Value) (ds gs : List (DataW H)) (before : List MemPlace)
    (hval : ∀ (j : Nat) t v, Tryd.f4.params[j]? = some t → args[j]? = some v → Value.okWide Tryd.prog W .any base t v)
    (hW : DataW.Whole enc Tryd.prog Tryd.f4.params.toList Rows.fnExactShutOfSpec.vars false W args.toList ds gs before) (hsh : W.ShapedOpen Tryd.prog) :
    Calls Tryd.prog 4 args W fun e W' => ∃ v, e = .returned v ∧ Rows.fnExactShutOfSpec.post enc Tryd.prog Tryd.f4 false true false false W args v W' := by
  have hW' := hW
  obtain ⟨p, q, hA0, hV, rfl, hfz, hnd⟩ := hW
  have hA : DataW.TrodAll enc Tryd.prog W 0 (fun _ => true) true Tryd.f4.params.toList args.toList ds p := hA0
  rw [Tryd.params4] at hA hval
  obtain ⟨v0, vs0, d0, ds0, p0, q0, hargs, rfl, rfl, h0, r0⟩ := trodAll_cons hA
  obtain ⟨rfl, rfl, rfl⟩ := trodAll_nil r0
  obtain rfl : args = #[v0] := by cases args; simp_all
  obtain ⟨rfl, rfl⟩ := trodVars_none hV
  obtain ⟨cs0, rfl, cz0⟩ := okWide_struct Tryd.underlying24 (hval 0 24 v0 rfl rfl)
  have k0 := h0
  have lt0 : ∀ x ∈ p0, x.block < W.heap.size := by obtain ⟨m, hm⟩ := k0; exact DataW.trod_lt m _ _ _ hm
  have w0 : ∃ (b : BoxM) (v : Value), cs0 = bcells b v ∧ MsgsAt W v b.q ∧ ∀ y ∈ b.q, y.2.2.1.size ≤ maxLen := by
    obtain ⟨fuel, hf⟩ := h0
    obtain ⟨b, v, e, hk, hs⟩ := box_read Tryd.underlying24 (by kernel_rfl) ⟨rfl, rfl⟩ ⟨rfl, rfl⟩ ⟨rfl, rfl⟩ ⟨rfl, rfl⟩ ⟨rfl, rfl⟩ ⟨rfl, rfl⟩ ⟨rfl, rfl⟩ ⟨rfl, rfl⟩ (by kernel_rfl) Tryd.underlying4 (by kernel_rfl) Tryd.underlying22 Tryd.underlying49 (by kernel_rfl) ⟨rfl, rfl⟩ ⟨rfl, rfl⟩ ⟨rfl, rfl⟩ ⟨rfl, rfl⟩ Tryd.underlying2 (by kernel_rfl) Tryd.underlying9 (by kernel_rfl) hf
    exact ⟨b, v, Array.toList_inj.1 e, hk, hs⟩
  obtain ⟨b0, v0, rfl, w0, s0⟩ := w0
  clear hA0
  simp only [List.append_nil] at hW'
  obtain ⟨m, hm⟩ := maxLen_cell hsh
  refine (law W b0 v0 w0 s0 m hm).mono fun e W' ⟨he, hg⟩ => ?_
  subst he
  exact ⟨_, rfl, _, _, _, [], _, [], hW', trodAll_cons_mk (shut_bool Tryd.underlying4 _) trodAll_mk0, trodAll_cons_mk (Below.trod laidOut (by kernel_rfl) (of_decide_eq_true (by kernel_rfl)) k0 hg lt0) (trodAll_mk0), rfl, hg.frame _, fun h => by cases h⟩

theorem reads (os : Os) {H : Type} (enc : TypeId × Value → H) : ∃ places, DataW.whole enc Tryd.prog ((World.laidAll Tryd.prog os Rows.fnExactShutOfRow.laid).forCall (fun _ _ => 0) ⟨#[], #[(.agg #[.int .i64 0, .int .i64 0, .slice none 0 0, .int .i64 0, .int .i64 0, .int .i64 0, .int .i64 0, .bool false] : Value)], []⟩).memory Tryd.f4.params.toList Rows.fnExactShutOfSpec.vars false (#[(.agg #[.int .i64 0, .int .i64 0, .slice none 0 0, .int .i64 0, .int .i64 0, .int .i64 0, .int .i64 0, .bool false] : Value)] : Array Value).toList 8 = some ([.agg [.lit (.int .i64 0), .lit (.int .i64 0), .nil, .lit (.int .i64 0), .lit (.int .i64 0), .lit (.int .i64 0), .lit (.int .i64 0), .lit (.bool false)]], [], places) :=
  ⟨[], by kernel_rfl⟩

theorem laid_met (os : Os) : laidMetH Tryd.prog Rows.fnExactShutOfRow.laid ((World.laidAll Tryd.prog os Rows.fnExactShutOfRow.laid).forCall (fun _ _ => 0) ⟨#[], #[(.agg #[.int .i64 0, .int .i64 0, .slice none 0 0, .int .i64 0, .int .i64 0, .int .i64 0, .int .i64 0, .bool false] : Value)], []⟩).memory := by
  rw [MakeChecks.laidMetH_plain _ _ _ (by kernel_rfl)]
  exact laidMet_laidAll _ (by kernel_rfl) (by kernel_rfl)

set_option maxRecDepth 100000 in
theorem lifted (os : Os) (started : os.Started) (H : Type) (enc : TypeId × Value → H) (F : Stop.Interp) :
    ReturnsInHanded {} Tryd.checked os 4 .any ((OpenSpec.ofChange Rows.fnExactShutOfSpec).preRow enc Tryd.prog Tryd.f4 Rows.fnExactShutOfRow.domain false Rows.fnExactShutOfRow.laid) (((OpenSpec.ofChange Rows.fnExactShutOfSpec).at F).post enc Tryd.prog Tryd.f4 false true false false) := by
  obtain ⟨places, hx⟩ := reads os enc
  refine returnsInHanded_of_row (C := Tryd.checked) (s := OpenSpec.ofChange Rows.fnExactShutOfSpec) own started (by kernel_rfl) Tryd.func4
    (witness_row_at (enc := enc) (C := Tryd.checked) false (World.laidAll Tryd.prog os Rows.fnExactShutOfRow.laid) #[(.agg #[.int .i64 0, .int .i64 0, .slice none 0 0, .int .i64 0, .int .i64 0, .int .i64 0, .int .i64 0, .bool false] : Value)] (World.laidAll_os _ _ _) (by kernel_rfl) (by kernel_rfl) (by kernel_rfl)
      (OpenSpec.preRow_of_cond 8 hx (by kernel_rfl) (fun k hk => by cases hk) (by kernel_rfl) (laid_met os))) ?_
  intro W base args ds gs before hval hW _ _ _ _ hsh _
  exact contract H enc W base args ds gs before hval hW hsh

theorem said : Rows.FnExactShutOfSaid :=
  OpenClaim.holds_of_cond 4 Tryd.f4 rfl rfl rfl rfl rfl rfl rfl ⟨rfl, rfl, rfl, rfl, rfl⟩ rfl rfl rfl rfl rfl (by kernel_rfl) Tryd.func4 (by kernel_rfl)
    (of_decide_eq_true (by kernel_rfl)) (by unfold Func.isWrapper; first | (rw [if_pos (by decide +kernel)]; kernel_rfl) | (rw [if_neg (by decide +kernel)]; exact ⟨rfl, rfl⟩))
    (fun os started H enc _ F => by rw [OpenClaim.pre_eq_preRow]; exact lifted os started H enc F)

theorem plain (f : FuncId) (fn : Func) (hf : Tryd.pinned.checked.prog.funcNamed Tryd.f4.name = some f) (hfn : Tryd.pinned.checked.prog.funcs[f]? = some fn) :
    ∀ (j : Nat) t, fn.params[j]? = some t → Tryd.pinned.checked.prog.wantsStandIn t = false := by
  obtain rfl : f = 4 := Option.some.inj ((show Tryd.prog.funcNamed Tryd.f4.name = some 4 by kernel_rfl).symm.trans hf) |>.symm
  obtain rfl : fn = Tryd.f4 := (Option.some.inj (Tryd.func4.symm.trans hfn)).symm
  intro j t ht
  rw [Tryd.params4] at ht
  have hm := Array.mem_of_getElem? ht
  have hall : (Tryd.f4.params.all fun u => !Tryd.prog.wantsStandIn u) = true := by kernel_rfl
  rw [Tryd.params4] at hall
  rw [Array.all_eq_true_iff_forall_mem] at hall
  have := hall t hm
  exact (show Tryd.prog.wantsStandIn t = false by simpa using this)

theorem card : Rows.FnExactShutOfCardSaid :=
  Claim7.holds_tied_plain_at .later [] _ _ _ _ said (fun _ h => by cases h) (by kernel_rfl) (fun _ h => by cases h) fnExactShutOf_row_tie rfl ⟨rfl, rfl⟩ (by kernel_rfl) rfl (fun f fn hf hfn => ⟨by kernel_rfl, plain f fn hf hfn⟩) (by kernel_rfl)
end Go.Proofs.YtnclkdhaabggkaaDoor.lawFnExactShutOf
