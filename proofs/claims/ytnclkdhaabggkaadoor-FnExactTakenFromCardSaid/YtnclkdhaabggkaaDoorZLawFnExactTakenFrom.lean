/- The law FnExactTakenFrom holds at every argument: for every input it returns true and leaves the input as it was. -/
import Derived.Test.YtnclkdhaabggkaaDoorZB1
import Derived.Test.YtnclkdhaabggkaaDoorZB5
import Derived.Test.YtnclkdhaabggkaaDoorZITake
import Derived.Test.YtnclkdhaabggkaaDoorZSTake
import Derived.Test.YtnclkdhaabggkaaDoorZB2
import Derived.Test.YtnclkdhaabggkaaDoorZB4
set_option linter.unusedSimpArgs false
set_option linter.unusedVariables false
namespace Go.Proofs.YtnclkdhaabggkaaDoor.lawFnExactTakenFrom
open Go.ChangeShapes Go.WideShapes Go.ChangeAt Go.RowKit Go.WideMaps Go.WideElems
open Go.ChangeMaps (open_string shut_string)

theorem shutM_len (b : BoxM) : (shutM b).q.length ≤ b.q.length := by unfold shutM; split <;> simp [zeroBox]

set_option maxRecDepth 100000 in
set_option maxHeartbeats 6400000 in
theorem law (w : World) (b : BoxM) (v : Value) (hv : MsgsAt w v b.q) (hp : ∀ y ∈ b.q, y.2.2.1.size ≤ maxLen) (m : Int) (hm : w.cell? ⟨0, 0, none⟩ = some (.int .i64 m)) :
    Calls Tryd.prog 3 #[bagg b v] w fun e w' => e = .returned (.bool true) ∧ Below w.heap.size w w' := by
  have cz := fun wx (h : MsgsAt wx v b.q) => szBox_any b v 1048576 wx (by omega) (by omega) hp h
  have HV := Lib.hid hv
  obtain ⟨a, c, rfl, _, _, _⟩ := hv
  have hzle := szMs_le b.q 1048576 (by omega)
  go_enter Tryd.func3, Tryd.ntmps3
  go_upto_region 2 with (fail)
  have S0 := Lib.hid ((Held.start w).pushBox 24 (bcells b (.slice a b.q.length c)) (by simp))
  change Code.wp _ _ _ _ (w.alloc (.cells (bcells b (.slice a b.q.length c)) 24))
  generalize w.alloc (.cells (bcells b (.slice a b.q.length c)) 24) = w0 at S0 ⊢
  go_wp2_with (first | refine wpList_load_row rfl 24 (.tmp 1) rfl w.heap.size rfl 24 (bcells b (.slice a b.q.length c)) (0, 0) _ (S0.out.box (w.heap.size, 24, (bcells b (.slice a b.q.length c))) (by simp)).1 Tryd.underlying24 rfl (by kernel_rfl) ?_)
  refine (cz w0 (HV.out.below S0.out.bw)).mono ?_
  rintro e w1 ⟨rfl, b1⟩
  have S1 := Lib.hid (S0.out.below b1)
  clear b1 S0
  clear cz
  by_cases hz : szMs b.q 1048576 < 0
  · have g1 : decide (szMs b.q 1048576 < 0) = true := decide_eq_true hz
    go_wp2
    go_ret
    exact ⟨rfl, S1.out.bw⟩
  have g1 : decide (szMs b.q 1048576 < 0) = false := decide_eq_false hz
  obtain ⟨hlen, hall⟩ := szMs_small (by omega) (show 0 ≤ szMs b.q 1048576 by omega)
  have hl : b.q.length ≤ 1048576 := by omega
  have hs : ∀ x ∈ b.q, x.2.2.1.size ≤ 1048576 := fun x hx => by have := hall x hx; omega
  have CT := Lib.hid (fun wx (h : MsgsAt wx (.slice a b.q.length c) b.q) => toBox_any b _ wx (by omega) h)
  have CS := Lib.hid (fun u wx (h : MsgsAt wx u b.q) => specTaken_any b u wx hl hs h)
  have CI := Lib.hid (fun u wx (h : MsgsAt wx u b.q) h2 => implTaken_any b u m wx hl hs h h2)
  have hLl := takeM_len b
  obtain ⟨N, xm, ok, hR⟩ : ∃ N xm ok, takeM b = (N, xm, ok) := ⟨_, _, _, rfl⟩
  simp only [hR] at CS CI hLl
  have CM := Lib.hid (fun wx => eqMsg_any xm wx)
  have g6 : (ok != ok) = false := by simp
  have CQ := Lib.hid (fun u1 u2 wx (h1 : MsgsAt wx u1 b.q) (h2 : MsgsAt wx u2 b.q) => eqBox_any b u1 u2 wx (by omega) h1 h2)
  have CE := Lib.hid (fun u1 u2 wx (h1 : MsgsAt wx u1 N.q) (h2 : MsgsAt wx u2 N.q) => eqBox_any N u1 u2 wx (by omega) h1 h2)
  have CK := Lib.hid (fun u B wx (h : MOwn wx B u b.q) => markBox_any b u 1 B wx (Nat.le_refl _) (by omega) h)
  have HL8 := Lib.hid (show 1 + N.q.length * 4 ≤ 8000000 by omega)
  have CH := Lib.hid (fun u wx (h : MsgsAt wx u (mmarks 1 N.q.length)) => heldBox_any N N.q.length u 1 wx (Nat.le_refl _) (by omega) h)
  obtain ⟨z, hz2⟩ : ∃ z, szMs b.q 1048576 = z := ⟨_, rfl⟩
  rw [hz2] at g1
  obtain ⟨kx, hkx⟩ : ∃ kx, ((1 + b.q.length * 4 : Nat) : Int) = kx := ⟨_, rfl⟩
  have g3 : decide (kx < 0) = false := decide_eq_false (by omega)
  simp only [hkx] at CK
  obtain ⟨ky, hky⟩ : ∃ ky, ((1 + N.q.length * 4 : Nat) : Int) = ky := ⟨_, rfl⟩
  have g4 : decide (ky < 0) = false := decide_eq_false (by omega)
  have g5 : (ky != ky) = false := by simp
  simp only [hky] at CH
  have HKY := Lib.hid hky
  have HM := Lib.hid hm
  have hlt : 0 < w.heap.size := World.block_lt_of_cell? _ _ hm
  rw [hz2]
  clear hm hz hz2 hzle hlen hall hl hs hp hLl hkx hky hR
  go_wp2_with (first | refine wpList_load_row rfl 24 (.tmp 1) rfl w.heap.size rfl 24 (bcells b (.slice a b.q.length c)) (0, 0) _ (S1.out.box (w.heap.size, 24, (bcells b (.slice a b.q.length c))) (by simp)).1 Tryd.underlying24 rfl (by kernel_rfl) ?_)
  refine (CT.out _ (HV.out.below S1.out.bw)).mono ?_
  rintro e w2 ⟨ur, rfl, kr, b2⟩
  have KR := Lib.hid (own_msgs_at kr); obtain ⟨ar, cr, hur⟩ := own_slice kr; subst hur; clear kr
  have S2 := Lib.hid (S1.out.below b2)
  clear b2 S1
  go_wp2_with fail
  refine (CS.out _ _ KR.out).mono ?_
  rintro e w3 ⟨uz, rfl, kz, b3⟩
  obtain ⟨azA, czA, huz⟩ := own_slice kz; subst huz
  have S3 := Lib.hid (S2.out.pushRow b3 kz (by simp))
  clear b3 S2
  obtain ⟨bA, hbA⟩ : ∃ b, w2.heap.size = b := ⟨_, rfl⟩
  rw [hbA] at S3
  clear hbA kz KR
  go_upto_region 6 with (fail)
  have SA := Lib.hid (S3.out.pushBox 28 (bcells N (.slice azA N.q.length czA)) (by simp))
  have hAL : Below (w3.alloc (.cells (bcells N (.slice azA N.q.length czA)) 28)).heap.size (w3.alloc (.cells (bcells N (.slice azA N.q.length czA)) 28)) ((w3.alloc (.cells (bcells N (.slice azA N.q.length czA)) 28)).alloc (.cells #[.int .i64 xm.1, .int .i64 xm.2.1, .string xm.2.2.1, .int .i64 xm.2.2.2] 30)) := (Below.refl _ _).alloc (Nat.le_refl _) _
  have S4 := Lib.hid (SA.out.below hAL)
  have MA_4 : ((w3.alloc (.cells (bcells N (.slice azA N.q.length czA)) 28)).alloc (.cells #[.int .i64 xm.1, .int .i64 xm.2.1, .string xm.2.2.1, .int .i64 xm.2.2.2] 30)).heap[w3.heap.size + 1]? = some (.cells #[.int .i64 xm.1, .int .i64 xm.2.1, .string xm.2.2.1, .int .i64 xm.2.2.2] 30 (0, 0)) := by rw [show w3.heap.size + 1 = (w3.alloc (.cells (bcells N (.slice azA N.q.length czA)) 28)).heap.size by simp]; exact heap_alloc_new _ _
  have hAM : Below w3.heap.size w3 ((w3.alloc (.cells (bcells N (.slice azA N.q.length czA)) 28)).alloc (.cells #[.int .i64 xm.1, .int .i64 xm.2.1, .string xm.2.2.1, .int .i64 xm.2.2.2] 30)) := ((Below.refl _ _).alloc (Nat.le_refl _) _).alloc (by simp) _
  change Code.wp _ _ _ _ ((w3.alloc (.cells (bcells N (.slice azA N.q.length czA)) 28)).alloc (.cells #[.int .i64 xm.1, .int .i64 xm.2.1, .string xm.2.2.1, .int .i64 xm.2.2.2] 30))
  generalize ((w3.alloc (.cells (bcells N (.slice azA N.q.length czA)) 28)).alloc (.cells #[.int .i64 xm.1, .int .i64 xm.2.1, .string xm.2.2.1, .int .i64 xm.2.2.2] 30)) = w4 at S4 MA_4 ⊢
  obtain ⟨FMA, hMA⟩ : ∃ G, w3.heap.size + 1 = G := ⟨_, rfl⟩
  rw [hMA] at MA_4 ⊢
  obtain ⟨GA, hGGA⟩ : ∃ G, w3.heap.size = G := ⟨_, rfl⟩
  rw [hGGA] at S4 hMA ⊢
  have lMA : GA < FMA := by omega
  clear hGGA hMA hAL hAM SA S3
  go_wp2_with (first | refine wpList_load_row rfl 24 (.tmp 1) rfl w.heap.size rfl 24 (bcells b (.slice a b.q.length c)) (0, 0) _ (S4.out.box (w.heap.size, 24, (bcells b (.slice a b.q.length c))) (by simp)).1 Tryd.underlying24 rfl (by kernel_rfl) ?_)
  refine (CT.out _ (HV.out.below S4.out.bw)).mono ?_
  rintro e w5 ⟨ux, rfl, kx2, b5⟩
  obtain ⟨ax, cx, hux⟩ := own_slice kx2; subst hux; have nAx : FMA < w4.heap.size := (Array.getElem?_eq_some_iff.1 MA_4).1
  have S5 := Lib.hid (S4.out.pushRow b5 kx2 (by simp))
  have MA_5 := (b5.block _ (Array.getElem?_eq_some_iff.1 MA_4).1).trans MA_4
  clear MA_4
  clear b5 S4
  obtain ⟨bX, hbX⟩ : ∃ b, w4.heap.size = b := ⟨_, rfl⟩
  rw [hbX] at S5 nAx
  clear hbX kx2
  go_upto_region 7 with (fail)
  have S6 := Lib.hid (S5.out.pushBox 28 (bcells b (.slice ax b.q.length cx)) (by simp))
  have hAM : Below w5.heap.size w5 (w5.alloc (.cells (bcells b (.slice ax b.q.length cx)) 28)) := (Below.refl _ _).alloc (Nat.le_refl _) _
  have MA_6 := (hAM.block _ (Array.getElem?_eq_some_iff.1 MA_5).1).trans MA_5
  change Code.wp _ _ _ _ (w5.alloc (.cells (bcells b (.slice ax b.q.length cx)) 28))
  generalize w5.alloc (.cells (bcells b (.slice ax b.q.length cx)) 28) = w6 at S6 MA_6 ⊢
  obtain ⟨GX, hGGX⟩ : ∃ G, w5.heap.size = G := ⟨_, rfl⟩
  rw [hGGX] at S6 ⊢
  clear hGGX S5 hAM MA_5
  go_wp2_with (first | refine wpList_load_row rfl 28 (.tmp 7) rfl GX rfl 28 (bcells b (.slice ax b.q.length cx)) (0, 0) _ (S6.out.box (GX, 28, (bcells b (.slice ax b.q.length cx))) (by simp)).1 Tryd.underlying28 rfl (by kernel_rfl) ?_)
  refine (CI.out _ _ (own_msgs_at (show MOwn w6 bX (.slice ax b.q.length cx) b.q from (S6.out.row ⟨bX, 30, 4, (.slice ax b.q.length cx), b.q.length, mcells b.q⟩ (by simp)).1)) ((S6.out.bw.cell hlt).trans HM.out)).mono ?_
  rintro e w7 ⟨VB, uz, prez, postz, rfl, kz, ptz, b7⟩
  obtain ⟨XB, YB, hXz, pz⟩ := part_kitBK (b := N) (post := postz) ptz HL8.out HKY.out; obtain ⟨azB, czB, huz⟩ := ptz.slice; subst huz; rw [hXz] at kz; have PZB := Lib.hid pz; clear hXz ptz prez postz pz; have nAg : FMA < w6.heap.size := (Array.getElem?_eq_some_iff.1 MA_6).1
  have S7 := Lib.hid (S6.out.pushRow b7 kz (by simp))
  have MA_7 := (b7.block _ (Array.getElem?_eq_some_iff.1 MA_6).1).trans MA_6
  clear MA_6
  clear b7 S6
  obtain ⟨bB, hbB⟩ : ∃ b, w6.heap.size = b := ⟨_, rfl⟩
  rw [hbB] at S7 nAg
  clear hbB kz
  go_upto_region 8 with (fail)
  have SA := Lib.hid (S7.out.pushBox 28 (bcells N (.slice azB N.q.length czB)) (by simp))
  have hAL : Below (w7.alloc (.cells (bcells N (.slice azB N.q.length czB)) 28)).heap.size (w7.alloc (.cells (bcells N (.slice azB N.q.length czB)) 28)) ((w7.alloc (.cells (bcells N (.slice azB N.q.length czB)) 28)).alloc (.cells #[.int .i64 xm.1, .int .i64 xm.2.1, .string xm.2.2.1, .int .i64 xm.2.2.2] 30)) := (Below.refl _ _).alloc (Nat.le_refl _) _
  have S8 := Lib.hid (SA.out.below hAL)
  have MB_8 : ((w7.alloc (.cells (bcells N (.slice azB N.q.length czB)) 28)).alloc (.cells #[.int .i64 xm.1, .int .i64 xm.2.1, .string xm.2.2.1, .int .i64 xm.2.2.2] 30)).heap[w7.heap.size + 1]? = some (.cells #[.int .i64 xm.1, .int .i64 xm.2.1, .string xm.2.2.1, .int .i64 xm.2.2.2] 30 (0, 0)) := by rw [show w7.heap.size + 1 = (w7.alloc (.cells (bcells N (.slice azB N.q.length czB)) 28)).heap.size by simp]; exact heap_alloc_new _ _
  have hAM : Below w7.heap.size w7 ((w7.alloc (.cells (bcells N (.slice azB N.q.length czB)) 28)).alloc (.cells #[.int .i64 xm.1, .int .i64 xm.2.1, .string xm.2.2.1, .int .i64 xm.2.2.2] 30)) := ((Below.refl _ _).alloc (Nat.le_refl _) _).alloc (by simp) _
  have MA_8 := (hAM.block _ (Array.getElem?_eq_some_iff.1 MA_7).1).trans MA_7
  change Code.wp _ _ _ _ ((w7.alloc (.cells (bcells N (.slice azB N.q.length czB)) 28)).alloc (.cells #[.int .i64 xm.1, .int .i64 xm.2.1, .string xm.2.2.1, .int .i64 xm.2.2.2] 30))
  generalize ((w7.alloc (.cells (bcells N (.slice azB N.q.length czB)) 28)).alloc (.cells #[.int .i64 xm.1, .int .i64 xm.2.1, .string xm.2.2.1, .int .i64 xm.2.2.2] 30)) = w8 at S8 MA_8 MB_8 ⊢
  obtain ⟨FMB, hMB⟩ : ∃ G, w7.heap.size + 1 = G := ⟨_, rfl⟩
  rw [hMB] at MB_8 ⊢
  have nMBx : FMB ≠ 0 → ∀ k, Value.ownBlock ((.slice ax b.q.length cx)) = some k → k < FMB := fun _ k hk => by have h : k < w7.heap.size := (World.ownsRow.lt (S7.out.row ⟨bX, 30, 4, (.slice ax b.q.length cx), b.q.length, mcells b.q⟩ (by simp)).1 k hk).2; omega
  have nMBg : FMB ≠ 0 → ∀ k, Value.ownBlock (VB) = some k → k < FMB := fun _ k hk => by have h : k < w7.heap.size := (World.ownsRow.lt (S7.out.row ⟨bB, 30, 4, VB, XB.length, mcells XB⟩ (by simp)).1 k hk).2; omega
  obtain ⟨GB, hGGB⟩ : ∃ G, w7.heap.size = G := ⟨_, rfl⟩
  rw [hGGB] at S8 hMB ⊢
  have lMB : GB < FMB := by omega
  clear hGGB hMB hAL hAM SA S7 MA_7
  have cMB0 := cell_of_heap MB_8 0
  have cMB1 := cell_of_heap MB_8 1
  have cMB2 := cell_of_heap MB_8 2
  have cMB3 := cell_of_heap MB_8 3
  have cMA0 := cell_of_heap MA_8 0
  have cMA1 := cell_of_heap MA_8 1
  have cMA2 := cell_of_heap MA_8 2
  have cMA3 := cell_of_heap MA_8 3
  go_wp2_with (first | refine wpList_load_row rfl 28 (.tmp 8) rfl GB rfl 28 (bcells N (.slice azB N.q.length czB)) (0, 0) _ (S8.out.box (GB, 28, (bcells N (.slice azB N.q.length czB))) (by simp)).1 Tryd.underlying28 rfl (by kernel_rfl) ?_ | refine wpList_load_row rfl 28 (.tmp 4) rfl GA rfl 28 (bcells N (.slice azA N.q.length czA)) (0, 0) _ (S8.out.box (GA, 28, (bcells N (.slice azA N.q.length czA))) (by simp)).1 Tryd.underlying28 rfl (by kernel_rfl) ?_)
  refine (CE.out _ _ _ (PZB.out.reads _ _ (show MOwn w8 bB VB XB from (S8.out.row ⟨bB, 30, 4, VB, XB.length, mcells XB⟩ (by simp)).1)) (own_msgs_at (show MOwn w8 bA (.slice azA N.q.length czA) N.q from (S8.out.row ⟨bA, 30, 4, (.slice azA N.q.length czA), N.q.length, mcells N.q⟩ (by simp)).1))).mono ?_
  rintro e w9 ⟨rfl, b9⟩
  have S9 := Lib.hid (S8.out.below b9)
  have MA_9 := (b9.block _ (Array.getElem?_eq_some_iff.1 MA_8).1).trans MA_8
  have MB_9 := (b9.block _ (Array.getElem?_eq_some_iff.1 MB_8).1).trans MB_8
  clear MA_8 MB_8
  clear b9 S8
  clear cMB0 cMB1 cMB2 cMB3 cMA0 cMA1 cMA2 cMA3
  have cMB0 := cell_of_heap MB_9 0
  have cMB1 := cell_of_heap MB_9 1
  have cMB2 := cell_of_heap MB_9 2
  have cMB3 := cell_of_heap MB_9 3
  have cMA0 := cell_of_heap MA_9 0
  have cMA1 := cell_of_heap MA_9 1
  have cMA2 := cell_of_heap MA_9 2
  have cMA3 := cell_of_heap MA_9 3
  go_wp2_with fail
  refine (CM.out _).mono ?_
  rintro e w10 ⟨rfl, b10⟩
  have S10 := Lib.hid (S9.out.below b10)
  have MA_10 := (b10.block _ (Array.getElem?_eq_some_iff.1 MA_9).1).trans MA_9
  have MB_10 := (b10.block _ (Array.getElem?_eq_some_iff.1 MB_9).1).trans MB_9
  clear MA_9 MB_9
  clear b10 S9
  clear cMB0 cMB1 cMB2 cMB3 cMA0 cMA1 cMA2 cMA3
  go_upto_region 10 with (fail)
  have hDR : Below w10.heap.size w10 w10.drew := (Below.refl _ _).drew
  have SD := S10.out.below hDR
  have MA_d := (hDR.block _ (Array.getElem?_eq_some_iff.1 MA_10).1).trans MA_10
  have MB_d := (hDR.block _ (Array.getElem?_eq_some_iff.1 MB_10).1).trans MB_10
  refine wp_region_held_drew (S := fun wx => wx.heap[GX]? = some (.cells (bcells b (.slice ax b.q.length cx)) 28 (0, 0)) ∧ wx.heap[w.heap.size]? = some (.cells (bcells b (.slice a b.q.length c)) 24 (0, 0))) (by kernel_rfl) ?_ (fun hHeld => ?_)
  · exact ⟨(SD.box (GX, 28, (bcells b (.slice ax b.q.length cx))) (by simp)).1, (SD.box (w.heap.size, 24, (bcells b (.slice a b.q.length c))) (by simp)).1⟩
  change wpAnyH _ _ _ _ _ 5 #[false, false, false, false, false] _ _
  have SD := Lib.hid SD
  refine wpAnyH_take (i := 0) (v := bagg b (.slice ax b.q.length cx)) rfl (by kernel_rfl) (by kernel_rfl) (by kernel_rfl) (fun _ _ _ h => h) (yieldsIf_load_mid rfl 28 (.tmp 7) rfl GX 0 rfl [.int .i64 b.cap, .int .i64 b.pol, (.slice ax b.q.length cx), .int .i64 b.ofr, .int .i64 b.rcv, .int .i64 b.drp, .int .i64 b.mrg, .bool b.shut] _ (fun wx h => range_of_heap h.1) Tryd.underlying28 rfl (by kernel_rfl)) (by assumption) ?_
  try simp only [Act.put, List.getElem_toArray, List.getElem_cons_succ, List.getElem_cons_zero, List.setIfInBounds_toArray, List.set_cons_zero, List.set_cons_succ]
  refine wpAnyH_take (i := 1) (v := bagg b (.slice a b.q.length c)) rfl (by kernel_rfl) (by kernel_rfl) (by kernel_rfl) (fun _ _ _ h => h) (yieldsIf_load_mid rfl 24 (.tmp 1) rfl w.heap.size 0 rfl [.int .i64 b.cap, .int .i64 b.pol, (.slice a b.q.length c), .int .i64 b.ofr, .int .i64 b.rcv, .int .i64 b.drp, .int .i64 b.mrg, .bool b.shut] _ (fun wx h => range_of_heap h.2) Tryd.underlying24 rfl (by kernel_rfl)) (by assumption) ?_
  try simp only [Act.put, List.getElem_toArray, List.getElem_cons_succ, List.getElem_cons_zero, List.setIfInBounds_toArray, List.set_cons_zero, List.set_cons_succ]
  refine wpAnyH_ready (rs := [2]) (by kernel_rfl) (by simp) (AllReadyH.cons rfl (fun K hK => ?_) AllReadyH.nil)
  rw [if_pos (by rfl)]
  go_simp; go_at_call 8; refine (CT.out _ (HV.out.below SD.out.bw)).mono ?_; rintro e w11 ⟨ut, rfl, kt, b11⟩; obtain ⟨at8, ct8, hut⟩ := own_slice kt; subst hut; have S11 := Lib.hid (SD.out.below b11); have MA_e := (b11.block _ (Array.getElem?_eq_some_iff.1 MA_d).1).trans MA_d; have MB_e := (b11.block _ (Array.getElem?_eq_some_iff.1 MB_d).1).trans MB_d; go_wp2_with fail
  refine hK.out _ _ ?_ (fun hHeld => ?_)
  · exact ⟨(S11.out.box (GX, 28, (bcells b (.slice ax b.q.length cx))) (by simp)).1, (S11.out.box (w.heap.size, 24, (bcells b (.slice a b.q.length c))) (by simp)).1⟩
  clear hK K
  try simp only [Act.put, List.getElem_toArray, List.getElem_cons_succ, List.getElem_cons_zero, List.setIfInBounds_toArray, List.set_cons_zero, List.set_cons_succ]
  have KT := Lib.hid (own_msgs_at kt)
  clear kt b11
  refine wpAnyH_ready (rs := [3]) (by kernel_rfl) (by simp) (AllReadyH.cons rfl (fun K hK => ?_) AllReadyH.nil)
  rw [if_pos (by rfl)]
  go_simp; go_at_call 10; refine (CQ.out _ _ _ (own_msgs_at (show MOwn w11 bX (.slice ax b.q.length cx) b.q from (S11.out.row ⟨bX, 30, 4, (.slice ax b.q.length cx), b.q.length, mcells b.q⟩ (by simp)).1)) KT.out).mono ?_; rintro e w12 ⟨rfl, b12⟩; have S12 := Lib.hid (S11.out.below b12); have MA_12 := (b12.block _ (Array.getElem?_eq_some_iff.1 MA_e).1).trans MA_e; have MB_12 := (b12.block _ (Array.getElem?_eq_some_iff.1 MB_e).1).trans MB_e; go_wp2_with fail
  refine hK.out _ _ ?_ (fun hHeld => ?_)
  · exact ⟨(S12.out.box (GX, 28, (bcells b (.slice ax b.q.length cx))) (by simp)).1, (S12.out.box (w.heap.size, 24, (bcells b (.slice a b.q.length c))) (by simp)).1⟩
  clear hK K
  try simp only [Act.put, List.getElem_toArray, List.getElem_cons_succ, List.getElem_cons_zero, List.setIfInBounds_toArray, List.set_cons_zero, List.set_cons_succ]
  refine wpAnyH_take (i := 4) (v := ?_) rfl (by kernel_rfl) (by kernel_rfl) (by kernel_rfl) (fun _ _ _ h => h) (Or.inl ⟨by rfl, ?_⟩) (by assumption) ?_
  rotate_left
  · intro w hSw; (try dsimp only at hSw); go_simp; try with_reducible rfl
  try simp only [Act.put, List.getElem_toArray, List.getElem_cons_succ, List.getElem_cons_zero, List.setIfInBounds_toArray, List.set_cons_zero, List.set_cons_succ]
  refine wpAnyH_done (by kernel_rfl) ?_ _
  clear hHeld hDR b12 S11 KT SD S10 MA_10 MA_d MA_e MB_10 MB_d MB_e
  go_wp2_with (first | refine wpList_load_row rfl 28 (.tmp 7) rfl GX rfl 28 (bcells b (.slice ax b.q.length cx)) (0, 0) _ (S12.out.box (GX, 28, (bcells b (.slice ax b.q.length cx))) (by simp)).1 Tryd.underlying28 rfl (by kernel_rfl) ?_)
  refine (CK.out _ _ _ (show MOwn w12 bX (.slice ax b.q.length cx) b.q from (S12.out.row ⟨bX, 30, 4, (.slice ax b.q.length cx), b.q.length, mcells b.q⟩ (by simp)).1)).mono ?_
  rintro e w13 ⟨rfl, k13, g13⟩
  have S13 := Lib.hid (S12.out.mark 1 (by simp) rfl g13 (mcells (mmarks 1 b.q.length)) (by have h := k13; unfold MOwn at h; rw [mmarks_length] at h; exact h))
  simp only [List.set_cons_succ, List.set_cons_zero, List.getElem_cons_succ, List.getElem_cons_zero] at S13
  have MA_13 := (g13.block _ (Array.getElem?_eq_some_iff.1 MA_12).1 (fun e => by have h : bX ≤ FMA := (World.ownsRow.lt (S12.out.row ⟨bX, 30, 4, (.slice ax b.q.length cx), b.q.length, mcells b.q⟩ (by simp)).1 _ e.symm).1; omega)).trans MA_12
  have MB_13 := (g13.block _ (Array.getElem?_eq_some_iff.1 MB_12).1 (fun e => by have h : FMB < FMB := nMBx (by omega) _ e.symm; omega)).trans MB_12
  clear S12 MA_12 MB_12
  go_upto_region 14 with (fail)
  obtain ⟨cc0, cc1, cc2, cc3, cc4, cc5, cc6, cc7⟩ := BBox.cells (show BBox w13 GB 28 N (.slice azB N.q.length czB) from (S13.out.box (GB, 28, (bcells N (.slice azB N.q.length czB))) (by simp)).1)
  obtain ⟨ee0, ee1, ee2, ee3, ee4, ee5, ee6, ee7⟩ := BBox.cells (show BBox w13 GA 28 N (.slice azA N.q.length czA) from (S13.out.box (GA, 28, (bcells N (.slice azA N.q.length czA))) (by simp)).1)
  go_wp2_with fail
  refine (CE.out _ _ _ (PZB.out.reads _ _ (show MOwn w13 bB VB XB from (S13.out.row ⟨bB, 30, 4, VB, XB.length, mcells XB⟩ (by simp)).1)) (own_msgs_at (show MOwn w13 bA (.slice azA N.q.length czA) N.q from (S13.out.row ⟨bA, 30, 4, (.slice azA N.q.length czA), N.q.length, mcells N.q⟩ (by simp)).1))).mono ?_
  rintro e w14 ⟨rfl, b14⟩
  have S14 := Lib.hid (S13.out.below b14)
  have MA_14 := (b14.block _ (Array.getElem?_eq_some_iff.1 MA_13).1).trans MA_13
  have MB_14 := (b14.block _ (Array.getElem?_eq_some_iff.1 MB_13).1).trans MB_13
  clear MA_13 MB_13
  clear b14 S13
  clear cc0 cc1 cc2 cc3 cc4 cc5 cc6 cc7 ee0 ee1 ee2 ee3 ee4 ee5 ee6 ee7
  have cMB0 := cell_of_heap MB_14 0
  have cMB1 := cell_of_heap MB_14 1
  have cMB2 := cell_of_heap MB_14 2
  have cMB3 := cell_of_heap MB_14 3
  have cMA0 := cell_of_heap MA_14 0
  have cMA1 := cell_of_heap MA_14 1
  have cMA2 := cell_of_heap MA_14 2
  have cMA3 := cell_of_heap MA_14 3
  go_wp2_with fail
  refine (CM.out _).mono ?_
  rintro e w15 ⟨rfl, b15⟩
  have S15 := Lib.hid (S14.out.below b15)
  have MA_15 := (b15.block _ (Array.getElem?_eq_some_iff.1 MA_14).1).trans MA_14
  have MB_15 := (b15.block _ (Array.getElem?_eq_some_iff.1 MB_14).1).trans MB_14
  clear MA_14 MB_14
  clear b15 S14
  clear cMB0 cMB1 cMB2 cMB3 cMA0 cMA1 cMA2 cMA3
  go_upto_region 17 with (fail)
  go_wp2_with (first | refine wpList_load_row rfl 28 (.tmp 8) rfl GB rfl 28 (bcells N (.slice azB N.q.length czB)) (0, 0) _ (S15.out.box (GB, 28, (bcells N (.slice azB N.q.length czB))) (by simp)).1 Tryd.underlying28 rfl (by kernel_rfl) ?_)
  refine (PZB.out.mark _ _ (show MOwn w15 bB VB XB from (S15.out.row ⟨bB, 30, 4, VB, XB.length, mcells XB⟩ (by simp)).1)).mono ?_
  rintro e w16 ⟨rfl, k16, g16⟩
  have S16 := Lib.hid (S15.out.mark 0 (by simp) rfl g16 (mcells YB) (by have h := k16; unfold MOwn at h; rw [PZB.out.len] at h; exact h))
  simp only [List.set_cons_succ, List.set_cons_zero, List.getElem_cons_succ, List.getElem_cons_zero] at S16
  have MA_16 := (g16.block _ (Array.getElem?_eq_some_iff.1 MA_15).1 (fun e => by have h : bB ≤ FMA := (World.ownsRow.lt (S15.out.row ⟨bB, 30, 4, VB, XB.length, mcells XB⟩ (by simp)).1 _ e.symm).1; omega)).trans MA_15
  have MB_16 := (g16.block _ (Array.getElem?_eq_some_iff.1 MB_15).1 (fun e => by have h : FMB < FMB := nMBg (by omega) _ e.symm; omega)).trans MB_15
  clear S15 MA_15 MB_15
  go_upto_region 19 with (fail)
  go_wp2_with (first | refine wpList_load_row rfl 28 (.tmp 8) rfl GB rfl 28 (bcells N (.slice azB N.q.length czB)) (0, 0) _ (S16.out.box (GB, 28, (bcells N (.slice azB N.q.length czB))) (by simp)).1 Tryd.underlying28 rfl (by kernel_rfl) ?_)
  refine (CH.out _ _ (PZB.out.marked _ _ (show MOwn w16 bB VB YB from by have h := (S16.out.row ⟨bB, 30, 4, VB, XB.length, mcells YB⟩ (by simp)).1; unfold MOwn; rw [PZB.out.len]; exact h))).mono ?_
  rintro e w17 ⟨rfl, b17⟩
  have S17 := Lib.hid (S16.out.below b17)
  have MA_17 := (b17.block _ (Array.getElem?_eq_some_iff.1 MA_16).1).trans MA_16
  have MB_17 := (b17.block _ (Array.getElem?_eq_some_iff.1 MB_16).1).trans MB_16
  clear MA_16 MB_16
  clear b17 S16
  go_upto_region 24 with (fail)
  go_wp2_with (first | refine wpList_load_row rfl 24 (.tmp 1) rfl w.heap.size rfl 24 (bcells b (.slice a b.q.length c)) (0, 0) _ (S17.out.box (w.heap.size, 24, (bcells b (.slice a b.q.length c))) (by simp)).1 Tryd.underlying24 rfl (by kernel_rfl) ?_)
  refine (CT.out _ (HV.out.below S17.out.bw)).mono ?_
  rintro e w18 ⟨ur, rfl, kr, b18⟩
  have KR := Lib.hid (own_msgs_at kr); obtain ⟨ar, cr, hur⟩ := own_slice kr; subst hur; clear kr
  have S18 := Lib.hid (S17.out.below b18)
  have MA_18 := (b18.block _ (Array.getElem?_eq_some_iff.1 MA_17).1).trans MA_17
  have MB_18 := (b18.block _ (Array.getElem?_eq_some_iff.1 MB_17).1).trans MB_17
  clear MA_17 MB_17
  clear b18 S17
  go_wp2_with fail
  refine (CI.out _ _ KR.out ((S18.out.bw.cell hlt).trans HM.out)).mono ?_
  rintro e w19 ⟨VC, uz, prez, postz, rfl, kz, ptz, b19⟩
  obtain ⟨XC, YC, hXz, pz⟩ := part_kitBK (b := N) (post := postz) ptz HL8.out HKY.out; obtain ⟨azC, czC, huz⟩ := ptz.slice; subst huz; rw [hXz] at kz; have PZC := Lib.hid pz; clear hXz ptz prez postz pz
  have S19 := Lib.hid (S18.out.pushRow b19 kz (by simp))
  have MA_19 := (b19.block _ (Array.getElem?_eq_some_iff.1 MA_18).1).trans MA_18
  have MB_19 := (b19.block _ (Array.getElem?_eq_some_iff.1 MB_18).1).trans MB_18
  clear MA_18 MB_18
  clear b19 S18
  obtain ⟨bC, hbC⟩ : ∃ b, w18.heap.size = b := ⟨_, rfl⟩
  rw [hbC] at S19
  clear hbC kz KR
  go_upto_region 25 with (fail)
  have SA := Lib.hid (S19.out.pushBox 28 (bcells N (.slice azC N.q.length czC)) (by simp))
  have hAL : Below (w19.alloc (.cells (bcells N (.slice azC N.q.length czC)) 28)).heap.size (w19.alloc (.cells (bcells N (.slice azC N.q.length czC)) 28)) ((w19.alloc (.cells (bcells N (.slice azC N.q.length czC)) 28)).alloc (.cells #[.int .i64 xm.1, .int .i64 xm.2.1, .string xm.2.2.1, .int .i64 xm.2.2.2] 30)) := (Below.refl _ _).alloc (Nat.le_refl _) _
  have S20 := Lib.hid (SA.out.below hAL)
  have MC_20 : ((w19.alloc (.cells (bcells N (.slice azC N.q.length czC)) 28)).alloc (.cells #[.int .i64 xm.1, .int .i64 xm.2.1, .string xm.2.2.1, .int .i64 xm.2.2.2] 30)).heap[w19.heap.size + 1]? = some (.cells #[.int .i64 xm.1, .int .i64 xm.2.1, .string xm.2.2.1, .int .i64 xm.2.2.2] 30 (0, 0)) := by rw [show w19.heap.size + 1 = (w19.alloc (.cells (bcells N (.slice azC N.q.length czC)) 28)).heap.size by simp]; exact heap_alloc_new _ _
  have hAM : Below w19.heap.size w19 ((w19.alloc (.cells (bcells N (.slice azC N.q.length czC)) 28)).alloc (.cells #[.int .i64 xm.1, .int .i64 xm.2.1, .string xm.2.2.1, .int .i64 xm.2.2.2] 30)) := ((Below.refl _ _).alloc (Nat.le_refl _) _).alloc (by simp) _
  have MA_20 := (hAM.block _ (Array.getElem?_eq_some_iff.1 MA_19).1).trans MA_19
  have MB_20 := (hAM.block _ (Array.getElem?_eq_some_iff.1 MB_19).1).trans MB_19
  change Code.wp _ _ _ _ ((w19.alloc (.cells (bcells N (.slice azC N.q.length czC)) 28)).alloc (.cells #[.int .i64 xm.1, .int .i64 xm.2.1, .string xm.2.2.1, .int .i64 xm.2.2.2] 30))
  generalize ((w19.alloc (.cells (bcells N (.slice azC N.q.length czC)) 28)).alloc (.cells #[.int .i64 xm.1, .int .i64 xm.2.1, .string xm.2.2.1, .int .i64 xm.2.2.2] 30)) = w20 at S20 MA_20 MB_20 MC_20 ⊢
  obtain ⟨FMC, hMC⟩ : ∃ G, w19.heap.size + 1 = G := ⟨_, rfl⟩
  rw [hMC] at MC_20 ⊢
  obtain ⟨GC, hGGC⟩ : ∃ G, w19.heap.size = G := ⟨_, rfl⟩
  rw [hGGC] at S20 hMC ⊢
  have lMC : GC < FMC := by omega
  clear hGGC hMC hAL hAM SA S19 MA_19 MB_19
  have cMC0 := cell_of_heap MC_20 0
  have cMC1 := cell_of_heap MC_20 1
  have cMC2 := cell_of_heap MC_20 2
  have cMC3 := cell_of_heap MC_20 3
  have cMA0 := cell_of_heap MA_20 0
  have cMA1 := cell_of_heap MA_20 1
  have cMA2 := cell_of_heap MA_20 2
  have cMA3 := cell_of_heap MA_20 3
  go_wp2_with (first | refine wpList_load_row rfl 28 (.tmp 14) rfl GC rfl 28 (bcells N (.slice azC N.q.length czC)) (0, 0) _ (S20.out.box (GC, 28, (bcells N (.slice azC N.q.length czC))) (by simp)).1 Tryd.underlying28 rfl (by kernel_rfl) ?_ | refine wpList_load_row rfl 28 (.tmp 4) rfl GA rfl 28 (bcells N (.slice azA N.q.length czA)) (0, 0) _ (S20.out.box (GA, 28, (bcells N (.slice azA N.q.length czA))) (by simp)).1 Tryd.underlying28 rfl (by kernel_rfl) ?_)
  refine (CE.out _ _ _ (PZC.out.reads _ _ (show MOwn w20 bC VC XC from (S20.out.row ⟨bC, 30, 4, VC, XC.length, mcells XC⟩ (by simp)).1)) (own_msgs_at (show MOwn w20 bA (.slice azA N.q.length czA) N.q from (S20.out.row ⟨bA, 30, 4, (.slice azA N.q.length czA), N.q.length, mcells N.q⟩ (by simp)).1))).mono ?_
  rintro e w21 ⟨rfl, b21⟩
  have S21 := Lib.hid (S20.out.below b21)
  have MA_21 := (b21.block _ (Array.getElem?_eq_some_iff.1 MA_20).1).trans MA_20
  have MB_21 := (b21.block _ (Array.getElem?_eq_some_iff.1 MB_20).1).trans MB_20
  have MC_21 := (b21.block _ (Array.getElem?_eq_some_iff.1 MC_20).1).trans MC_20
  clear MA_20 MB_20 MC_20
  clear b21 S20
  clear cMC0 cMC1 cMC2 cMC3 cMA0 cMA1 cMA2 cMA3
  have cMC0 := cell_of_heap MC_21 0
  have cMC1 := cell_of_heap MC_21 1
  have cMC2 := cell_of_heap MC_21 2
  have cMC3 := cell_of_heap MC_21 3
  have cMA0 := cell_of_heap MA_21 0
  have cMA1 := cell_of_heap MA_21 1
  have cMA2 := cell_of_heap MA_21 2
  have cMA3 := cell_of_heap MA_21 3
  go_wp2_with fail
  refine (CM.out _).mono ?_
  rintro e w22 ⟨rfl, b22⟩
  have S22 := Lib.hid (S21.out.below b22)
  have MA_22 := (b22.block _ (Array.getElem?_eq_some_iff.1 MA_21).1).trans MA_21
  have MB_22 := (b22.block _ (Array.getElem?_eq_some_iff.1 MB_21).1).trans MB_21
  have MC_22 := (b22.block _ (Array.getElem?_eq_some_iff.1 MC_21).1).trans MC_21
  clear MA_21 MB_21 MC_21
  clear b22 S21
  clear cMC0 cMC1 cMC2 cMC3 cMA0 cMA1 cMA2 cMA3
  go_upto_region 28 with (fail)
  go_wp2_with (first | refine wpList_load_row rfl 28 (.tmp 8) rfl GB rfl 28 (bcells N (.slice azB N.q.length czB)) (0, 0) _ (S22.out.box (GB, 28, (bcells N (.slice azB N.q.length czB))) (by simp)).1 Tryd.underlying28 rfl (by kernel_rfl) ?_)
  refine (CH.out _ _ (PZB.out.marked _ _ (show MOwn w22 bB VB YB from by have h := (S22.out.row ⟨bB, 30, 4, VB, XB.length, mcells YB⟩ (by simp)).1; unfold MOwn; rw [PZB.out.len]; exact h))).mono ?_
  rintro e w23 ⟨rfl, b23⟩
  have S23 := Lib.hid (S22.out.below b23)
  have MA_23 := (b23.block _ (Array.getElem?_eq_some_iff.1 MA_22).1).trans MA_22
  have MB_23 := (b23.block _ (Array.getElem?_eq_some_iff.1 MB_22).1).trans MB_22
  have MC_23 := (b23.block _ (Array.getElem?_eq_some_iff.1 MC_22).1).trans MC_22
  clear MA_22 MB_22 MC_22
  clear b23 S22
  go_wp2
  go_ret
  exact ⟨rfl, S23.out.bw⟩

set_option maxRecDepth 100000 in
theorem contract (H : Type) (enc : TypeId × Value → H) (W : World) (base : Nat) (args : Array Value) (ds gs : List (DataW H)) (before : List MemPlace)
    (hval : ∀ (j : Nat) t v, Tryd.f3.params[j]? = some t → args[j]? = some v → Value.okWide Tryd.prog W .any base t v)
    (hW : DataW.Whole enc Tryd.prog Tryd.f3.params.toList Rows.fnExactTakenFromSpec.vars false W args.toList ds gs before) (hsh : W.ShapedOpen Tryd.prog) :
    Calls Tryd.prog 3 args W fun e W' => ∃ v, e = .returned v ∧ Rows.fnExactTakenFromSpec.post enc Tryd.prog Tryd.f3 false true false false W args v W' := by
  have hW' := hW
  obtain ⟨p, q, hA0, hV, rfl, hfz, hnd⟩ := hW
  have hA : DataW.TrodAll enc Tryd.prog W 0 (fun _ => true) true Tryd.f3.params.toList args.toList ds p := hA0
  rw [Tryd.params3] at hA hval
  obtain ⟨v0, vs0, d0, ds0, p0, q0, hargs, rfl, rfl, h0, r0⟩ := trodAll_cons hA
  obtain ⟨rfl, rfl, rfl⟩ := trodAll_nil r0
  obtain rfl : args = #[v0] := by cases args; simp_all
  obtain ⟨rfl, rfl⟩ := trodVars_none hV
  obtain ⟨cs0, rfl, cz0⟩ := okWide_struct Tryd.underlying24 (hval 0 24 v0 rfl rfl)
  have k0 := h0
  have lt0 : ∀ x ∈ p0, x.block < W.heap.size := by obtain ⟨m, hm⟩ := k0; exact DataW.trod_lt m _ _ _ hm
  have w0 : ∃ (b : BoxM) (v : Value), cs0 = bcells b v ∧ MsgsAt W v b.q ∧ ∀ y ∈ b.q, y.2.2.1.size ≤ maxLen := by
    obtain ⟨fuel, hf⟩ := h0
    obtain ⟨b, v, e, hk, hs⟩ := box_read Tryd.underlying24 (by kernel_rfl) ⟨rfl, rfl⟩ ⟨rfl, rfl⟩ ⟨rfl, rfl⟩ ⟨rfl, rfl⟩ ⟨rfl, rfl⟩ ⟨rfl, rfl⟩ ⟨rfl, rfl⟩ ⟨rfl, rfl⟩ (by kernel_rfl) Tryd.underlying4 (by kernel_rfl) Tryd.underlying22 Tryd.underlying49 (by kernel_rfl) ⟨rfl, rfl⟩ ⟨rfl, rfl⟩ ⟨rfl, rfl⟩ ⟨rfl, rfl⟩ Tryd.underlying2 (by kernel_rfl) Tryd.underlying9 (by kernel_rfl) hf
    exact ⟨b, v, Array.toList_inj.1 e, hk, hs⟩
  obtain ⟨b0, v0, rfl, w0, s0⟩ := w0
  clear hA0
  simp only [List.append_nil] at hW'
  obtain ⟨m, hm⟩ := maxLen_cell hsh
  refine (law W b0 v0 w0 s0 m hm).mono fun e W' ⟨he, hg⟩ => ?_
  subst he
  exact ⟨_, rfl, _, _, _, [], _, [], hW', trodAll_cons_mk (shut_bool Tryd.underlying4 _) trodAll_mk0, trodAll_cons_mk (Below.trod laidOut (by kernel_rfl) (of_decide_eq_true (by kernel_rfl)) k0 hg lt0) (trodAll_mk0), rfl, hg.frame _, fun h => by cases h⟩

theorem reads (os : Os) {H : Type} (enc : TypeId × Value → H) : ∃ places, DataW.whole enc Tryd.prog ((World.laidAll Tryd.prog os Rows.fnExactTakenFromRow.laid).forCall (fun _ _ => 0) ⟨#[], #[(.agg #[.int .i64 0, .int .i64 0, .slice none 0 0, .int .i64 0, .int .i64 0, .int .i64 0, .int .i64 0, .bool false] : Value)], []⟩).memory Tryd.f3.params.toList Rows.fnExactTakenFromSpec.vars false (#[(.agg #[.int .i64 0, .int .i64 0, .slice none 0 0, .int .i64 0, .int .i64 0, .int .i64 0, .int .i64 0, .bool false] : Value)] : Array Value).toList 8 = some ([.agg [.lit (.int .i64 0), .lit (.int .i64 0), .nil, .lit (.int .i64 0), .lit (.int .i64 0), .lit (.int .i64 0), .lit (.int .i64 0), .lit (.bool false)]], [], places) :=
  ⟨[], by kernel_rfl⟩

theorem laid_met (os : Os) : laidMetH Tryd.prog Rows.fnExactTakenFromRow.laid ((World.laidAll Tryd.prog os Rows.fnExactTakenFromRow.laid).forCall (fun _ _ => 0) ⟨#[], #[(.agg #[.int .i64 0, .int .i64 0, .slice none 0 0, .int .i64 0, .int .i64 0, .int .i64 0, .int .i64 0, .bool false] : Value)], []⟩).memory := by
  rw [MakeChecks.laidMetH_plain _ _ _ (by kernel_rfl)]
  exact laidMet_laidAll _ (by kernel_rfl) (by kernel_rfl)

set_option maxRecDepth 100000 in
theorem lifted (os : Os) (started : os.Started) (H : Type) (enc : TypeId × Value → H) (F : Stop.Interp) :
    ReturnsInHanded {} Tryd.checked os 3 .any ((OpenSpec.ofChange Rows.fnExactTakenFromSpec).preRow enc Tryd.prog Tryd.f3 Rows.fnExactTakenFromRow.domain false Rows.fnExactTakenFromRow.laid) (((OpenSpec.ofChange Rows.fnExactTakenFromSpec).at F).post enc Tryd.prog Tryd.f3 false true false false) := by
  obtain ⟨places, hx⟩ := reads os enc
  refine returnsInHanded_of_row (C := Tryd.checked) (s := OpenSpec.ofChange Rows.fnExactTakenFromSpec) own started (by kernel_rfl) Tryd.func3
    (witness_row_at (enc := enc) (C := Tryd.checked) false (World.laidAll Tryd.prog os Rows.fnExactTakenFromRow.laid) #[(.agg #[.int .i64 0, .int .i64 0, .slice none 0 0, .int .i64 0, .int .i64 0, .int .i64 0, .int .i64 0, .bool false] : Value)] (World.laidAll_os _ _ _) (by kernel_rfl) (by kernel_rfl) (by kernel_rfl)
      (OpenSpec.preRow_of_cond 8 hx (by kernel_rfl) (fun k hk => by cases hk) (by kernel_rfl) (laid_met os))) ?_
  intro W base args ds gs before hval hW _ _ _ _ hsh _
  exact contract H enc W base args ds gs before hval hW hsh

theorem said : Rows.FnExactTakenFromSaid :=
  OpenClaim.holds_of_cond 3 Tryd.f3 rfl rfl rfl rfl rfl rfl rfl ⟨rfl, rfl, rfl, rfl, rfl⟩ rfl rfl rfl rfl rfl (by kernel_rfl) Tryd.func3 (by kernel_rfl)
    (of_decide_eq_true (by kernel_rfl)) (by unfold Func.isWrapper; first | (rw [if_pos (by decide +kernel)]; kernel_rfl) | (rw [if_neg (by decide +kernel)]; exact ⟨rfl, rfl⟩))
    (fun os started H enc _ F => by rw [OpenClaim.pre_eq_preRow]; exact lifted os started H enc F)

theorem plain (f : FuncId) (fn : Func) (hf : Tryd.pinned.checked.prog.funcNamed Tryd.f3.name = some f) (hfn : Tryd.pinned.checked.prog.funcs[f]? = some fn) :
    ∀ (j : Nat) t, fn.params[j]? = some t → Tryd.pinned.checked.prog.wantsStandIn t = false := by
  obtain rfl : f = 3 := Option.some.inj ((show Tryd.prog.funcNamed Tryd.f3.name = some 3 by kernel_rfl).symm.trans hf) |>.symm
  obtain rfl : fn = Tryd.f3 := (Option.some.inj (Tryd.func3.symm.trans hfn)).symm
  intro j t ht
  rw [Tryd.params3] at ht
  have hm := Array.mem_of_getElem? ht
  have hall : (Tryd.f3.params.all fun u => !Tryd.prog.wantsStandIn u) = true := by kernel_rfl
  rw [Tryd.params3] at hall
  rw [Array.all_eq_true_iff_forall_mem] at hall
  have := hall t hm
  exact (show Tryd.prog.wantsStandIn t = false by simpa using this)

theorem card : Rows.FnExactTakenFromCardSaid :=
  Claim7.holds_tied_plain_at .later [] _ _ _ _ said (fun _ h => by cases h) (by kernel_rfl) (fun _ h => by cases h) fnExactTakenFrom_row_tie rfl ⟨rfl, rfl⟩ (by kernel_rfl) rfl (fun f fn hf hfn => ⟨by kernel_rfl, plain f fn hf hfn⟩) (by kernel_rfl)
end Go.Proofs.YtnclkdhaabggkaaDoor.lawFnExactTakenFrom
