/- The law FnExactKept holds at every argument: for every input it returns true and leaves the input as it was. -/
import Derived.Test.YtnlgidbocndmfaaDoorZB1
import Derived.Test.YtnlgidbocndmfaaDoorZB3
import Derived.Test.YtnlgidbocndmfaaDoorZSKept
import Derived.Test.YtnlgidbocndmfaaDoorZMsgT
import Derived.Test.YtnlgidbocndmfaaDoorZB2
import Derived.Test.YtnlgidbocndmfaaDoorZMPart
set_option linter.unusedSimpArgs false
set_option linter.unusedVariables false
namespace Go.Proofs.YtnlgidbocndmfaaDoor.lawFnExactKept
open Go.ChangeShapes Go.WideShapes Go.ChangeAt Go.RowKit Go.WideMaps Go.WideElems
open Go.ChangeMaps (open_string shut_string)

set_option maxRecDepth 100000 in
set_option maxHeartbeats 6400000 in
theorem law (w : World) (v : Value) (l : List MsgM) (hv : MsgsAt w v l) (hp : ∀ y ∈ l, y.2.2.1.size ≤ maxLen) (x : MsgM) (hx : x.2.2.1.size ≤ maxLen) (m : Int) (hm : w.cell? ⟨0, 0, none⟩ = some (.int .i64 m)) :
    Calls Tryd.prog 4 #[v, magg x] w fun e w' => e = .returned (.bool true) ∧ Below w.heap.size w w' := by
  have cz := fun wx (h : MsgsAt wx v l) => szMsgs_any v l 1048576 wx (by omega) (by omega) hp h
  have HV := Lib.hid hv
  obtain ⟨a, c, rfl, _, _, _⟩ := hv
  have hzle := szMs_le l 1048576 (by omega)
  have cy := fun wx (h : 0 ≤ szMs l 1048576) => szMsg_any x (szMs l 1048576) wx h hzle hx
  go_enter Tryd.func4, Tryd.ntmps4
  go_wp2_with fail
  have S0 := Lib.hid ((Held.start w).pushBox 30 #[.int .i64 x.1, .int .i64 x.2.1, .string x.2.2.1, .int .i64 x.2.2.2] (by simp))
  generalize w.alloc (.cells #[.int .i64 x.1, .int .i64 x.2.1, .string x.2.2.1, .int .i64 x.2.2.2] 30) = w0 at S0 ⊢
  refine (cz w0 (HV.out.below S0.out.bw)).mono ?_
  clear cz
  rintro e w1 ⟨rfl, b1⟩
  have S1 := Lib.hid (S0.out.below b1)
  clear b1 S0
  by_cases hz : szMs l 1048576 < 0
  · have g1 : decide (szMs l 1048576 < 0) = true := decide_eq_true hz
    go_wp2
    go_ret
    exact ⟨rfl, S1.out.bw⟩
  have g1 : decide (szMs l 1048576 < 0) = false := decide_eq_false hz
  have d0_0 : w1.cell? ⟨w.heap.size, 0, none⟩ = some (.int .i64 x.1) := S1.out.cell (b := (w.heap.size, 30, #[.int .i64 x.1, .int .i64 x.2.1, .string x.2.2.1, .int .i64 x.2.2.2])) (by simp) 0
  have d0_1 : w1.cell? ⟨w.heap.size, 1, none⟩ = some (.int .i64 x.2.1) := S1.out.cell (b := (w.heap.size, 30, #[.int .i64 x.1, .int .i64 x.2.1, .string x.2.2.1, .int .i64 x.2.2.2])) (by simp) 1
  have d0_2 : w1.cell? ⟨w.heap.size, 2, none⟩ = some (.string x.2.2.1) := S1.out.cell (b := (w.heap.size, 30, #[.int .i64 x.1, .int .i64 x.2.1, .string x.2.2.1, .int .i64 x.2.2.2])) (by simp) 2
  have d0_3 : w1.cell? ⟨w.heap.size, 3, none⟩ = some (.int .i64 x.2.2.2) := S1.out.cell (b := (w.heap.size, 30, #[.int .i64 x.1, .int .i64 x.2.1, .string x.2.2.1, .int .i64 x.2.2.2])) (by simp) 3
  go_wp2_with fail
  refine (cy w1 (by omega)).mono ?_
  clear d0_0 d0_1 d0_2 d0_3
  rintro e w2 ⟨rfl, b2⟩
  have S2 := Lib.hid (S1.out.below b2)
  clear b2 S1
  have d0_0 : w2.cell? ⟨w.heap.size, 0, none⟩ = some (.int .i64 x.1) := S2.out.cell (b := (w.heap.size, 30, #[.int .i64 x.1, .int .i64 x.2.1, .string x.2.2.1, .int .i64 x.2.2.2])) (by simp) 0
  have d0_1 : w2.cell? ⟨w.heap.size, 1, none⟩ = some (.int .i64 x.2.1) := S2.out.cell (b := (w.heap.size, 30, #[.int .i64 x.1, .int .i64 x.2.1, .string x.2.2.1, .int .i64 x.2.2.2])) (by simp) 1
  have d0_2 : w2.cell? ⟨w.heap.size, 2, none⟩ = some (.string x.2.2.1) := S2.out.cell (b := (w.heap.size, 30, #[.int .i64 x.1, .int .i64 x.2.1, .string x.2.2.1, .int .i64 x.2.2.2])) (by simp) 2
  have d0_3 : w2.cell? ⟨w.heap.size, 3, none⟩ = some (.int .i64 x.2.2.2) := S2.out.cell (b := (w.heap.size, 30, #[.int .i64 x.1, .int .i64 x.2.1, .string x.2.2.1, .int .i64 x.2.2.2])) (by simp) 3
  clear cy
  by_cases hy : szN x.2.2.1.size (szMs l 1048576) < 0
  · have g2 : decide (szN x.2.2.1.size (szMs l 1048576) < 0) = true := decide_eq_true hy
    go_wp2
    go_ret
    exact ⟨rfl, S2.out.bw⟩
  have g2 : decide (szN x.2.2.1.size (szMs l 1048576) < 0) = false := decide_eq_false hy
  obtain ⟨hlen, hall⟩ := szMs_small (by omega) (show 0 ≤ szMs l 1048576 by omega)
  have hl : l.length ≤ 1048576 := by omega
  have hs : ∀ x ∈ l, x.2.2.1.size ≤ 1048576 := fun x hx => by have := hall x hx; omega
  have hx1 : x.2.2.1.size ≤ 1048576 := by have := szN_small (show 0 ≤ szN x.2.2.1.size (szMs l 1048576) by omega); omega
  have CT := Lib.hid (fun wx (h : MsgsAt wx (.slice a l.length c) l) => toMsgs_any _ l wx (by omega) h)
  have CU := Lib.hid (fun wx => toMsg_any x wx)
  have CS := Lib.hid (fun u wx (h : MsgsAt wx u l) => specKept_any u l x wx hl hs hx1 h)
  have CI := Lib.hid (fun u wx (h : MsgsAt wx u l) h2 => implKept_any u l x m wx hl hs hx1 h h2)
  have hLl := keptM_len l x
  obtain ⟨L, ok, hR⟩ : ∃ L ok, keptM l x = (L, ok) := ⟨_, _, rfl⟩
  simp only [hR] at CS CI hLl
  have CQ := Lib.hid (fun u1 u2 wx (h1 : MsgsAt wx u1 l) (h2 : MsgsAt wx u2 l) => eqMsgs_any u1 u2 l wx (by omega) h1 h2)
  have CE := Lib.hid (fun u1 u2 wx (h1 : MsgsAt wx u1 L) (h2 : MsgsAt wx u2 L) => eqMsgs_any u1 u2 L wx (by omega) h1 h2)
  have CK := Lib.hid (fun u B wx (h : MOwn wx B u l) => markMsgs_any u l 1 B wx (Nat.le_refl _) (by omega) h)
  have HL8 := Lib.hid (show 1 + L.length * 4 ≤ 8000000 by omega)
  have CH := Lib.hid (fun u wx (h : MsgsAt wx u (mmarks 1 L.length)) => heldMsgs_any u 1 L.length wx (Nat.le_refl _) (by omega) h)
  obtain ⟨z, hz2⟩ : ∃ z, szMs l 1048576 = z := ⟨_, rfl⟩
  rw [hz2] at g1 g2
  obtain ⟨z2, hz3⟩ : ∃ z2, szN x.2.2.1.size z = z2 := ⟨_, rfl⟩
  rw [hz3] at g2
  obtain ⟨kx, hkx⟩ : ∃ kx, ((1 + l.length * 4 : Nat) : Int) = kx := ⟨_, rfl⟩
  have g3 : decide (kx < 0) = false := decide_eq_false (by omega)
  simp only [hkx] at CK
  obtain ⟨ky, hky⟩ : ∃ ky, ((1 + L.length * 4 : Nat) : Int) = ky := ⟨_, rfl⟩
  have g4 : decide (ky < 0) = false := decide_eq_false (by omega)
  have g5 : (ky != ky) = false := by simp
  have g6 : (ok != ok) = false := by simp
  simp only [hky] at CH
  have HKY := Lib.hid hky
  have HM := Lib.hid hm
  have hlt : 0 < w.heap.size := World.block_lt_of_cell? _ _ hm
  rw [hz2, hz3]
  clear hm hz hy hz3 hz2 hzle hlen hall hl hs hp hx hx1 hLl hkx hky hR
  go_wp2_with fail
  clear d0_0 d0_1 d0_2 d0_3
  have SD := S2.out.below (show Below w2.heap.size w2 w2.drew from (Below.refl _ _).drew)
  refine wp_region_held_drew (S := fun wx => wx.cell? ⟨w.heap.size, 0, none⟩ = some (.int .i64 x.1) ∧ wx.cell? ⟨w.heap.size, 1, none⟩ = some (.int .i64 x.2.1) ∧ wx.cell? ⟨w.heap.size, 2, none⟩ = some (.string x.2.2.1) ∧ wx.cell? ⟨w.heap.size, 3, none⟩ = some (.int .i64 x.2.2.2)) (by kernel_rfl) ?_ (fun hHeld => ?_)
  · exact ⟨SD.cell (b := (w.heap.size, 30, #[.int .i64 x.1, .int .i64 x.2.1, .string x.2.2.1, .int .i64 x.2.2.2])) (by simp) 0, SD.cell (b := (w.heap.size, 30, #[.int .i64 x.1, .int .i64 x.2.1, .string x.2.2.1, .int .i64 x.2.2.2])) (by simp) 1, SD.cell (b := (w.heap.size, 30, #[.int .i64 x.1, .int .i64 x.2.1, .string x.2.2.1, .int .i64 x.2.2.2])) (by simp) 2, SD.cell (b := (w.heap.size, 30, #[.int .i64 x.1, .int .i64 x.2.1, .string x.2.2.1, .int .i64 x.2.2.2])) (by simp) 3⟩
  change wpAnyH _ _ _ _ _ 10 #[false, false, false, false, false, false, false, false, false, false] _ _
  have S3 := Lib.hid SD
  clear SD
  generalize w2.drew = w3 at S3 hHeld ⊢
  refine wpAnyH_take (i := 0) (v := ?_) rfl (by kernel_rfl) (by kernel_rfl) (by kernel_rfl) (fun _ _ _ h => h) (Or.inl ⟨by rfl, ?_⟩) (by assumption) ?_
  rotate_left
  · intro w hSw; (try dsimp only at hSw); go_simp; try with_reducible rfl
  try simp only [Act.put, List.getElem_toArray, List.getElem_cons_succ, List.getElem_cons_zero, List.setIfInBounds_toArray, List.set_cons_zero, List.set_cons_succ]
  refine wpAnyH_take (i := 2) (v := ?_) rfl (by kernel_rfl) (by kernel_rfl) (by kernel_rfl) (fun _ _ _ h => h) (Or.inl ⟨by rfl, ?_⟩) (by assumption) ?_
  rotate_left
  · intro w hSw; (try dsimp only at hSw); go_simp; try with_reducible rfl
  try simp only [Act.put, List.getElem_toArray, List.getElem_cons_succ, List.getElem_cons_zero, List.setIfInBounds_toArray, List.set_cons_zero, List.set_cons_succ]
  refine wpAnyH_ready (rs := [1]) (by kernel_rfl) (by simp) (AllReadyH.cons rfl (fun K hK => ?_) AllReadyH.nil)
  rw [if_pos (by rfl)]
  go_simp; go_at_call 8; refine (CT.out _ (HV.out.below S3.out.bw)).mono ?_; rintro e w4 ⟨ur, rfl, kr, b4⟩; have KR := Lib.hid (own_msgs_at kr); obtain ⟨ar, cr, hur⟩ := own_slice kr; subst hur; clear kr; have S4 := Lib.hid (S3.out.below b4); go_wp2_with fail
  refine hK.out _ _ ?_ (fun hHeld => ?_)
  · exact ⟨S4.out.cell (b := (w.heap.size, 30, #[.int .i64 x.1, .int .i64 x.2.1, .string x.2.2.1, .int .i64 x.2.2.2])) (by simp) 0, S4.out.cell (b := (w.heap.size, 30, #[.int .i64 x.1, .int .i64 x.2.1, .string x.2.2.1, .int .i64 x.2.2.2])) (by simp) 1, S4.out.cell (b := (w.heap.size, 30, #[.int .i64 x.1, .int .i64 x.2.1, .string x.2.2.1, .int .i64 x.2.2.2])) (by simp) 2, S4.out.cell (b := (w.heap.size, 30, #[.int .i64 x.1, .int .i64 x.2.1, .string x.2.2.1, .int .i64 x.2.2.2])) (by simp) 3⟩
  clear hK K
  try simp only [Act.put, List.getElem_toArray, List.getElem_cons_succ, List.getElem_cons_zero, List.setIfInBounds_toArray, List.set_cons_zero, List.set_cons_succ]
  clear b4 S3
  refine wpAnyH_ready (rs := [3]) (by kernel_rfl) (by simp) (AllReadyH.cons rfl (fun K hK => ?_) AllReadyH.nil)
  rw [if_pos (by rfl)]
  go_simp; go_at_call 13; refine (CU.out _).mono ?_; rintro e w5 ⟨rfl, b5⟩; replace KR := Lib.hid (KR.out.below b5); have S5 := Lib.hid (S4.out.below b5); go_wp2_with fail
  refine hK.out _ _ ?_ (fun hHeld => ?_)
  · exact ⟨S5.out.cell (b := (w.heap.size, 30, #[.int .i64 x.1, .int .i64 x.2.1, .string x.2.2.1, .int .i64 x.2.2.2])) (by simp) 0, S5.out.cell (b := (w.heap.size, 30, #[.int .i64 x.1, .int .i64 x.2.1, .string x.2.2.1, .int .i64 x.2.2.2])) (by simp) 1, S5.out.cell (b := (w.heap.size, 30, #[.int .i64 x.1, .int .i64 x.2.1, .string x.2.2.1, .int .i64 x.2.2.2])) (by simp) 2, S5.out.cell (b := (w.heap.size, 30, #[.int .i64 x.1, .int .i64 x.2.1, .string x.2.2.1, .int .i64 x.2.2.2])) (by simp) 3⟩
  clear hK K
  try simp only [Act.put, List.getElem_toArray, List.getElem_cons_succ, List.getElem_cons_zero, List.setIfInBounds_toArray, List.set_cons_zero, List.set_cons_succ]
  clear b5 S4
  refine wpAnyH_ready (rs := [4]) (by kernel_rfl) (by simp) (AllReadyH.cons rfl (fun K hK => ?_) AllReadyH.nil)
  rw [if_pos (by rfl)]
  go_simp; go_at_call 12; refine (CS.out _ w5 KR.out).mono ?_; rintro e w6 ⟨uz, rfl, kz, b6⟩; obtain ⟨az, cz, huz⟩ := own_slice kz; subst huz; have S6 := Lib.hid (S5.out.pushRow b6 kz (by simp)); clear kz; go_wp2_with fail
  refine hK.out _ _ ?_ (fun hHeld => ?_)
  · exact ⟨S6.out.cell (b := (w.heap.size, 30, #[.int .i64 x.1, .int .i64 x.2.1, .string x.2.2.1, .int .i64 x.2.2.2])) (by simp) 0, S6.out.cell (b := (w.heap.size, 30, #[.int .i64 x.1, .int .i64 x.2.1, .string x.2.2.1, .int .i64 x.2.2.2])) (by simp) 1, S6.out.cell (b := (w.heap.size, 30, #[.int .i64 x.1, .int .i64 x.2.1, .string x.2.2.1, .int .i64 x.2.2.2])) (by simp) 2, S6.out.cell (b := (w.heap.size, 30, #[.int .i64 x.1, .int .i64 x.2.1, .string x.2.2.1, .int .i64 x.2.2.2])) (by simp) 3⟩
  clear hK K
  try simp only [Act.put, List.getElem_toArray, List.getElem_cons_succ, List.getElem_cons_zero, List.setIfInBounds_toArray, List.set_cons_zero, List.set_cons_succ]
  clear b6 S5 KR
  refine wpAnyH_take (i := 5) (v := ?_) rfl (by kernel_rfl) (by kernel_rfl) (by kernel_rfl) (fun _ _ _ h => h) (Or.inl ⟨by rfl, ?_⟩) (by assumption) ?_
  rotate_left
  · intro w hSw; (try dsimp only at hSw); go_simp; try with_reducible rfl
  try simp only [Act.put, List.getElem_toArray, List.getElem_cons_succ, List.getElem_cons_zero, List.setIfInBounds_toArray, List.set_cons_zero, List.set_cons_succ]
  refine wpAnyH_take (i := 6) (v := ?_) rfl (by kernel_rfl) (by kernel_rfl) (by kernel_rfl) (fun _ _ _ h => h) (Or.inl ⟨by rfl, ?_⟩) (by assumption) ?_
  rotate_left
  · intro w hSw; (try dsimp only at hSw); go_simp; try with_reducible rfl
  try simp only [Act.put, List.getElem_toArray, List.getElem_cons_succ, List.getElem_cons_zero, List.setIfInBounds_toArray, List.set_cons_zero, List.set_cons_succ]
  refine wpAnyH_take (i := 7) (v := ?_) rfl (by kernel_rfl) (by kernel_rfl) (by kernel_rfl) (fun _ _ _ h => h) (Or.inl ⟨by rfl, ?_⟩) (by assumption) ?_
  rotate_left
  · intro w hSw; (try dsimp only at hSw); go_simp; try with_reducible rfl
  try simp only [Act.put, List.getElem_toArray, List.getElem_cons_succ, List.getElem_cons_zero, List.setIfInBounds_toArray, List.set_cons_zero, List.set_cons_succ]
  refine wpAnyH_take (i := 8) (v := ?_) rfl (by kernel_rfl) (by kernel_rfl) (by kernel_rfl) (fun _ _ _ h => h) (Or.inl ⟨by rfl, ?_⟩) (by assumption) ?_
  rotate_left
  · intro w hSw; (try dsimp only at hSw); go_simp; try with_reducible rfl
  try simp only [Act.put, List.getElem_toArray, List.getElem_cons_succ, List.getElem_cons_zero, List.setIfInBounds_toArray, List.set_cons_zero, List.set_cons_succ]
  refine wpAnyH_take (i := 9) (v := ?_) rfl (by kernel_rfl) (by kernel_rfl) (by kernel_rfl) (fun _ _ _ h => h) (Or.inl ⟨by rfl, ?_⟩) (by assumption) ?_
  rotate_left
  · intro w hSw; (try dsimp only at hSw); go_simp; try with_reducible rfl
  try simp only [Act.put, List.getElem_toArray, List.getElem_cons_succ, List.getElem_cons_zero, List.setIfInBounds_toArray, List.set_cons_zero, List.set_cons_succ]
  refine wpAnyH_done (by kernel_rfl) ?_ _
  clear hHeld
  have d0_0 : w6.cell? ⟨w.heap.size, 0, none⟩ = some (.int .i64 x.1) := S6.out.cell (b := (w.heap.size, 30, #[.int .i64 x.1, .int .i64 x.2.1, .string x.2.2.1, .int .i64 x.2.2.2])) (by simp) 0
  have d0_1 : w6.cell? ⟨w.heap.size, 1, none⟩ = some (.int .i64 x.2.1) := S6.out.cell (b := (w.heap.size, 30, #[.int .i64 x.1, .int .i64 x.2.1, .string x.2.2.1, .int .i64 x.2.2.2])) (by simp) 1
  have d0_2 : w6.cell? ⟨w.heap.size, 2, none⟩ = some (.string x.2.2.1) := S6.out.cell (b := (w.heap.size, 30, #[.int .i64 x.1, .int .i64 x.2.1, .string x.2.2.1, .int .i64 x.2.2.2])) (by simp) 2
  have d0_3 : w6.cell? ⟨w.heap.size, 3, none⟩ = some (.int .i64 x.2.2.2) := S6.out.cell (b := (w.heap.size, 30, #[.int .i64 x.1, .int .i64 x.2.1, .string x.2.2.1, .int .i64 x.2.2.2])) (by simp) 3
  go_wp2_with fail
  refine (CT.out _ (HV.out.below S6.out.bw)).mono ?_
  clear d0_0 d0_1 d0_2 d0_3
  rintro e w7 ⟨u7, rfl, k7, b7⟩
  obtain ⟨a7, c7, hu7⟩ := own_slice k7; subst hu7
  have S7 := Lib.hid (S6.out.pushRow b7 k7 (by simp))
  clear b7 S6
  have d0_0 : w7.cell? ⟨w.heap.size, 0, none⟩ = some (.int .i64 x.1) := S7.out.cell (b := (w.heap.size, 30, #[.int .i64 x.1, .int .i64 x.2.1, .string x.2.2.1, .int .i64 x.2.2.2])) (by simp) 0
  have d0_1 : w7.cell? ⟨w.heap.size, 1, none⟩ = some (.int .i64 x.2.1) := S7.out.cell (b := (w.heap.size, 30, #[.int .i64 x.1, .int .i64 x.2.1, .string x.2.2.1, .int .i64 x.2.2.2])) (by simp) 1
  have d0_2 : w7.cell? ⟨w.heap.size, 2, none⟩ = some (.string x.2.2.1) := S7.out.cell (b := (w.heap.size, 30, #[.int .i64 x.1, .int .i64 x.2.1, .string x.2.2.1, .int .i64 x.2.2.2])) (by simp) 2
  have d0_3 : w7.cell? ⟨w.heap.size, 3, none⟩ = some (.int .i64 x.2.2.2) := S7.out.cell (b := (w.heap.size, 30, #[.int .i64 x.1, .int .i64 x.2.1, .string x.2.2.1, .int .i64 x.2.2.2])) (by simp) 3
  go_wp2_with fail
  refine (CU.out _).mono ?_
  clear d0_0 d0_1 d0_2 d0_3
  rintro e w8 ⟨rfl, b8⟩
  have S8 := Lib.hid (S7.out.below b8)
  clear b8 S7
  have d0_0 : w8.cell? ⟨w.heap.size, 0, none⟩ = some (.int .i64 x.1) := S8.out.cell (b := (w.heap.size, 30, #[.int .i64 x.1, .int .i64 x.2.1, .string x.2.2.1, .int .i64 x.2.2.2])) (by simp) 0
  have d0_1 : w8.cell? ⟨w.heap.size, 1, none⟩ = some (.int .i64 x.2.1) := S8.out.cell (b := (w.heap.size, 30, #[.int .i64 x.1, .int .i64 x.2.1, .string x.2.2.1, .int .i64 x.2.2.2])) (by simp) 1
  have d0_2 : w8.cell? ⟨w.heap.size, 2, none⟩ = some (.string x.2.2.1) := S8.out.cell (b := (w.heap.size, 30, #[.int .i64 x.1, .int .i64 x.2.1, .string x.2.2.1, .int .i64 x.2.2.2])) (by simp) 2
  have d0_3 : w8.cell? ⟨w.heap.size, 3, none⟩ = some (.int .i64 x.2.2.2) := S8.out.cell (b := (w.heap.size, 30, #[.int .i64 x.1, .int .i64 x.2.1, .string x.2.2.1, .int .i64 x.2.2.2])) (by simp) 3
  go_wp2_with fail
  refine (CI.out _ _ (own_msgs_at (show MOwn w8 w6.heap.size (.slice a7 l.length c7) l from (S8.out.row ⟨w6.heap.size, 34, 4, (.slice a7 l.length c7), l.length, mcells l⟩ (by simp)).1)) ((S8.out.bw.cell hlt).trans HM.out)).mono ?_
  clear d0_0 d0_1 d0_2 d0_3
  rintro e w9 ⟨Vz, uz, prez, postz, rfl, k9, ptz, b9⟩
  obtain ⟨Xz, Yz, hXz, hYz, atz, mkz, myz⟩ := part_kit (post := postz) ptz HL8.out; obtain ⟨ag, cg, huz⟩ := ptz.slice; subst huz; simp only [HKY.out] at mkz; rw [hXz] at k9; have ATz := Lib.hid atz; have MKz := Lib.hid mkz; have MYz := Lib.hid myz; have HYz := Lib.hid hYz; clear atz mkz myz hYz hXz ptz
  have S9 := Lib.hid (S8.out.pushRow b9 k9 (by simp))
  clear b9 S8
  have d0_0 : w9.cell? ⟨w.heap.size, 0, none⟩ = some (.int .i64 x.1) := S9.out.cell (b := (w.heap.size, 30, #[.int .i64 x.1, .int .i64 x.2.1, .string x.2.2.1, .int .i64 x.2.2.2])) (by simp) 0
  have d0_1 : w9.cell? ⟨w.heap.size, 1, none⟩ = some (.int .i64 x.2.1) := S9.out.cell (b := (w.heap.size, 30, #[.int .i64 x.1, .int .i64 x.2.1, .string x.2.2.1, .int .i64 x.2.2.2])) (by simp) 1
  have d0_2 : w9.cell? ⟨w.heap.size, 2, none⟩ = some (.string x.2.2.1) := S9.out.cell (b := (w.heap.size, 30, #[.int .i64 x.1, .int .i64 x.2.1, .string x.2.2.1, .int .i64 x.2.2.2])) (by simp) 2
  have d0_3 : w9.cell? ⟨w.heap.size, 3, none⟩ = some (.int .i64 x.2.2.2) := S9.out.cell (b := (w.heap.size, 30, #[.int .i64 x.1, .int .i64 x.2.1, .string x.2.2.1, .int .i64 x.2.2.2])) (by simp) 3
  go_wp2_with fail
  refine (CE.out _ _ _ (ATz.out _ _ (show MOwn w9 w8.heap.size Vz Xz from (S9.out.row ⟨w8.heap.size, 34, 4, Vz, Xz.length, mcells Xz⟩ (by simp)).1)) (own_msgs_at (show MOwn w9 w5.heap.size (.slice az L.length cz) L from (S9.out.row ⟨w5.heap.size, 34, 4, (.slice az L.length cz), L.length, mcells L⟩ (by simp)).1))).mono ?_
  clear d0_0 d0_1 d0_2 d0_3
  rintro e w10 ⟨rfl, b10⟩
  have S10 := Lib.hid (S9.out.below b10)
  clear b10 S9
  have d0_0 : w10.cell? ⟨w.heap.size, 0, none⟩ = some (.int .i64 x.1) := S10.out.cell (b := (w.heap.size, 30, #[.int .i64 x.1, .int .i64 x.2.1, .string x.2.2.1, .int .i64 x.2.2.2])) (by simp) 0
  have d0_1 : w10.cell? ⟨w.heap.size, 1, none⟩ = some (.int .i64 x.2.1) := S10.out.cell (b := (w.heap.size, 30, #[.int .i64 x.1, .int .i64 x.2.1, .string x.2.2.1, .int .i64 x.2.2.2])) (by simp) 1
  have d0_2 : w10.cell? ⟨w.heap.size, 2, none⟩ = some (.string x.2.2.1) := S10.out.cell (b := (w.heap.size, 30, #[.int .i64 x.1, .int .i64 x.2.1, .string x.2.2.1, .int .i64 x.2.2.2])) (by simp) 2
  have d0_3 : w10.cell? ⟨w.heap.size, 3, none⟩ = some (.int .i64 x.2.2.2) := S10.out.cell (b := (w.heap.size, 30, #[.int .i64 x.1, .int .i64 x.2.1, .string x.2.2.1, .int .i64 x.2.2.2])) (by simp) 3
  go_wp2_with fail
  refine (CT.out _ (HV.out.below S10.out.bw)).mono ?_
  clear d0_0 d0_1 d0_2 d0_3
  rintro e w11 ⟨u11, rfl, k11, b11⟩
  have K11 := Lib.hid (own_msgs_at k11); obtain ⟨a11, c11, hu11⟩ := own_slice k11; subst hu11; clear k11
  have S11 := Lib.hid (S10.out.below b11)
  clear b11 S10
  have d0_0 : w11.cell? ⟨w.heap.size, 0, none⟩ = some (.int .i64 x.1) := S11.out.cell (b := (w.heap.size, 30, #[.int .i64 x.1, .int .i64 x.2.1, .string x.2.2.1, .int .i64 x.2.2.2])) (by simp) 0
  have d0_1 : w11.cell? ⟨w.heap.size, 1, none⟩ = some (.int .i64 x.2.1) := S11.out.cell (b := (w.heap.size, 30, #[.int .i64 x.1, .int .i64 x.2.1, .string x.2.2.1, .int .i64 x.2.2.2])) (by simp) 1
  have d0_2 : w11.cell? ⟨w.heap.size, 2, none⟩ = some (.string x.2.2.1) := S11.out.cell (b := (w.heap.size, 30, #[.int .i64 x.1, .int .i64 x.2.1, .string x.2.2.1, .int .i64 x.2.2.2])) (by simp) 2
  have d0_3 : w11.cell? ⟨w.heap.size, 3, none⟩ = some (.int .i64 x.2.2.2) := S11.out.cell (b := (w.heap.size, 30, #[.int .i64 x.1, .int .i64 x.2.1, .string x.2.2.1, .int .i64 x.2.2.2])) (by simp) 3
  go_wp2_with fail
  refine (CQ.out _ _ _ (own_msgs_at (show MOwn w11 w6.heap.size (.slice a7 l.length c7) l from (S11.out.row ⟨w6.heap.size, 34, 4, (.slice a7 l.length c7), l.length, mcells l⟩ (by simp)).1)) K11.out).mono ?_
  clear d0_0 d0_1 d0_2 d0_3
  rintro e w12 ⟨rfl, b12⟩
  have S12 := Lib.hid (S11.out.below b12)
  clear b12 S11
  have d0_0 : w12.cell? ⟨w.heap.size, 0, none⟩ = some (.int .i64 x.1) := S12.out.cell (b := (w.heap.size, 30, #[.int .i64 x.1, .int .i64 x.2.1, .string x.2.2.1, .int .i64 x.2.2.2])) (by simp) 0
  have d0_1 : w12.cell? ⟨w.heap.size, 1, none⟩ = some (.int .i64 x.2.1) := S12.out.cell (b := (w.heap.size, 30, #[.int .i64 x.1, .int .i64 x.2.1, .string x.2.2.1, .int .i64 x.2.2.2])) (by simp) 1
  have d0_2 : w12.cell? ⟨w.heap.size, 2, none⟩ = some (.string x.2.2.1) := S12.out.cell (b := (w.heap.size, 30, #[.int .i64 x.1, .int .i64 x.2.1, .string x.2.2.1, .int .i64 x.2.2.2])) (by simp) 2
  have d0_3 : w12.cell? ⟨w.heap.size, 3, none⟩ = some (.int .i64 x.2.2.2) := S12.out.cell (b := (w.heap.size, 30, #[.int .i64 x.1, .int .i64 x.2.1, .string x.2.2.1, .int .i64 x.2.2.2])) (by simp) 3
  go_wp2_with fail
  refine (CK.out _ _ _ (show MOwn w12 w6.heap.size (.slice a7 l.length c7) l from (S12.out.row ⟨w6.heap.size, 34, 4, (.slice a7 l.length c7), l.length, mcells l⟩ (by simp)).1)).mono ?_
  clear d0_0 d0_1 d0_2 d0_3
  rintro e w13 ⟨rfl, k13, g13⟩
  have b13 := trivial
  have S13 := Lib.hid (S12.out.mark 1 (by simp) rfl g13 (mcells (mmarks 1 l.length)) (by have h := k13; unfold MOwn at h; rw [mmarks_length] at h; exact h))
  simp only [List.set_cons_succ, List.set_cons_zero, List.getElem_cons_succ, List.getElem_cons_zero] at S13
  clear b13 S12
  have d0_0 : w13.cell? ⟨w.heap.size, 0, none⟩ = some (.int .i64 x.1) := S13.out.cell (b := (w.heap.size, 30, #[.int .i64 x.1, .int .i64 x.2.1, .string x.2.2.1, .int .i64 x.2.2.2])) (by simp) 0
  have d0_1 : w13.cell? ⟨w.heap.size, 1, none⟩ = some (.int .i64 x.2.1) := S13.out.cell (b := (w.heap.size, 30, #[.int .i64 x.1, .int .i64 x.2.1, .string x.2.2.1, .int .i64 x.2.2.2])) (by simp) 1
  have d0_2 : w13.cell? ⟨w.heap.size, 2, none⟩ = some (.string x.2.2.1) := S13.out.cell (b := (w.heap.size, 30, #[.int .i64 x.1, .int .i64 x.2.1, .string x.2.2.1, .int .i64 x.2.2.2])) (by simp) 2
  have d0_3 : w13.cell? ⟨w.heap.size, 3, none⟩ = some (.int .i64 x.2.2.2) := S13.out.cell (b := (w.heap.size, 30, #[.int .i64 x.1, .int .i64 x.2.1, .string x.2.2.1, .int .i64 x.2.2.2])) (by simp) 3
  go_wp2_with fail
  refine (CE.out _ _ _ (ATz.out _ _ (show MOwn w13 w8.heap.size Vz Xz from (S13.out.row ⟨w8.heap.size, 34, 4, Vz, Xz.length, mcells Xz⟩ (by simp)).1)) (own_msgs_at (show MOwn w13 w5.heap.size (.slice az L.length cz) L from (S13.out.row ⟨w5.heap.size, 34, 4, (.slice az L.length cz), L.length, mcells L⟩ (by simp)).1))).mono ?_
  clear d0_0 d0_1 d0_2 d0_3
  rintro e w14 ⟨rfl, b14⟩
  have S14 := Lib.hid (S13.out.below b14)
  clear b14 S13
  have d0_0 : w14.cell? ⟨w.heap.size, 0, none⟩ = some (.int .i64 x.1) := S14.out.cell (b := (w.heap.size, 30, #[.int .i64 x.1, .int .i64 x.2.1, .string x.2.2.1, .int .i64 x.2.2.2])) (by simp) 0
  have d0_1 : w14.cell? ⟨w.heap.size, 1, none⟩ = some (.int .i64 x.2.1) := S14.out.cell (b := (w.heap.size, 30, #[.int .i64 x.1, .int .i64 x.2.1, .string x.2.2.1, .int .i64 x.2.2.2])) (by simp) 1
  have d0_2 : w14.cell? ⟨w.heap.size, 2, none⟩ = some (.string x.2.2.1) := S14.out.cell (b := (w.heap.size, 30, #[.int .i64 x.1, .int .i64 x.2.1, .string x.2.2.1, .int .i64 x.2.2.2])) (by simp) 2
  have d0_3 : w14.cell? ⟨w.heap.size, 3, none⟩ = some (.int .i64 x.2.2.2) := S14.out.cell (b := (w.heap.size, 30, #[.int .i64 x.1, .int .i64 x.2.1, .string x.2.2.1, .int .i64 x.2.2.2])) (by simp) 3
  go_wp2_with fail
  refine (MKz.out _ _ (show MOwn w14 w8.heap.size Vz Xz from (S14.out.row ⟨w8.heap.size, 34, 4, Vz, Xz.length, mcells Xz⟩ (by simp)).1)).mono ?_
  clear d0_0 d0_1 d0_2 d0_3
  rintro e w15 ⟨rfl, k15, g15⟩
  have b15 := trivial
  have S15 := Lib.hid (S14.out.mark 0 (by simp) rfl g15 (mcells Yz) (by have h := k15; unfold MOwn at h; rw [HYz.out] at h; exact h))
  simp only [List.set_cons_succ, List.set_cons_zero, List.getElem_cons_succ, List.getElem_cons_zero] at S15
  clear b15 S14
  have d0_0 : w15.cell? ⟨w.heap.size, 0, none⟩ = some (.int .i64 x.1) := S15.out.cell (b := (w.heap.size, 30, #[.int .i64 x.1, .int .i64 x.2.1, .string x.2.2.1, .int .i64 x.2.2.2])) (by simp) 0
  have d0_1 : w15.cell? ⟨w.heap.size, 1, none⟩ = some (.int .i64 x.2.1) := S15.out.cell (b := (w.heap.size, 30, #[.int .i64 x.1, .int .i64 x.2.1, .string x.2.2.1, .int .i64 x.2.2.2])) (by simp) 1
  have d0_2 : w15.cell? ⟨w.heap.size, 2, none⟩ = some (.string x.2.2.1) := S15.out.cell (b := (w.heap.size, 30, #[.int .i64 x.1, .int .i64 x.2.1, .string x.2.2.1, .int .i64 x.2.2.2])) (by simp) 2
  have d0_3 : w15.cell? ⟨w.heap.size, 3, none⟩ = some (.int .i64 x.2.2.2) := S15.out.cell (b := (w.heap.size, 30, #[.int .i64 x.1, .int .i64 x.2.1, .string x.2.2.1, .int .i64 x.2.2.2])) (by simp) 3
  go_wp2_with fail
  refine (CH.out _ _ (MYz.out _ _ (show MOwn w15 w8.heap.size Vz Yz from by have h := (S15.out.row ⟨w8.heap.size, 34, 4, Vz, Xz.length, mcells Yz⟩ (by simp)).1; unfold MOwn; rw [HYz.out]; exact h))).mono ?_
  clear d0_0 d0_1 d0_2 d0_3
  rintro e w16 ⟨rfl, b16⟩
  have S16 := Lib.hid (S15.out.below b16)
  clear b16 S15
  have d0_0 : w16.cell? ⟨w.heap.size, 0, none⟩ = some (.int .i64 x.1) := S16.out.cell (b := (w.heap.size, 30, #[.int .i64 x.1, .int .i64 x.2.1, .string x.2.2.1, .int .i64 x.2.2.2])) (by simp) 0
  have d0_1 : w16.cell? ⟨w.heap.size, 1, none⟩ = some (.int .i64 x.2.1) := S16.out.cell (b := (w.heap.size, 30, #[.int .i64 x.1, .int .i64 x.2.1, .string x.2.2.1, .int .i64 x.2.2.2])) (by simp) 1
  have d0_2 : w16.cell? ⟨w.heap.size, 2, none⟩ = some (.string x.2.2.1) := S16.out.cell (b := (w.heap.size, 30, #[.int .i64 x.1, .int .i64 x.2.1, .string x.2.2.1, .int .i64 x.2.2.2])) (by simp) 2
  have d0_3 : w16.cell? ⟨w.heap.size, 3, none⟩ = some (.int .i64 x.2.2.2) := S16.out.cell (b := (w.heap.size, 30, #[.int .i64 x.1, .int .i64 x.2.1, .string x.2.2.1, .int .i64 x.2.2.2])) (by simp) 3
  go_wp2_with fail
  clear d0_0 d0_1 d0_2 d0_3
  have SD := S16.out.below (show Below w16.heap.size w16 w16.drew from (Below.refl _ _).drew)
  refine wp_region_held_drew (S := fun wx => wx.cell? ⟨w.heap.size, 0, none⟩ = some (.int .i64 x.1) ∧ wx.cell? ⟨w.heap.size, 1, none⟩ = some (.int .i64 x.2.1) ∧ wx.cell? ⟨w.heap.size, 2, none⟩ = some (.string x.2.2.1) ∧ wx.cell? ⟨w.heap.size, 3, none⟩ = some (.int .i64 x.2.2.2)) (by kernel_rfl) ?_ (fun hHeld => ?_)
  · exact ⟨SD.cell (b := (w.heap.size, 30, #[.int .i64 x.1, .int .i64 x.2.1, .string x.2.2.1, .int .i64 x.2.2.2])) (by simp) 0, SD.cell (b := (w.heap.size, 30, #[.int .i64 x.1, .int .i64 x.2.1, .string x.2.2.1, .int .i64 x.2.2.2])) (by simp) 1, SD.cell (b := (w.heap.size, 30, #[.int .i64 x.1, .int .i64 x.2.1, .string x.2.2.1, .int .i64 x.2.2.2])) (by simp) 2, SD.cell (b := (w.heap.size, 30, #[.int .i64 x.1, .int .i64 x.2.1, .string x.2.2.1, .int .i64 x.2.2.2])) (by simp) 3⟩
  change wpAnyH _ _ _ _ _ 10 #[false, false, false, false, false, false, false, false, false, false] _ _
  have S17 := Lib.hid SD
  clear SD
  generalize w16.drew = w17 at S17 hHeld ⊢
  refine wpAnyH_take (i := 0) (v := ?_) rfl (by kernel_rfl) (by kernel_rfl) (by kernel_rfl) (fun _ _ _ h => h) (Or.inl ⟨by rfl, ?_⟩) (by assumption) ?_
  rotate_left
  · intro w hSw; (try dsimp only at hSw); go_simp; try with_reducible rfl
  try simp only [Act.put, List.getElem_toArray, List.getElem_cons_succ, List.getElem_cons_zero, List.setIfInBounds_toArray, List.set_cons_zero, List.set_cons_succ]
  refine wpAnyH_take (i := 2) (v := ?_) rfl (by kernel_rfl) (by kernel_rfl) (by kernel_rfl) (fun _ _ _ h => h) (Or.inl ⟨by rfl, ?_⟩) (by assumption) ?_
  rotate_left
  · intro w hSw; (try dsimp only at hSw); go_simp; try with_reducible rfl
  try simp only [Act.put, List.getElem_toArray, List.getElem_cons_succ, List.getElem_cons_zero, List.setIfInBounds_toArray, List.set_cons_zero, List.set_cons_succ]
  refine wpAnyH_ready (rs := [1]) (by kernel_rfl) (by simp) (AllReadyH.cons rfl (fun K hK => ?_) AllReadyH.nil)
  rw [if_pos (by rfl)]
  go_simp; go_at_call 8; refine (CT.out _ (HV.out.below S17.out.bw)).mono ?_; rintro e w18 ⟨ur, rfl, kr, b18⟩; have KR := Lib.hid (own_msgs_at kr); obtain ⟨ar, cr, hur⟩ := own_slice kr; subst hur; clear kr; have S18 := Lib.hid (S17.out.below b18); go_wp2_with fail
  refine hK.out _ _ ?_ (fun hHeld => ?_)
  · exact ⟨S18.out.cell (b := (w.heap.size, 30, #[.int .i64 x.1, .int .i64 x.2.1, .string x.2.2.1, .int .i64 x.2.2.2])) (by simp) 0, S18.out.cell (b := (w.heap.size, 30, #[.int .i64 x.1, .int .i64 x.2.1, .string x.2.2.1, .int .i64 x.2.2.2])) (by simp) 1, S18.out.cell (b := (w.heap.size, 30, #[.int .i64 x.1, .int .i64 x.2.1, .string x.2.2.1, .int .i64 x.2.2.2])) (by simp) 2, S18.out.cell (b := (w.heap.size, 30, #[.int .i64 x.1, .int .i64 x.2.1, .string x.2.2.1, .int .i64 x.2.2.2])) (by simp) 3⟩
  clear hK K
  try simp only [Act.put, List.getElem_toArray, List.getElem_cons_succ, List.getElem_cons_zero, List.setIfInBounds_toArray, List.set_cons_zero, List.set_cons_succ]
  clear b18 S17
  refine wpAnyH_ready (rs := [3]) (by kernel_rfl) (by simp) (AllReadyH.cons rfl (fun K hK => ?_) AllReadyH.nil)
  rw [if_pos (by rfl)]
  go_simp; go_at_call 13; refine (CU.out _).mono ?_; rintro e w19 ⟨rfl, b19⟩; replace KR := Lib.hid (KR.out.below b19); have S19 := Lib.hid (S18.out.below b19); go_wp2_with fail
  refine hK.out _ _ ?_ (fun hHeld => ?_)
  · exact ⟨S19.out.cell (b := (w.heap.size, 30, #[.int .i64 x.1, .int .i64 x.2.1, .string x.2.2.1, .int .i64 x.2.2.2])) (by simp) 0, S19.out.cell (b := (w.heap.size, 30, #[.int .i64 x.1, .int .i64 x.2.1, .string x.2.2.1, .int .i64 x.2.2.2])) (by simp) 1, S19.out.cell (b := (w.heap.size, 30, #[.int .i64 x.1, .int .i64 x.2.1, .string x.2.2.1, .int .i64 x.2.2.2])) (by simp) 2, S19.out.cell (b := (w.heap.size, 30, #[.int .i64 x.1, .int .i64 x.2.1, .string x.2.2.1, .int .i64 x.2.2.2])) (by simp) 3⟩
  clear hK K
  try simp only [Act.put, List.getElem_toArray, List.getElem_cons_succ, List.getElem_cons_zero, List.setIfInBounds_toArray, List.set_cons_zero, List.set_cons_succ]
  clear b19 S18
  refine wpAnyH_ready (rs := [4]) (by kernel_rfl) (by simp) (AllReadyH.cons rfl (fun K hK => ?_) AllReadyH.nil)
  rw [if_pos (by rfl)]
  go_simp; go_at_call 14; refine (CI.out _ w19 KR.out ((S19.out.bw.cell hlt).trans HM.out)).mono ?_; rintro e w20 ⟨V8, u8, pre8, post8, rfl, k8, pt8, b20⟩; have K8 := Lib.hid (part_at k8 pt8); obtain ⟨a8, c8, hu8⟩ := pt8.slice; subst hu8; clear k8 pt8; have S20 := Lib.hid (S19.out.below b20); go_wp2_with fail
  refine hK.out _ _ ?_ (fun hHeld => ?_)
  · exact ⟨S20.out.cell (b := (w.heap.size, 30, #[.int .i64 x.1, .int .i64 x.2.1, .string x.2.2.1, .int .i64 x.2.2.2])) (by simp) 0, S20.out.cell (b := (w.heap.size, 30, #[.int .i64 x.1, .int .i64 x.2.1, .string x.2.2.1, .int .i64 x.2.2.2])) (by simp) 1, S20.out.cell (b := (w.heap.size, 30, #[.int .i64 x.1, .int .i64 x.2.1, .string x.2.2.1, .int .i64 x.2.2.2])) (by simp) 2, S20.out.cell (b := (w.heap.size, 30, #[.int .i64 x.1, .int .i64 x.2.1, .string x.2.2.1, .int .i64 x.2.2.2])) (by simp) 3⟩
  clear hK K
  try simp only [Act.put, List.getElem_toArray, List.getElem_cons_succ, List.getElem_cons_zero, List.setIfInBounds_toArray, List.set_cons_zero, List.set_cons_succ]
  clear b20 S19 KR
  refine wpAnyH_take (i := 5) (v := ?_) rfl (by kernel_rfl) (by kernel_rfl) (by kernel_rfl) (fun _ _ _ h => h) (Or.inl ⟨by rfl, ?_⟩) (by assumption) ?_
  rotate_left
  · intro w hSw; (try dsimp only at hSw); go_simp; try with_reducible rfl
  try simp only [Act.put, List.getElem_toArray, List.getElem_cons_succ, List.getElem_cons_zero, List.setIfInBounds_toArray, List.set_cons_zero, List.set_cons_succ]
  refine wpAnyH_take (i := 6) (v := ?_) rfl (by kernel_rfl) (by kernel_rfl) (by kernel_rfl) (fun _ _ _ h => h) (Or.inl ⟨by rfl, ?_⟩) (by assumption) ?_
  rotate_left
  · intro w hSw; (try dsimp only at hSw); go_simp; try with_reducible rfl
  try simp only [Act.put, List.getElem_toArray, List.getElem_cons_succ, List.getElem_cons_zero, List.setIfInBounds_toArray, List.set_cons_zero, List.set_cons_succ]
  refine wpAnyH_take (i := 7) (v := ?_) rfl (by kernel_rfl) (by kernel_rfl) (by kernel_rfl) (fun _ _ _ h => h) (Or.inl ⟨by rfl, ?_⟩) (by assumption) ?_
  rotate_left
  · intro w hSw; (try dsimp only at hSw); go_simp; try with_reducible rfl
  try simp only [Act.put, List.getElem_toArray, List.getElem_cons_succ, List.getElem_cons_zero, List.setIfInBounds_toArray, List.set_cons_zero, List.set_cons_succ]
  refine wpAnyH_take (i := 8) (v := ?_) rfl (by kernel_rfl) (by kernel_rfl) (by kernel_rfl) (fun _ _ _ h => h) (Or.inl ⟨by rfl, ?_⟩) (by assumption) ?_
  rotate_left
  · intro w hSw; (try dsimp only at hSw); go_simp; try with_reducible rfl
  try simp only [Act.put, List.getElem_toArray, List.getElem_cons_succ, List.getElem_cons_zero, List.setIfInBounds_toArray, List.set_cons_zero, List.set_cons_succ]
  refine wpAnyH_take (i := 9) (v := ?_) rfl (by kernel_rfl) (by kernel_rfl) (by kernel_rfl) (fun _ _ _ h => h) (Or.inl ⟨by rfl, ?_⟩) (by assumption) ?_
  rotate_left
  · intro w hSw; (try dsimp only at hSw); go_simp; try with_reducible rfl
  try simp only [Act.put, List.getElem_toArray, List.getElem_cons_succ, List.getElem_cons_zero, List.setIfInBounds_toArray, List.set_cons_zero, List.set_cons_succ]
  refine wpAnyH_done (by kernel_rfl) ?_ _
  clear hHeld
  have d0_0 : w20.cell? ⟨w.heap.size, 0, none⟩ = some (.int .i64 x.1) := S20.out.cell (b := (w.heap.size, 30, #[.int .i64 x.1, .int .i64 x.2.1, .string x.2.2.1, .int .i64 x.2.2.2])) (by simp) 0
  have d0_1 : w20.cell? ⟨w.heap.size, 1, none⟩ = some (.int .i64 x.2.1) := S20.out.cell (b := (w.heap.size, 30, #[.int .i64 x.1, .int .i64 x.2.1, .string x.2.2.1, .int .i64 x.2.2.2])) (by simp) 1
  have d0_2 : w20.cell? ⟨w.heap.size, 2, none⟩ = some (.string x.2.2.1) := S20.out.cell (b := (w.heap.size, 30, #[.int .i64 x.1, .int .i64 x.2.1, .string x.2.2.1, .int .i64 x.2.2.2])) (by simp) 2
  have d0_3 : w20.cell? ⟨w.heap.size, 3, none⟩ = some (.int .i64 x.2.2.2) := S20.out.cell (b := (w.heap.size, 30, #[.int .i64 x.1, .int .i64 x.2.1, .string x.2.2.1, .int .i64 x.2.2.2])) (by simp) 3
  go_wp2_with fail
  refine (CE.out _ _ _ K8.out (own_msgs_at (show MOwn w20 w5.heap.size (.slice az L.length cz) L from (S20.out.row ⟨w5.heap.size, 34, 4, (.slice az L.length cz), L.length, mcells L⟩ (by simp)).1))).mono ?_
  clear d0_0 d0_1 d0_2 d0_3
  rintro e w21 ⟨rfl, b21⟩
  have S21 := Lib.hid (S20.out.below b21)
  clear b21 S20
  have d0_0 : w21.cell? ⟨w.heap.size, 0, none⟩ = some (.int .i64 x.1) := S21.out.cell (b := (w.heap.size, 30, #[.int .i64 x.1, .int .i64 x.2.1, .string x.2.2.1, .int .i64 x.2.2.2])) (by simp) 0
  have d0_1 : w21.cell? ⟨w.heap.size, 1, none⟩ = some (.int .i64 x.2.1) := S21.out.cell (b := (w.heap.size, 30, #[.int .i64 x.1, .int .i64 x.2.1, .string x.2.2.1, .int .i64 x.2.2.2])) (by simp) 1
  have d0_2 : w21.cell? ⟨w.heap.size, 2, none⟩ = some (.string x.2.2.1) := S21.out.cell (b := (w.heap.size, 30, #[.int .i64 x.1, .int .i64 x.2.1, .string x.2.2.1, .int .i64 x.2.2.2])) (by simp) 2
  have d0_3 : w21.cell? ⟨w.heap.size, 3, none⟩ = some (.int .i64 x.2.2.2) := S21.out.cell (b := (w.heap.size, 30, #[.int .i64 x.1, .int .i64 x.2.1, .string x.2.2.1, .int .i64 x.2.2.2])) (by simp) 3
  go_wp2_with fail
  refine (CH.out _ _ (MYz.out _ _ (show MOwn w21 w8.heap.size Vz Yz from by have h := (S21.out.row ⟨w8.heap.size, 34, 4, Vz, Xz.length, mcells Yz⟩ (by simp)).1; unfold MOwn; rw [HYz.out]; exact h))).mono ?_
  clear d0_0 d0_1 d0_2 d0_3
  rintro e w22 ⟨rfl, b22⟩
  have S22 := Lib.hid (S21.out.below b22)
  clear b22 S21
  have d0_0 : w22.cell? ⟨w.heap.size, 0, none⟩ = some (.int .i64 x.1) := S22.out.cell (b := (w.heap.size, 30, #[.int .i64 x.1, .int .i64 x.2.1, .string x.2.2.1, .int .i64 x.2.2.2])) (by simp) 0
  have d0_1 : w22.cell? ⟨w.heap.size, 1, none⟩ = some (.int .i64 x.2.1) := S22.out.cell (b := (w.heap.size, 30, #[.int .i64 x.1, .int .i64 x.2.1, .string x.2.2.1, .int .i64 x.2.2.2])) (by simp) 1
  have d0_2 : w22.cell? ⟨w.heap.size, 2, none⟩ = some (.string x.2.2.1) := S22.out.cell (b := (w.heap.size, 30, #[.int .i64 x.1, .int .i64 x.2.1, .string x.2.2.1, .int .i64 x.2.2.2])) (by simp) 2
  have d0_3 : w22.cell? ⟨w.heap.size, 3, none⟩ = some (.int .i64 x.2.2.2) := S22.out.cell (b := (w.heap.size, 30, #[.int .i64 x.1, .int .i64 x.2.1, .string x.2.2.1, .int .i64 x.2.2.2])) (by simp) 3
  go_wp2
  go_ret
  exact ⟨rfl, S22.out.bw⟩

set_option maxRecDepth 100000 in
theorem contract (H : Type) (enc : TypeId × Value → H) (W : World) (base : Nat) (args : Array Value) (ds gs : List (DataW H)) (before : List MemPlace)
    (hval : ∀ (j : Nat) t v, Tryd.f4.params[j]? = some t → args[j]? = some v → Value.okWide Tryd.prog W .any base t v)
    (hW : DataW.Whole enc Tryd.prog Tryd.f4.params.toList Rows.fnExactKeptSpec.vars false W args.toList ds gs before) (hsh : W.ShapedOpen Tryd.prog) :
    Calls Tryd.prog 4 args W fun e W' => ∃ v, e = .returned v ∧ Rows.fnExactKeptSpec.post enc Tryd.prog Tryd.f4 false true false false W args v W' := by
  have hW' := hW
  obtain ⟨p, q, hA0, hV, rfl, hfz, hnd⟩ := hW
  have hA : DataW.TrodAll enc Tryd.prog W 0 (fun _ => true) true Tryd.f4.params.toList args.toList ds p := hA0
  rw [Tryd.params4] at hA hval
  obtain ⟨v0, vs0, d0, ds0, p0, q0, hargs, rfl, rfl, h0, r0⟩ := trodAll_cons hA
  obtain ⟨v1, vs1, d1, ds1, p1, q1, rfl, rfl, rfl, h1, r1⟩ := trodAll_cons r0
  obtain ⟨rfl, rfl, rfl⟩ := trodAll_nil r1
  obtain rfl : args = #[v0, v1] := by cases args; simp_all
  obtain ⟨rfl, rfl⟩ := trodVars_none hV
  obtain ⟨a0, len0, cap0, rfl⟩ := okWide_slice Tryd.underlying22 (hval 0 22 v0 rfl rfl)
  have k0 := h0
  have lt0 : ∀ x ∈ p0, x.block < W.heap.size := by obtain ⟨m, hm⟩ := k0; exact DataW.trod_lt m _ _ _ hm
  have w0 : ∃ l, MsgsAt W (.slice a0 len0 cap0) l ∧ ∀ y ∈ l, y.2.2.1.size ≤ maxLen := by
    obtain ⟨fuel, hf⟩ := h0
    obtain ⟨v, l, hcs, hk, hs⟩ := msgs_read Tryd.underlying22 Tryd.underlying30 (by kernel_rfl) ⟨rfl, rfl⟩ ⟨rfl, rfl⟩ ⟨rfl, rfl⟩ ⟨rfl, rfl⟩ Tryd.underlying2 (by kernel_rfl) Tryd.underlying9 (by kernel_rfl) hf
    simp [Value.cells] at hcs
    subst hcs
    exact ⟨l, hk, hs⟩
  obtain ⟨l0, w0, s0⟩ := w0
  obtain ⟨cs1, rfl, cz1⟩ := okWide_struct Tryd.underlying30 (hval 1 30 v1 rfl rfl)
  have k1 := h1
  have lt1 : ∀ x ∈ p1, x.block < W.heap.size := by obtain ⟨m, hm⟩ := k1; exact DataW.trod_lt m _ _ _ hm
  have w1 : ∃ y : MsgM, cs1 = (mval y).toArray ∧ y.2.2.1.size ≤ maxLen := by
    obtain ⟨fuel, hf⟩ := h1
    obtain ⟨y, e, hs⟩ := msg_read Tryd.underlying30 (by kernel_rfl) ⟨rfl, rfl⟩ ⟨rfl, rfl⟩ ⟨rfl, rfl⟩ ⟨rfl, rfl⟩ Tryd.underlying2 (by kernel_rfl) Tryd.underlying9 (by kernel_rfl) hf
    exact ⟨y, by rw [← e]; rfl, hs⟩
  obtain ⟨x1, rfl, s1⟩ := w1
  clear hA0
  simp only [List.append_nil] at hW'
  obtain ⟨m, hm⟩ := maxLen_cell hsh
  refine (law W _ l0 w0 s0 x1 s1 m hm).mono fun e W' ⟨he, hg⟩ => ?_
  subst he
  exact ⟨_, rfl, _, _, _, [], _, [], hW', trodAll_cons_mk (shut_bool Tryd.underlying4 _) trodAll_mk0, trodAll_cons_mk (Below.trod laidOut (by kernel_rfl) (of_decide_eq_true (by kernel_rfl)) k0 hg lt0) (trodAll_cons_mk (Below.trod laidOut (by kernel_rfl) (of_decide_eq_true (by kernel_rfl)) k1 hg lt1) (trodAll_mk0)), rfl, hg.frame _, fun h => by cases h⟩

theorem reads (os : Os) {H : Type} (enc : TypeId × Value → H) : ∃ places, DataW.whole enc Tryd.prog ((World.laidAll Tryd.prog os Rows.fnExactKeptRow.laid).forCall (fun _ _ => 0) ⟨#[], #[(.slice none 0 0 : Value), (.agg #[.int .i64 0, .int .i64 0, .string ByteArray.empty, .int .i64 0] : Value)], []⟩).memory Tryd.f4.params.toList Rows.fnExactKeptSpec.vars false (#[(.slice none 0 0 : Value), (.agg #[.int .i64 0, .int .i64 0, .string ByteArray.empty, .int .i64 0] : Value)] : Array Value).toList 8 = some ([.nil, .agg [.lit (.int .i64 0), .lit (.int .i64 0), .lit (.string []), .lit (.int .i64 0)]], [], places) :=
  ⟨[], by kernel_rfl⟩

theorem laid_met (os : Os) : laidMetH Tryd.prog Rows.fnExactKeptRow.laid ((World.laidAll Tryd.prog os Rows.fnExactKeptRow.laid).forCall (fun _ _ => 0) ⟨#[], #[(.slice none 0 0 : Value), (.agg #[.int .i64 0, .int .i64 0, .string ByteArray.empty, .int .i64 0] : Value)], []⟩).memory := by
  rw [MakeChecks.laidMetH_plain _ _ _ (by kernel_rfl)]
  exact laidMet_laidAll _ (by kernel_rfl) (by kernel_rfl)

set_option maxRecDepth 100000 in
theorem lifted (os : Os) (started : os.Started) (H : Type) (enc : TypeId × Value → H) (F : Stop.Interp) :
    ReturnsInHanded {} Tryd.checked os 4 .any ((OpenSpec.ofChange Rows.fnExactKeptSpec).preRow enc Tryd.prog Tryd.f4 Rows.fnExactKeptRow.domain false Rows.fnExactKeptRow.laid) (((OpenSpec.ofChange Rows.fnExactKeptSpec).at F).post enc Tryd.prog Tryd.f4 false true false false) := by
  obtain ⟨places, hx⟩ := reads os enc
  refine returnsInHanded_of_row (C := Tryd.checked) (s := OpenSpec.ofChange Rows.fnExactKeptSpec) own started (by kernel_rfl) Tryd.func4
    (witness_row_at (enc := enc) (C := Tryd.checked) false (World.laidAll Tryd.prog os Rows.fnExactKeptRow.laid) #[(.slice none 0 0 : Value), (.agg #[.int .i64 0, .int .i64 0, .string ByteArray.empty, .int .i64 0] : Value)] (World.laidAll_os _ _ _) (by kernel_rfl) (by kernel_rfl) (by kernel_rfl)
      (OpenSpec.preRow_of_cond 8 hx (by kernel_rfl) (fun k hk => by cases hk) (by kernel_rfl) (laid_met os))) ?_
  intro W base args ds gs before hval hW _ _ _ _ hsh _
  exact contract H enc W base args ds gs before hval hW hsh

theorem said : Rows.FnExactKeptSaid :=
  OpenClaim.holds_of_cond 4 Tryd.f4 rfl rfl rfl rfl rfl rfl rfl ⟨rfl, rfl, rfl, rfl, rfl⟩ rfl rfl rfl rfl rfl (by kernel_rfl) Tryd.func4 (by kernel_rfl)
    (of_decide_eq_true (by kernel_rfl)) (by unfold Func.isWrapper; first | (rw [if_pos (by decide +kernel)]; kernel_rfl) | (rw [if_neg (by decide +kernel)]; exact ⟨rfl, rfl⟩))
    (fun os started H enc _ F => by rw [OpenClaim.pre_eq_preRow]; exact lifted os started H enc F)

theorem plain (f : FuncId) (fn : Func) (hf : Tryd.pinned.checked.prog.funcNamed Tryd.f4.name = some f) (hfn : Tryd.pinned.checked.prog.funcs[f]? = some fn) :
    false = Tryd.pinned.checked.prog.looks [] ∧ ∀ (j : Nat) t, fn.params[j]? = some t → Tryd.pinned.checked.prog.wantsStandIn t = false := by
  obtain rfl : f = 4 := Option.some.inj ((show Tryd.prog.funcNamed Tryd.f4.name = some 4 by kernel_rfl).symm.trans hf) |>.symm
  obtain rfl : fn = Tryd.f4 := (Option.some.inj (Tryd.func4.symm.trans hfn)).symm
  refine ⟨by kernel_rfl, fun j t ht => ?_⟩
  rw [Tryd.params4] at ht
  have hm := Array.mem_of_getElem? ht
  have hall : (Tryd.f4.params.all fun u => !Tryd.prog.wantsStandIn u) = true := by kernel_rfl
  rw [Tryd.params4] at hall
  rw [Array.all_eq_true_iff_forall_mem] at hall
  have := hall t hm
  exact (show Tryd.prog.wantsStandIn t = false by simpa using this)

theorem card : Rows.FnExactKeptCardSaid :=
  Claim7.holds_tied_plain_at .later [] _ _ _ _ said (fun _ h => by cases h) (by kernel_rfl) (fun _ h => by cases h) fnExactKept_row_tie rfl ⟨rfl, rfl⟩ (by kernel_rfl) rfl plain (by kernel_rfl)
end Go.Proofs.YtnlgidbocndmfaaDoor.lawFnExactKept
