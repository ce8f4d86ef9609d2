/- The law FnExactRingOk holds at every argument: for every input it returns true and leaves the input as it was. -/
import Derived.Test.YtfdikopfpeiilaaDoorZB1
import Derived.Test.YtfdikopfpeiilaaDoorZIRingO
import Derived.Test.YtfdikopfpeiilaaDoorZSRing
import Derived.Test.YtfdikopfpeiilaaDoorZMsgR
import Derived.Test.YtfdikopfpeiilaaDoorZB2
set_option linter.unusedSimpArgs false
set_option linter.unusedVariables false
namespace Go.Proofs.YtfdikopfpeiilaaDoor.lawFnExactRingOk
open Go.ChangeShapes Go.WideShapes Go.ChangeAt Go.RowKit Go.WideMaps Go.WideElems
open Go.ChangeMaps (open_string shut_string)

set_option maxRecDepth 100000 in
set_option maxHeartbeats 1600000 in
theorem law (w : World) (cap : Int) (v : Value) (l : List MsgM) (hv : MsgsAt w v l) (hp : ∀ y ∈ l, y.2.2.1.size ≤ maxLen) (m : Int) (hm : w.cell? ⟨0, 0, none⟩ = some (.int .i64 m)) :
    Calls Tryd.prog 3 #[.agg #[.int .i64 cap, v]] w fun e w' => e = .returned (.bool true) ∧ Below w.heap.size w w' := by
  have cz := fun wx (h : MsgsAt wx v l) => szRing_any cap v l 1048576 wx (by omega) (by omega) hp h
  have HV := Lib.hid hv
  by_cases hz : szMs l 1048576 < 0
  · have g1 : decide (szMs l 1048576 < 0) = true := decide_eq_true hz
    obtain ⟨a, c, rfl, _, _, _⟩ := hv
    go_enter Tryd.func3, Tryd.ntmps3
    go_wp2_with fail
    refine (cz _ (HV.out.alloc _)).mono ?_
    clear cz
    rintro e w1 ⟨rfl, b1⟩
    have B1 := Lib.hid (below_end ((Below.refl _ w).alloc (Nat.le_refl _) _) b1)
    clear b1
    go_wp2
    go_ret
    exact ⟨rfl, B1.out⟩
  have g1 : decide (szMs l 1048576 < 0) = false := decide_eq_false hz
  obtain ⟨hlen, hall⟩ := szMs_small (by omega) (show 0 ≤ szMs l 1048576 by omega)
  have hl : l.length ≤ 1048576 := by omega
  have hs : ∀ x ∈ l, x.2.2.1.size ≤ 1048576 := fun x hx => by have := hall x hx; omega
  have CT := Lib.hid (fun wx (h : MsgsAt wx v l) => toRing_any cap v l wx (by omega) h)
  have CS := Lib.hid (fun u wx (h : MsgsAt wx u l) => specRingOk_any cap u l wx hl hs h)
  have CI := Lib.hid (fun u wx (h : MsgsAt wx u l) h2 => implRingOk_any cap u l m wx hl hs h h2)
  have CE := Lib.hid (fun u1 u2 wx (h1 : MsgsAt wx u1 l) (h2 : MsgsAt wx u2 l) => eqRing_any cap u1 u2 l wx (by omega) h1 h2)
  obtain ⟨r, hr⟩ : ∃ r, ringB cap l = r := ⟨_, rfl⟩
  rw [hr] at CS CI
  obtain ⟨z, hz2⟩ : ∃ z, szMs l 1048576 = z := ⟨_, rfl⟩
  simp only [hz2] at g1 cz
  have HM := Lib.hid hm
  have hlt : 0 < w.heap.size := World.block_lt_of_cell? _ _ hm
  obtain ⟨a, c, rfl, _, _, _⟩ := hv
  have e1 : (r != r) = false := by simp
  clear hr hm hz hz2 hlen hall hl hs hp
  go_enter Tryd.func3, Tryd.ntmps3
  go_wp2_with fail
  have X0 := RBox.new w 24 cap (.slice a l.length c)
  have b0 : Below w.heap.size w (w.alloc (.cells #[.int .i64 cap, .slice a l.length c] 24)) := (Below.refl _ _).alloc (Nat.le_refl _) _
  generalize w.alloc (.cells #[.int .i64 cap, .slice a l.length c] 24) = w0 at X0 b0 ⊢
  refine (cz w0 (HV.out.below b0)).mono ?_
  clear cz
  rintro e w1 ⟨rfl, b1⟩
  have B1 := Lib.hid (below_end b0 b1)
  have X1 := Lib.hid (X0.below b1)
  obtain ⟨d0, d1⟩ := X1.out.cells
  clear b1 b0 X0
  go_wp2_with fail
  refine (CT.out w1 (HV.out.below B1.out)).mono ?_
  rintro e w2 ⟨u2, rfl, k2, b2⟩
  have K2 := Lib.hid (own_msgs_at k2)
  have B2 := Lib.hid (below_end B1.out b2)
  have X2 := Lib.hid (X1.out.below b2)
  obtain ⟨a2, c2, hu2⟩ := own_slice k2
  subst hu2
  clear b2 k2 B1 X1 d0 d1
  go_wp2_with fail
  refine (CS.out _ w2 K2.out).mono ?_
  rintro e w3 ⟨rfl, b3⟩
  have B3 := Lib.hid (below_end B2.out b3)
  have X3 := Lib.hid (X2.out.below b3)
  obtain ⟨d0, d1⟩ := X3.out.cells
  clear b3 K2 B2 X2
  go_wp2_with fail
  refine (CT.out w3 (HV.out.below B3.out)).mono ?_
  rintro e w4 ⟨u4, rfl, k4, b4⟩
  obtain ⟨a4, c4, hu4⟩ := own_slice k4
  subst hu4
  have K4 := Lib.hid (own_msgs_at k4)
  have B4 := Lib.hid (below_end B3.out b4)
  have X4 := Lib.hid (X3.out.below b4)
  clear b4 k4 B3 X3 d0 d1
  go_wp2_with fail
  have Y4 := RBox.new w4 29 cap (.slice a4 l.length c4)
  have b4 : Below w4.heap.size w4 (w4.alloc (.cells #[.int .i64 cap, .slice a4 l.length c4] 29)) := (Below.refl _ _).alloc (Nat.le_refl _) _
  generalize w4.alloc (.cells #[.int .i64 cap, .slice a4 l.length c4] 29) = w4b at Y4 b4 ⊢
  have K5 := Lib.hid (K4.out.below b4)
  have B5 := Lib.hid (below_end B4.out b4)
  have X5 := Lib.hid (X4.out.below b4)
  clear b4 K4 B4 X4
  obtain ⟨G, hG⟩ : ∃ G, w4.heap.size = G := ⟨_, rfl⟩
  rw [hG] at Y4 ⊢
  clear hG
  refine (CI.out _ w4b K5.out ((B5.out.cell hlt).trans HM.out)).mono ?_
  rintro e w5 ⟨rfl, b5⟩
  have K6 := Lib.hid (K5.out.below b5)
  have B6 := Lib.hid (below_end B5.out b5)
  have X6 := Lib.hid (X5.out.below b5)
  have Y6 := Lib.hid (Y4.below b5)
  obtain ⟨d0, d1⟩ := X6.out.cells
  obtain ⟨y0, y1⟩ := Y6.out.cells
  clear b5 K5 B5 X5 Y4
  go_wp2_with fail
  have HH : Hid (Below w5.heap.size w5 w5.drew) := Lib.hid (Below.refl _ _).drew
  clear X6 Y6
  refine wp_region_held_drew (S := fun wx => wx.cell? ⟨w.heap.size, 0, none⟩ = some (.int .i64 cap) ∧ wx.cell? ⟨w.heap.size, 1, none⟩ = some (.slice a l.length c) ∧ wx.cell? ⟨G, 0, none⟩ = some (.int .i64 cap) ∧ wx.cell? ⟨G, 1, none⟩ = some (.slice a4 l.length c4) ∧ Hid (Below w5.heap.size w5 wx)) (by kernel_rfl) ?_ (fun hHeld => ?_)
  · exact ⟨d0, d1, y0, y1, HH⟩
  change wpAnyH _ _ _ _ _ 5 #[false, false, false, false, false] _ _
  clear d0 d1 y0 y1 HH
  refine wpAnyH_take (i := 0) (v := ?_) rfl (by kernel_rfl) (by kernel_rfl) (by kernel_rfl) (fun _ _ _ h => h) (Or.inl ⟨by rfl, ?_⟩) (by assumption) ?_
  rotate_left
  · intro w hSw; (try dsimp only at hSw); go_simp; try with_reducible rfl
  try simp only [Act.put, List.getElem_toArray, List.getElem_cons_succ, List.getElem_cons_zero, List.setIfInBounds_toArray, List.set_cons_zero, List.set_cons_succ]
  refine wpAnyH_take (i := 1) (v := ?_) rfl (by kernel_rfl) (by kernel_rfl) (by kernel_rfl) (fun _ _ _ h => h) (Or.inl ⟨by rfl, ?_⟩) (by assumption) ?_
  rotate_left
  · intro w hSw; (try dsimp only at hSw); go_simp; try with_reducible rfl
  try simp only [Act.put, List.getElem_toArray, List.getElem_cons_succ, List.getElem_cons_zero, List.setIfInBounds_toArray, List.set_cons_zero, List.set_cons_succ]
  refine wpAnyH_ready (rs := [2]) (by kernel_rfl) (by simp) (AllReadyH.cons rfl (fun K hK => ?_) AllReadyH.nil)
  rw [if_pos (by rfl)]
  go_simp; go_at_call 8; refine (CT.out _ (HV.out.below (below_end B6.out hHeld.2.2.2.2.out))).mono ?_; rintro e w6 ⟨u6, rfl, k6, b6⟩; obtain ⟨a6, c6, hu6⟩ := own_slice k6; subst hu6; go_wp2_with fail
  refine hK.out _ _ ?_ (fun hHeld => ?_)
  · exact ⟨(below_cell b6 (World.block_lt_of_cell? _ _ hHeld.1)).trans hHeld.1, (below_cell b6 (World.block_lt_of_cell? _ _ hHeld.2.1)).trans hHeld.2.1, (below_cell b6 (World.block_lt_of_cell? _ _ hHeld.2.2.1)).trans hHeld.2.2.1, (below_cell b6 (World.block_lt_of_cell? _ _ hHeld.2.2.2.1)).trans hHeld.2.2.2.1, Lib.hid (below_end hHeld.2.2.2.2.out b6)⟩
  clear hK K
  try simp only [Act.put, List.getElem_toArray, List.getElem_cons_succ, List.getElem_cons_zero, List.setIfInBounds_toArray, List.set_cons_zero, List.set_cons_succ]
  have K7 := Lib.hid (own_msgs_at k6)
  clear k6 b6
  refine wpAnyH_ready (rs := [3]) (by kernel_rfl) (by simp) (AllReadyH.cons rfl (fun K hK => ?_) AllReadyH.nil)
  rw [if_pos (by rfl)]
  go_simp; go_at_call 10; refine (CE.out _ _ _ (K6.out.below hHeld.2.2.2.2.out) K7.out).mono ?_; rintro e w7 ⟨rfl, b7⟩; go_wp2_with fail
  refine hK.out _ _ ?_ (fun hHeld => ?_)
  · exact ⟨(below_cell b7 (World.block_lt_of_cell? _ _ hHeld.1)).trans hHeld.1, (below_cell b7 (World.block_lt_of_cell? _ _ hHeld.2.1)).trans hHeld.2.1, (below_cell b7 (World.block_lt_of_cell? _ _ hHeld.2.2.1)).trans hHeld.2.2.1, (below_cell b7 (World.block_lt_of_cell? _ _ hHeld.2.2.2.1)).trans hHeld.2.2.2.1, Lib.hid (below_end hHeld.2.2.2.2.out b7)⟩
  clear hK K
  try simp only [Act.put, List.getElem_toArray, List.getElem_cons_succ, List.getElem_cons_zero, List.setIfInBounds_toArray, List.set_cons_zero, List.set_cons_succ]
  refine wpAnyH_take (i := 4) (v := ?_) rfl (by kernel_rfl) (by kernel_rfl) (by kernel_rfl) (fun _ _ _ h => h) (Or.inl ⟨by rfl, ?_⟩) (by assumption) ?_
  rotate_left
  · intro w hSw; (try dsimp only at hSw); go_simp; try with_reducible rfl
  try simp only [Act.put, List.getElem_toArray, List.getElem_cons_succ, List.getElem_cons_zero, List.setIfInBounds_toArray, List.set_cons_zero, List.set_cons_succ]
  refine wpAnyH_done (by kernel_rfl) ?_ _
  have B8 := Lib.hid (below_end B6.out hHeld.2.2.2.2.out)
  clear hHeld
  go_wp2
  go_ret
  exact ⟨rfl, B8.out⟩

set_option maxRecDepth 100000 in
theorem contract (H : Type) (enc : TypeId × Value → H) (W : World) (base : Nat) (args : Array Value) (ds gs : List (DataW H)) (before : List MemPlace)
    (hval : ∀ (j : Nat) t v, Tryd.f3.params[j]? = some t → args[j]? = some v → Value.okWide Tryd.prog W .any base t v)
    (hW : DataW.Whole enc Tryd.prog Tryd.f3.params.toList Rows.fnExactRingOkSpec.vars false W args.toList ds gs before) (hsh : W.ShapedOpen Tryd.prog) :
    Calls Tryd.prog 3 args W fun e W' => ∃ v, e = .returned v ∧ Rows.fnExactRingOkSpec.post enc Tryd.prog Tryd.f3 false true false false W args v W' := by
  have hW' := hW
  obtain ⟨p, q, hA0, hV, rfl, hfz, hnd⟩ := hW
  have hA : DataW.TrodAll enc Tryd.prog W 0 (fun _ => true) true Tryd.f3.params.toList args.toList ds p := hA0
  rw [Tryd.params3] at hA hval
  obtain ⟨v0, vs0, d0, ds0, p0, q0, hargs, rfl, rfl, h0, r0⟩ := trodAll_cons hA
  obtain ⟨rfl, rfl, rfl⟩ := trodAll_nil r0
  obtain rfl : args = #[v0] := by cases args; simp_all
  obtain ⟨rfl, rfl⟩ := trodVars_none hV
  obtain ⟨cs0, rfl, cz0⟩ := okWide_struct Tryd.underlying24 (hval 0 24 v0 rfl rfl)
  have k0 := h0
  have lt0 : ∀ x ∈ p0, x.block < W.heap.size := by obtain ⟨m, hm⟩ := k0; exact DataW.trod_lt m _ _ _ hm
  have w0 : ∃ c v l, cs0 = #[.int .i64 c, v] ∧ MsgsAt W v l ∧ ∀ y ∈ l, y.2.2.1.size ≤ maxLen := by
    obtain ⟨fuel, hf⟩ := h0
    obtain ⟨c, v, l, e, hk, hs⟩ := ring_read Tryd.underlying24 (by kernel_rfl) ⟨rfl, rfl⟩ ⟨rfl, rfl⟩ (by kernel_rfl) Tryd.underlying22 Tryd.underlying34 (by kernel_rfl) ⟨rfl, rfl⟩ ⟨rfl, rfl⟩ ⟨rfl, rfl⟩ ⟨rfl, rfl⟩ Tryd.underlying2 (by kernel_rfl) Tryd.underlying9 (by kernel_rfl) hf
    exact ⟨c, v, l, Array.toList_inj.1 e, hk, hs⟩
  obtain ⟨c0, v0, l0, rfl, w0, s0⟩ := w0
  clear hA0
  simp only [List.append_nil] at hW'
  obtain ⟨m, hm⟩ := maxLen_cell hsh
  refine (law W c0 v0 l0 w0 s0 m hm).mono fun e W' ⟨he, hg⟩ => ?_
  subst he
  exact ⟨_, rfl, _, _, _, [], _, [], hW', trodAll_cons_mk (shut_bool Tryd.underlying4 _) trodAll_mk0, trodAll_cons_mk (Below.trod laidOut (by kernel_rfl) (of_decide_eq_true (by kernel_rfl)) k0 hg lt0) (trodAll_mk0), rfl, hg.frame _, fun h => by cases h⟩

theorem reads (os : Os) {H : Type} (enc : TypeId × Value → H) : ∃ places, DataW.whole enc Tryd.prog ((World.laidAll Tryd.prog os Rows.fnExactRingOkRow.laid).forCall (fun _ _ => 0) ⟨#[], #[(.agg #[.int .i64 0, .slice none 0 0] : Value)], []⟩).memory Tryd.f3.params.toList Rows.fnExactRingOkSpec.vars false (#[(.agg #[.int .i64 0, .slice none 0 0] : Value)] : Array Value).toList 8 = some ([.agg [.lit (.int .i64 0), .nil]], [], places) :=
  ⟨[], by kernel_rfl⟩

theorem laid_met (os : Os) : laidMetH Tryd.prog Rows.fnExactRingOkRow.laid ((World.laidAll Tryd.prog os Rows.fnExactRingOkRow.laid).forCall (fun _ _ => 0) ⟨#[], #[(.agg #[.int .i64 0, .slice none 0 0] : Value)], []⟩).memory := by
  rw [MakeChecks.laidMetH_plain _ _ _ (by kernel_rfl)]
  exact laidMet_laidAll _ (by kernel_rfl) (by kernel_rfl)

set_option maxRecDepth 100000 in
theorem lifted (os : Os) (started : os.Started) (H : Type) (enc : TypeId × Value → H) (F : Stop.Interp) :
    ReturnsInHanded {} Tryd.checked os 3 .any ((OpenSpec.ofChange Rows.fnExactRingOkSpec).preRow enc Tryd.prog Tryd.f3 Rows.fnExactRingOkRow.domain false Rows.fnExactRingOkRow.laid) (((OpenSpec.ofChange Rows.fnExactRingOkSpec).at F).post enc Tryd.prog Tryd.f3 false true false false) := by
  obtain ⟨places, hx⟩ := reads os enc
  refine returnsInHanded_of_row (C := Tryd.checked) (s := OpenSpec.ofChange Rows.fnExactRingOkSpec) own started (by kernel_rfl) Tryd.func3
    (witness_row_at (enc := enc) (C := Tryd.checked) false (World.laidAll Tryd.prog os Rows.fnExactRingOkRow.laid) #[(.agg #[.int .i64 0, .slice none 0 0] : Value)] (World.laidAll_os _ _ _) (by kernel_rfl) (by kernel_rfl) (by kernel_rfl)
      (OpenSpec.preRow_of_cond 8 hx (by kernel_rfl) (fun k hk => by cases hk) (by kernel_rfl) (laid_met os))) ?_
  intro W base args ds gs before hval hW _ _ _ _ hsh _
  exact contract H enc W base args ds gs before hval hW hsh

theorem said : Rows.FnExactRingOkSaid :=
  OpenClaim.holds_of_cond 3 Tryd.f3 rfl rfl rfl rfl rfl rfl rfl ⟨rfl, rfl, rfl, rfl, rfl⟩ rfl rfl rfl rfl rfl (by kernel_rfl) Tryd.func3 (by kernel_rfl)
    (of_decide_eq_true (by kernel_rfl)) (by unfold Func.isWrapper; first | (rw [if_pos (by decide +kernel)]; kernel_rfl) | (rw [if_neg (by decide +kernel)]; exact ⟨rfl, rfl⟩))
    (fun os started H enc _ F => by rw [OpenClaim.pre_eq_preRow]; exact lifted os started H enc F)

theorem plain (f : FuncId) (fn : Func) (hf : Tryd.pinned.checked.prog.funcNamed Tryd.f3.name = some f) (hfn : Tryd.pinned.checked.prog.funcs[f]? = some fn) :
    false = Tryd.pinned.checked.prog.looks [] ∧ ∀ (j : Nat) t, fn.params[j]? = some t → Tryd.pinned.checked.prog.wantsStandIn t = false := by
  obtain rfl : f = 3 := Option.some.inj ((show Tryd.prog.funcNamed Tryd.f3.name = some 3 by kernel_rfl).symm.trans hf) |>.symm
  obtain rfl : fn = Tryd.f3 := (Option.some.inj (Tryd.func3.symm.trans hfn)).symm
  refine ⟨by kernel_rfl, fun j t ht => ?_⟩
  rw [Tryd.params3] at ht
  have hm := Array.mem_of_getElem? ht
  have hall : (Tryd.f3.params.all fun u => !Tryd.prog.wantsStandIn u) = true := by kernel_rfl
  rw [Tryd.params3] at hall
  rw [Array.all_eq_true_iff_forall_mem] at hall
  have := hall t hm
  exact (show Tryd.prog.wantsStandIn t = false by simpa using this)

theorem card : Rows.FnExactRingOkCardSaid :=
  Claim7.holds_tied_plain_at .later [] _ _ _ _ said (fun _ h => by cases h) (by kernel_rfl) (fun _ h => by cases h) fnExactRingOk_row_tie rfl ⟨rfl, rfl⟩ (by kernel_rfl) rfl plain (by kernel_rfl)
end Go.Proofs.YtfdikopfpeiilaaDoor.lawFnExactRingOk
