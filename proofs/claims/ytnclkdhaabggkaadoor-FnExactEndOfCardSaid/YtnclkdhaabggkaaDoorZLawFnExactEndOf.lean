/- The law FnExactEndOf holds at every argument: for every input it returns true and leaves the input as it was. -/
import Derived.Test.YtnclkdhaabggkaaDoorZB1
import Derived.Test.YtnclkdhaabggkaaDoorZBoxE
import Derived.Test.YtnclkdhaabggkaaDoorZITake
import Derived.Test.YtnclkdhaabggkaaDoorZB3
import Derived.Test.YtnclkdhaabggkaaDoorZB2
set_option linter.unusedSimpArgs false
set_option linter.unusedVariables false
namespace Go.Proofs.YtnclkdhaabggkaaDoor.lawFnExactEndOf
open Go.ChangeShapes Go.WideShapes Go.ChangeAt Go.RowKit Go.WideMaps Go.WideElems
open Go.ChangeMaps (open_string shut_string)

set_option maxRecDepth 100000 in
set_option maxHeartbeats 1600000 in
theorem law (w : World) (b : BoxM) (v : Value) (hv : MsgsAt w v b.q) (hp : ∀ y ∈ b.q, y.2.2.1.size ≤ maxLen) (m : Int) (hm : w.cell? ⟨0, 0, none⟩ = some (.int .i64 m)) :
    Calls Tryd.prog 5 #[bagg b v] w fun e w' => e = .returned (.bool true) ∧ Below w.heap.size w w' := by
  have cz := fun wx (h : MsgsAt wx v b.q) => szBox_any b v 1048576 wx (by omega) (by omega) hp h
  have HV := Lib.hid hv
  by_cases hz : szMs b.q 1048576 < 0
  · have g1 : decide (szMs b.q 1048576 < 0) = true := decide_eq_true hz
    obtain ⟨a, c, rfl, _, _, _⟩ := hv
    go_enter Tryd.func5, Tryd.ntmps5
    go_upto_region 2 with (fail)
    have X0 : (w.alloc (.cells (bcells b (.slice a b.q.length c)) 24)).heap[w.heap.size]? = some (.cells (bcells b (.slice a b.q.length c)) 24 (0, 0)) := heap_alloc_new _ _
    have b0 := (Below.refl w.heap.size w).alloc (Nat.le_refl _) (.cells (bcells b (.slice a b.q.length c)) 24)
    generalize w.alloc (.cells (bcells b (.slice a b.q.length c)) 24) = w0 at X0 b0 ⊢
    go_wp2_with (refine wpList_load_row rfl 24 (.tmp 1) rfl w.heap.size rfl 24 (bcells b (.slice a b.q.length c)) (0, 0) _ X0 Tryd.underlying24 rfl (by kernel_rfl) ?_)
    refine (cz _ (HV.out.below b0)).mono ?_
    clear cz
    rintro e w1 ⟨rfl, b1⟩
    have B1 := Lib.hid (below_end b0 b1)
    clear b1 b0
    go_wp2
    go_ret
    exact ⟨rfl, B1.out⟩
  have g1 : decide (szMs b.q 1048576 < 0) = false := decide_eq_false hz
  obtain ⟨hlen, hall⟩ := szMs_small (by omega) (show 0 ≤ szMs b.q 1048576 by omega)
  have hl : b.q.length ≤ 1048576 := by omega
  have hs : ∀ x ∈ b.q, x.2.2.1.size ≤ 1048576 := fun x hx => by have := hall x hx; omega
  have CT := Lib.hid (fun wx (h : MsgsAt wx v b.q) => toBox_any b v wx (by omega) h)
  have CS := Lib.hid (fun u wx (h : MsgsAt wx u b.q) => specEnd_any b u wx hs h)
  have CI := Lib.hid (fun u wx (h : MsgsAt wx u b.q) h2 => implEnd_any b u m wx hl hs h h2)
  have CE := Lib.hid (fun u1 u2 wx (h1 : MsgsAt wx u1 b.q) (h2 : MsgsAt wx u2 b.q) => eqBox_any b u1 u2 wx (by omega) h1 h2)
  obtain ⟨r, hr⟩ : ∃ r, endB b = r := ⟨_, rfl⟩
  rw [hr] at CS CI
  obtain ⟨z, hz2⟩ : ∃ z, szMs b.q 1048576 = z := ⟨_, rfl⟩
  simp only [hz2] at g1 cz
  have HM := Lib.hid hm
  have hlt : 0 < w.heap.size := World.block_lt_of_cell? _ _ hm
  obtain ⟨a, c, rfl, _, _, _⟩ := hv
  have e1 : (r != r) = false := by simp
  clear hr hm hz hz2 hlen hall hl hs hp
  go_enter Tryd.func5, Tryd.ntmps5
  go_upto_region 2 with (fail)
  have X0 : (w.alloc (.cells (bcells b (.slice a b.q.length c)) 24)).heap[w.heap.size]? = some (.cells (bcells b (.slice a b.q.length c)) 24 (0, 0)) := heap_alloc_new _ _
  have b0 := (Below.refl w.heap.size w).alloc (Nat.le_refl _) (.cells (bcells b (.slice a b.q.length c)) 24)
  generalize w.alloc (.cells (bcells b (.slice a b.q.length c)) 24) = w0 at X0 b0 ⊢
  have hw0 : w.heap.size < w0.heap.size := (Array.getElem?_eq_some_iff.1 X0).1
  go_wp2_with (refine wpList_load_row rfl 24 (.tmp 1) rfl w.heap.size rfl 24 (bcells b (.slice a b.q.length c)) (0, 0) _ X0 Tryd.underlying24 rfl (by kernel_rfl) ?_)
  refine (cz w0 (HV.out.below b0)).mono ?_
  clear cz
  rintro e w1 ⟨rfl, b1⟩
  have B1 := Lib.hid (below_end b0 b1)
  have X1 := (b1.block _ hw0).trans X0
  clear b1 b0 X0 hw0
  go_wp2_with (refine wpList_load_row rfl 24 (.tmp 1) rfl w.heap.size rfl 24 (bcells b (.slice a b.q.length c)) (0, 0) _ X1 Tryd.underlying24 rfl (by kernel_rfl) ?_)
  refine (CT.out w1 (HV.out.below B1.out)).mono ?_
  rintro e w2 ⟨u2, rfl, k2, b2⟩
  have K2 := Lib.hid (own_msgs_at k2)
  have B2 := Lib.hid (below_end B1.out b2)
  have X2 := (b2.block _ (Array.getElem?_eq_some_iff.1 X1).1).trans X1
  obtain ⟨a2, c2, hu2⟩ := own_slice k2
  subst hu2
  clear b2 k2 B1 X1
  go_wp2_with fail
  refine (CS.out _ w2 K2.out).mono ?_
  rintro e w3 ⟨rfl, b3⟩
  have B3 := Lib.hid (below_end B2.out b3)
  have X3 := (b3.block _ (Array.getElem?_eq_some_iff.1 X2).1).trans X2
  clear b3 K2 B2 X2
  go_wp2_with (refine wpList_load_row rfl 24 (.tmp 1) rfl w.heap.size rfl 24 (bcells b (.slice a b.q.length c)) (0, 0) _ X3 Tryd.underlying24 rfl (by kernel_rfl) ?_)
  refine (CT.out w3 (HV.out.below B3.out)).mono ?_
  rintro e w4 ⟨u4, rfl, k4, b4⟩
  obtain ⟨a4, c4, hu4⟩ := own_slice k4
  subst hu4
  have K4 := Lib.hid (own_msgs_at k4)
  have B4 := Lib.hid (below_end B3.out b4)
  have X4 := (b4.block _ (Array.getElem?_eq_some_iff.1 X3).1).trans X3
  clear b4 k4 B3 X3
  go_upto_region 7 with (fail)
  have Y4 : (w4.alloc (.cells (bcells b (.slice a4 b.q.length c4)) 28)).heap[w4.heap.size]? = some (.cells (bcells b (.slice a4 b.q.length c4)) 28 (0, 0)) := heap_alloc_new _ _
  have b4 := (Below.refl w4.heap.size w4).alloc (Nat.le_refl _) (.cells (bcells b (.slice a4 b.q.length c4)) 28)
  generalize w4.alloc (.cells (bcells b (.slice a4 b.q.length c4)) 28) = w4b at Y4 b4 ⊢
  have K5 := Lib.hid (K4.out.below b4)
  have B5 := Lib.hid (below_end B4.out b4)
  have X5 := (b4.block _ (Array.getElem?_eq_some_iff.1 X4).1).trans X4
  clear b4 K4 B4 X4
  obtain ⟨G, hG⟩ : ∃ G, w4.heap.size = G := ⟨_, rfl⟩
  rw [hG] at Y4 ⊢
  clear hG
  go_wp2_with (refine wpList_load_row rfl 28 (.tmp 5) rfl G rfl 28 (bcells b (.slice a4 b.q.length c4)) (0, 0) _ Y4 Tryd.underlying28 rfl (by kernel_rfl) ?_)
  refine (CI.out _ w4b K5.out ((B5.out.cell hlt).trans HM.out)).mono ?_
  rintro e w5 ⟨rfl, b5⟩
  have K6 := Lib.hid (K5.out.below b5)
  have B6 := Lib.hid (below_end B5.out b5)
  have X6 := (b5.block _ (Array.getElem?_eq_some_iff.1 X5).1).trans X5
  have Y6 := (b5.block _ (Array.getElem?_eq_some_iff.1 Y4).1).trans Y4
  clear b5 K5 B5 X5 Y4
  go_upto_region 10 with (fail)
  have HH : Hid (Below w5.heap.size w5 w5.drew) := Lib.hid (Below.refl _ _).drew
  refine wp_region_held_drew (S := fun wx => wx.heap[w.heap.size]? = some (.cells (bcells b (.slice a b.q.length c)) 24 (0, 0)) ∧ wx.heap[G]? = some (.cells (bcells b (.slice a4 b.q.length c4)) 28 (0, 0)) ∧ Hid (Below w5.heap.size w5 wx)) (by kernel_rfl) ?_ (fun hHeld => ?_)
  · exact ⟨X6, Y6, HH⟩
  change wpAnyH _ _ _ _ _ 5 #[false, false, false, false, false] _ _
  clear X6 Y6 HH
  refine wpAnyH_take (i := 0) (v := bagg b (.slice a4 b.q.length c4)) rfl (by kernel_rfl) (by kernel_rfl) (by kernel_rfl) (fun _ _ _ h => h) (yieldsIf_load_mid rfl 28 (.tmp 5) rfl G 0 rfl [.int .i64 b.cap, .int .i64 b.pol, (.slice a4 b.q.length c4), .int .i64 b.ofr, .int .i64 b.rcv, .int .i64 b.drp, .int .i64 b.mrg, .bool b.shut] _ (fun wx h => range_of_heap h.2.1) Tryd.underlying28 rfl (by kernel_rfl)) (by assumption) ?_
  try simp only [Act.put, List.getElem_toArray, List.getElem_cons_succ, List.getElem_cons_zero, List.setIfInBounds_toArray, List.set_cons_zero, List.set_cons_succ]
  refine wpAnyH_take (i := 1) (v := bagg b (.slice a b.q.length c)) rfl (by kernel_rfl) (by kernel_rfl) (by kernel_rfl) (fun _ _ _ h => h) (yieldsIf_load_mid rfl 24 (.tmp 1) rfl w.heap.size 0 rfl [.int .i64 b.cap, .int .i64 b.pol, (.slice a b.q.length c), .int .i64 b.ofr, .int .i64 b.rcv, .int .i64 b.drp, .int .i64 b.mrg, .bool b.shut] _ (fun wx h => range_of_heap h.1) Tryd.underlying24 rfl (by kernel_rfl)) (by assumption) ?_
  try simp only [Act.put, List.getElem_toArray, List.getElem_cons_succ, List.getElem_cons_zero, List.setIfInBounds_toArray, List.set_cons_zero, List.set_cons_succ]
  refine wpAnyH_ready (rs := [2]) (by kernel_rfl) (by simp) (AllReadyH.cons rfl (fun K hK => ?_) AllReadyH.nil)
  rw [if_pos (by rfl)]
  go_simp; go_at_call 8; refine (CT.out _ (HV.out.below (below_end B6.out hHeld.2.2.out))).mono ?_; rintro e w6 ⟨u6, rfl, k6, b6⟩; obtain ⟨a6, c6, hu6⟩ := own_slice k6; subst hu6; go_wp2_with fail
  refine hK.out _ _ ?_ (fun hHeld => ?_)
  · exact ⟨(b6.block _ (Array.getElem?_eq_some_iff.1 hHeld.1).1).trans hHeld.1, (b6.block _ (Array.getElem?_eq_some_iff.1 hHeld.2.1).1).trans hHeld.2.1, Lib.hid (below_end hHeld.2.2.out b6)⟩
  clear hK K
  try simp only [Act.put, List.getElem_toArray, List.getElem_cons_succ, List.getElem_cons_zero, List.setIfInBounds_toArray, List.set_cons_zero, List.set_cons_succ]
  have K7 := Lib.hid (own_msgs_at k6)
  clear k6 b6
  refine wpAnyH_ready (rs := [3]) (by kernel_rfl) (by simp) (AllReadyH.cons rfl (fun K hK => ?_) AllReadyH.nil)
  rw [if_pos (by rfl)]
  go_simp; go_at_call 10; refine (CE.out _ _ _ (K6.out.below hHeld.2.2.out) K7.out).mono ?_; rintro e w7 ⟨rfl, b7⟩; go_wp2_with fail
  refine hK.out _ _ ?_ (fun hHeld => ?_)
  · exact ⟨(b7.block _ (Array.getElem?_eq_some_iff.1 hHeld.1).1).trans hHeld.1, (b7.block _ (Array.getElem?_eq_some_iff.1 hHeld.2.1).1).trans hHeld.2.1, Lib.hid (below_end hHeld.2.2.out b7)⟩
  clear hK K
  try simp only [Act.put, List.getElem_toArray, List.getElem_cons_succ, List.getElem_cons_zero, List.setIfInBounds_toArray, List.set_cons_zero, List.set_cons_succ]
  refine wpAnyH_take (i := 4) (v := ?_) rfl (by kernel_rfl) (by kernel_rfl) (by kernel_rfl) (fun _ _ _ h => h) (Or.inl ⟨by rfl, ?_⟩) (by assumption) ?_
  rotate_left
  · intro w hSw; (try dsimp only at hSw); go_simp; try with_reducible rfl
  try simp only [Act.put, List.getElem_toArray, List.getElem_cons_succ, List.getElem_cons_zero, List.setIfInBounds_toArray, List.set_cons_zero, List.set_cons_succ]
  refine wpAnyH_done (by kernel_rfl) ?_ _
  have B8 := Lib.hid (below_end B6.out hHeld.2.2.out)
  clear hHeld
  go_wp2
  go_ret
  exact ⟨rfl, B8.out⟩

set_option maxRecDepth 100000 in
theorem contract (H : Type) (enc : TypeId × Value → H) (W : World) (base : Nat) (args : Array Value) (ds gs : List (DataW H)) (before : List MemPlace)
    (hval : ∀ (j : Nat) t v, Tryd.f5.params[j]? = some t → args[j]? = some v → Value.okWide Tryd.prog W .any base t v)
    (hW : DataW.Whole enc Tryd.prog Tryd.f5.params.toList Rows.fnExactEndOfSpec.vars false W args.toList ds gs before) (hsh : W.ShapedOpen Tryd.prog) :
    Calls Tryd.prog 5 args W fun e W' => ∃ v, e = .returned v ∧ Rows.fnExactEndOfSpec.post enc Tryd.prog Tryd.f5 false true false false W args v W' := by
  have hW' := hW
  obtain ⟨p, q, hA0, hV, rfl, hfz, hnd⟩ := hW
  have hA : DataW.TrodAll enc Tryd.prog W 0 (fun _ => true) true Tryd.f5.params.toList args.toList ds p := hA0
  rw [Tryd.params5] at hA hval
  obtain ⟨v0, vs0, d0, ds0, p0, q0, hargs, rfl, rfl, h0, r0⟩ := trodAll_cons hA
  obtain ⟨rfl, rfl, rfl⟩ := trodAll_nil r0
  obtain rfl : args = #[v0] := by cases args; simp_all
  obtain ⟨rfl, rfl⟩ := trodVars_none hV
  obtain ⟨cs0, rfl, cz0⟩ := okWide_struct Tryd.underlying24 (hval 0 24 v0 rfl rfl)
  have k0 := h0
  have lt0 : ∀ x ∈ p0, x.block < W.heap.size := by obtain ⟨m, hm⟩ := k0; exact DataW.trod_lt m _ _ _ hm
  have w0 : ∃ (b : BoxM) (v : Value), cs0 = bcells b v ∧ MsgsAt W v b.q ∧ ∀ y ∈ b.q, y.2.2.1.size ≤ maxLen := by
    obtain ⟨fuel, hf⟩ := h0
    obtain ⟨b, v, e, hk, hs⟩ := box_read Tryd.underlying24 (by kernel_rfl) ⟨rfl, rfl⟩ ⟨rfl, rfl⟩ ⟨rfl, rfl⟩ ⟨rfl, rfl⟩ ⟨rfl, rfl⟩ ⟨rfl, rfl⟩ ⟨rfl, rfl⟩ ⟨rfl, rfl⟩ (by kernel_rfl) Tryd.underlying4 (by kernel_rfl) Tryd.underlying22 Tryd.underlying49 (by kernel_rfl) ⟨rfl, rfl⟩ ⟨rfl, rfl⟩ ⟨rfl, rfl⟩ ⟨rfl, rfl⟩ Tryd.underlying2 (by kernel_rfl) Tryd.underlying9 (by kernel_rfl) hf
    exact ⟨b, v, Array.toList_inj.1 e, hk, hs⟩
  obtain ⟨b0, v0, rfl, w0, s0⟩ := w0
  clear hA0
  simp only [List.append_nil] at hW'
  obtain ⟨m, hm⟩ := maxLen_cell hsh
  refine (law W b0 v0 w0 s0 m hm).mono fun e W' ⟨he, hg⟩ => ?_
  subst he
  exact ⟨_, rfl, _, _, _, [], _, [], hW', trodAll_cons_mk (shut_bool Tryd.underlying4 _) trodAll_mk0, trodAll_cons_mk (Below.trod laidOut (by kernel_rfl) (of_decide_eq_true (by kernel_rfl)) k0 hg lt0) (trodAll_mk0), rfl, hg.frame _, fun h => by cases h⟩

theorem reads (os : Os) {H : Type} (enc : TypeId × Value → H) : ∃ places, DataW.whole enc Tryd.prog ((World.laidAll Tryd.prog os Rows.fnExactEndOfRow.laid).forCall (fun _ _ => 0) ⟨#[], #[(.agg #[.int .i64 0, .int .i64 0, .slice none 0 0, .int .i64 0, .int .i64 0, .int .i64 0, .int .i64 0, .bool false] : Value)], []⟩).memory Tryd.f5.params.toList Rows.fnExactEndOfSpec.vars false (#[(.agg #[.int .i64 0, .int .i64 0, .slice none 0 0, .int .i64 0, .int .i64 0, .int .i64 0, .int .i64 0, .bool false] : Value)] : Array Value).toList 8 = some ([.agg [.lit (.int .i64 0), .lit (.int .i64 0), .nil, .lit (.int .i64 0), .lit (.int .i64 0), .lit (.int .i64 0), .lit (.int .i64 0), .lit (.bool false)]], [], places) :=
  ⟨[], by kernel_rfl⟩

theorem laid_met (os : Os) : laidMetH Tryd.prog Rows.fnExactEndOfRow.laid ((World.laidAll Tryd.prog os Rows.fnExactEndOfRow.laid).forCall (fun _ _ => 0) ⟨#[], #[(.agg #[.int .i64 0, .int .i64 0, .slice none 0 0, .int .i64 0, .int .i64 0, .int .i64 0, .int .i64 0, .bool false] : Value)], []⟩).memory := by
  rw [MakeChecks.laidMetH_plain _ _ _ (by kernel_rfl)]
  exact laidMet_laidAll _ (by kernel_rfl) (by kernel_rfl)

set_option maxRecDepth 100000 in
theorem lifted (os : Os) (started : os.Started) (H : Type) (enc : TypeId × Value → H) (F : Stop.Interp) :
    ReturnsInHanded {} Tryd.checked os 5 .any ((OpenSpec.ofChange Rows.fnExactEndOfSpec).preRow enc Tryd.prog Tryd.f5 Rows.fnExactEndOfRow.domain false Rows.fnExactEndOfRow.laid) (((OpenSpec.ofChange Rows.fnExactEndOfSpec).at F).post enc Tryd.prog Tryd.f5 false true false false) := by
  obtain ⟨places, hx⟩ := reads os enc
  refine returnsInHanded_of_row (C := Tryd.checked) (s := OpenSpec.ofChange Rows.fnExactEndOfSpec) own started (by kernel_rfl) Tryd.func5
    (witness_row_at (enc := enc) (C := Tryd.checked) false (World.laidAll Tryd.prog os Rows.fnExactEndOfRow.laid) #[(.agg #[.int .i64 0, .int .i64 0, .slice none 0 0, .int .i64 0, .int .i64 0, .int .i64 0, .int .i64 0, .bool false] : Value)] (World.laidAll_os _ _ _) (by kernel_rfl) (by kernel_rfl) (by kernel_rfl)
      (OpenSpec.preRow_of_cond 8 hx (by kernel_rfl) (fun k hk => by cases hk) (by kernel_rfl) (laid_met os))) ?_
  intro W base args ds gs before hval hW _ _ _ _ hsh _
  exact contract H enc W base args ds gs before hval hW hsh

theorem said : Rows.FnExactEndOfSaid :=
  OpenClaim.holds_of_cond 5 Tryd.f5 rfl rfl rfl rfl rfl rfl rfl ⟨rfl, rfl, rfl, rfl, rfl⟩ rfl rfl rfl rfl rfl (by kernel_rfl) Tryd.func5 (by kernel_rfl)
    (of_decide_eq_true (by kernel_rfl)) (by unfold Func.isWrapper; first | (rw [if_pos (by decide +kernel)]; kernel_rfl) | (rw [if_neg (by decide +kernel)]; exact ⟨rfl, rfl⟩))
    (fun os started H enc _ F => by rw [OpenClaim.pre_eq_preRow]; exact lifted os started H enc F)

theorem plain (f : FuncId) (fn : Func) (hf : Tryd.pinned.checked.prog.funcNamed Tryd.f5.name = some f) (hfn : Tryd.pinned.checked.prog.funcs[f]? = some fn) :
    ∀ (j : Nat) t, fn.params[j]? = some t → Tryd.pinned.checked.prog.wantsStandIn t = false := by
  obtain rfl : f = 5 := Option.some.inj ((show Tryd.prog.funcNamed Tryd.f5.name = some 5 by kernel_rfl).symm.trans hf) |>.symm
  obtain rfl : fn = Tryd.f5 := (Option.some.inj (Tryd.func5.symm.trans hfn)).symm
  intro j t ht
  rw [Tryd.params5] at ht
  have hm := Array.mem_of_getElem? ht
  have hall : (Tryd.f5.params.all fun u => !Tryd.prog.wantsStandIn u) = true := by kernel_rfl
  rw [Tryd.params5] at hall
  rw [Array.all_eq_true_iff_forall_mem] at hall
  have := hall t hm
  exact (show Tryd.prog.wantsStandIn t = false by simpa using this)

theorem card : Rows.FnExactEndOfCardSaid :=
  Claim7.holds_tied_plain_at .later [] _ _ _ _ said (fun _ h => by cases h) (by kernel_rfl) (fun _ h => by cases h) fnExactEndOf_row_tie rfl ⟨rfl, rfl⟩ (by kernel_rfl) rfl (fun f fn hf hfn => ⟨by kernel_rfl, plain f fn hf hfn⟩) (by kernel_rfl)
end Go.Proofs.YtnclkdhaabggkaaDoor.lawFnExactEndOf
