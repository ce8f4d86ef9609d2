/- The law FnExactNewBox holds at every argument: for every input it returns true and leaves the input as it was. -/
import Derived.Test.YtgmlohgfkbjmlaaDoorZB1
import Derived.Test.YtgmlohgfkbjmlaaDoorZBoxE
import Derived.Test.YtgmlohgfkbjmlaaDoorZIBoxO
import Derived.Test.YtgmlohgfkbjmlaaDoorZB4
set_option linter.unusedSimpArgs false
set_option linter.unusedVariables false
namespace Go.Proofs.YtgmlohgfkbjmlaaDoor.lawFnExactNewBox
open Go.ChangeShapes Go.WideShapes Go.ChangeAt Go.RowKit Go.WideMaps Go.WideElems
open Go.ChangeMaps (open_string shut_string)

set_option maxRecDepth 100000 in
set_option maxHeartbeats 1600000 in
theorem law (w : World) (cap : Int) (hc : (Lit.int .i64 cap).wf = true) (pol : Int) (hp : (Lit.int .i64 pol).wf = true) (m : Int) (hm : w.cell? ⟨0, 0, none⟩ = some (.int .i64 m)) :
    Calls Tryd.prog 4 #[.int .i64 cap, .int .i64 pol] w fun e w' => e = .returned (.bool true) ∧ Below w.heap.size w w' := by
  have CS := Lib.hid (fun wx => specNewBox_any cap pol wx)
  have CI := Lib.hid (fun wx h => implNewBox_any cap pol m wx h)
  have HX0 : (newB cap pol).1.q = [] := by unfold newB bareBox; split <;> rfl
  obtain ⟨x, ok, hN⟩ : ∃ x ok, newB cap pol = (x, ok) := ⟨_, _, rfl⟩
  simp only [hN] at CS CI HX0
  have HL : x.q.length = 0 := by rw [HX0]; rfl
  have HZ : Hid (∀ wx, MsgsAt wx (.slice none 0 0) x.q) := Lib.hid (fun wx => by rw [HX0]; exact ⟨none, 0, rfl, by simp, by unfold maxLen; omega, Or.inl rfl⟩)
  have CE := Lib.hid (fun u1 u2 wx (h1 : MsgsAt wx u1 x.q) (h2 : MsgsAt wx u2 x.q) => eqBox_any x u1 u2 wx (by omega) h1 h2)
  have CK := Lib.hid (fun u B wx (h : MOwn wx B u x.q) => markBox_any x u 1 B wx (Nat.le_refl _) (by omega) h)
  have CH := Lib.hid (fun u wx (h : MsgsAt wx u (mmarks 1 x.q.length)) => heldBox_any x x.q.length u 1 wx (Nat.le_refl _) (by omega) h)
  obtain ⟨ky, hky⟩ : ∃ ky, ((1 + x.q.length * 4 : Nat) : Int) = ky := ⟨_, rfl⟩
  have g4 : decide (ky < 0) = false := decide_eq_false (by omega)
  have g5 : (ky != ky) = false := by simp
  have g6 : (ok != ok) = false := by simp
  simp only [hky] at CK CH
  have HM := Lib.hid hm
  have HLT : Hid (0 < w.heap.size) := Lib.hid (World.block_lt_of_cell? _ _ hm)
  clear hm hky hN HX0 HL hc hp
  go_enter Tryd.func4, Tryd.ntmps4
  go_wp2_with fail
  refine (CS.out w).mono ?_
  rintro e w1 ⟨rfl, b1⟩
  go_upto_region 2 with (fail)
  have q2 := (Below.refl w1.heap.size w1).alloc (Nat.le_refl _) (.cells (bcells x (.slice none 0 0)) 29)
  have Y2 : BBox (w1.alloc (.cells (bcells x (.slice none 0 0)) 29)) w1.heap.size 29 x (.slice none 0 0) := BBox.new _ _ _ _
  generalize w1.alloc (.cells (bcells x (.slice none 0 0)) 29) = w102 at Y2 q2 ⊢
  have B3 := Lib.hid (below_end b1 q2)
  clear q2
  obtain ⟨G5, hG5⟩ : ∃ G, w1.heap.size = G := ⟨_, rfl⟩
  rw [hG5] at Y2 ⊢
  clear hG5
  have HB3 := Lib.hid B3.out.size
  go_wp2_with fail
  refine (CI.out _ ((B3.out.cell HLT.out).trans HM.out)).mono ?_
  rintro e w3 ⟨u, rfl, o3, b3⟩
  obtain ⟨ua, uc, hu⟩ := own_slice o3
  subst hu
  have Y5 := Y2.below b3
  clear Y2
  have B5 := Lib.hid (below_end B3.out b3)
  clear b3 B3
  go_upto_region 3 with (fail)
  have q6 := (Below.refl w3.heap.size w3).alloc (Nat.le_refl _) (.cells (bcells x (.slice ua x.q.length uc)) 29)
  have Y6 : BBox (w3.alloc (.cells (bcells x (.slice ua x.q.length uc)) 29)) w3.heap.size 29 x (.slice ua x.q.length uc) := BBox.new _ _ _ _
  generalize w3.alloc (.cells (bcells x (.slice ua x.q.length uc)) 29) = w106 at Y6 q6 ⊢
  have Y8 := Y5.below q6
  clear Y5
  have O9 : MOwn w106 _ (.slice ua x.q.length uc) x.q := row_below o3 q6
  clear o3
  have B9 := Lib.hid (below_end B5.out q6)
  clear q6 B5
  obtain ⟨G7, hG7⟩ : ∃ G, w3.heap.size = G := ⟨_, rfl⟩
  rw [hG7] at Y6 ⊢
  clear hG7
  go_wp2_with (first | refine wpList_load_row rfl 29 (.tmp 7) rfl G7 rfl 29 (bcells x (.slice ua x.q.length uc)) (0, 0) _ Y6 Tryd.underlying29 rfl (by kernel_rfl) ?_ | refine wpList_load_row rfl 29 (.tmp 5) rfl G5 rfl 29 (bcells x (.slice none 0 0)) (0, 0) _ Y8 Tryd.underlying29 rfl (by kernel_rfl) ?_)
  refine (CE.out _ _ _ (own_msgs_at O9) (HZ.out _)).mono ?_
  rintro e w5 ⟨rfl, b5⟩
  have Y11 := Y8.below b5
  clear Y8
  have Y12 := Y6.below b5
  clear Y6
  have O13 : MOwn w5 _ (.slice ua x.q.length uc) x.q := row_below O9 b5
  clear O9
  have B13 := Lib.hid (below_end B9.out b5)
  clear b5 B9
  go_upto_region 6 with (fail)
  go_wp2_with (first | refine wpList_load_row rfl 29 (.tmp 7) rfl G7 rfl 29 (bcells x (.slice ua x.q.length uc)) (0, 0) _ Y12 Tryd.underlying29 rfl (by kernel_rfl) ?_)
  refine (CK.out _ _ _ O13).mono ?_
  rintro e w6 ⟨rfl, o6, g6b⟩
  have Y14 : BBox w6 G5 29 x (.slice none 0 0) := (g6b.block _ Y11.lt (Ne.symm (Y11.off_row (by decide) O13))).trans Y11
  have Y15 : BBox w6 G7 29 x (.slice ua x.q.length uc) := (g6b.block _ Y12.lt (Ne.symm (Y12.off_row (by decide) O13))).trans Y12
  have B16 := Lib.hid (B13.out.grown g6b B13.out.size (fun k e => Nat.le_trans HB3.out (World.ownsRow.lt O13 k e).1))
  clear g6b
  go_upto_region 8 with (fail)
  go_wp2_with (first | refine wpList_load_row rfl 29 (.tmp 7) rfl G7 rfl 29 (bcells x (.slice ua x.q.length uc)) (0, 0) _ Y15 Tryd.underlying29 rfl (by kernel_rfl) ?_)
  refine (CH.out _ _ (show MsgsAt w6 (.slice ua x.q.length uc) (mmarks 1 x.q.length) from own_msgs_at o6)).mono ?_
  rintro e w7 ⟨rfl, b7⟩
  have Y18 := Y14.below b7
  clear Y14
  have Y19 := Y15.below b7
  clear Y15
  have O20 : MOwn w7 _ (.slice ua x.q.length uc) (mmarks 1 x.q.length) := row_below o6 b7
  clear o6
  have B20 := Lib.hid (below_end B16.out b7)
  clear b7 B16
  go_wp2_with fail
  refine (CI.out _ ((B20.out.cell HLT.out).trans HM.out)).mono ?_
  rintro e w8 ⟨u2, rfl, o8, b8⟩
  obtain ⟨va, vc, hv⟩ := own_slice o8
  subst hv
  have Y22 := Y18.below b8
  clear Y18
  have Y23 := Y19.below b8
  clear Y19
  have O24 : MOwn w8 _ (.slice ua x.q.length uc) (mmarks 1 x.q.length) := row_below O20 b8
  clear O20
  have B24 := Lib.hid (below_end B20.out b8)
  clear b8 B20
  go_upto_region 14 with (fail)
  have q25 := (Below.refl w8.heap.size w8).alloc (Nat.le_refl _) (.cells (bcells x (.slice va x.q.length vc)) 29)
  have Y25 : BBox (w8.alloc (.cells (bcells x (.slice va x.q.length vc)) 29)) w8.heap.size 29 x (.slice va x.q.length vc) := BBox.new _ _ _ _
  generalize w8.alloc (.cells (bcells x (.slice va x.q.length vc)) 29) = w125 at Y25 q25 ⊢
  have Y27 := Y22.below q25
  clear Y22
  have Y28 := Y23.below q25
  clear Y23
  have O29 : MOwn w125 _ (.slice ua x.q.length uc) (mmarks 1 x.q.length) := row_below O24 q25
  clear O24
  have O30 : MOwn w125 _ (.slice va x.q.length vc) x.q := row_below o8 q25
  clear o8
  have B30 := Lib.hid (below_end B24.out q25)
  clear q25 B24
  obtain ⟨G11, hG11⟩ : ∃ G, w8.heap.size = G := ⟨_, rfl⟩
  rw [hG11] at Y25 ⊢
  clear hG11
  go_wp2_with (first | refine wpList_load_row rfl 29 (.tmp 11) rfl G11 rfl 29 (bcells x (.slice va x.q.length vc)) (0, 0) _ Y25 Tryd.underlying29 rfl (by kernel_rfl) ?_ | refine wpList_load_row rfl 29 (.tmp 5) rfl G5 rfl 29 (bcells x (.slice none 0 0)) (0, 0) _ Y27 Tryd.underlying29 rfl (by kernel_rfl) ?_)
  refine (CE.out _ _ _ (own_msgs_at O30) (HZ.out _)).mono ?_
  rintro e w9 ⟨rfl, b9⟩
  have Y32 := Y27.below b9
  clear Y27
  have Y33 := Y28.below b9
  clear Y28
  have Y34 := Y25.below b9
  clear Y25
  have O35 : MOwn w9 _ (.slice ua x.q.length uc) (mmarks 1 x.q.length) := row_below O29 b9
  clear O29
  have O36 : MOwn w9 _ (.slice va x.q.length vc) x.q := row_below O30 b9
  clear O30
  have B36 := Lib.hid (below_end B30.out b9)
  clear b9 B30
  go_upto_region 17 with (fail)
  go_wp2_with (first | refine wpList_load_row rfl 29 (.tmp 7) rfl G7 rfl 29 (bcells x (.slice ua x.q.length uc)) (0, 0) _ Y33 Tryd.underlying29 rfl (by kernel_rfl) ?_)
  refine (CH.out _ _ (own_msgs_at O35)).mono ?_
  rintro e w10 ⟨rfl, b10⟩
  have Y38 := Y32.below b10
  clear Y32
  have Y39 := Y33.below b10
  clear Y33
  have Y40 := Y34.below b10
  clear Y34
  have O41 : MOwn w10 _ (.slice ua x.q.length uc) (mmarks 1 x.q.length) := row_below O35 b10
  clear O35
  have O42 : MOwn w10 _ (.slice va x.q.length vc) x.q := row_below O36 b10
  clear O36
  have B42 := Lib.hid (below_end B36.out b10)
  clear b10 B36
  go_wp2
  go_ret
  exact ⟨rfl, B42.out⟩

set_option maxRecDepth 100000 in
theorem contract (H : Type) (enc : TypeId × Value → H) (W : World) (base : Nat) (args : Array Value) (ds gs : List (DataW H)) (before : List MemPlace)
    (hval : ∀ (j : Nat) t v, Tryd.f4.params[j]? = some t → args[j]? = some v → Value.okWide Tryd.prog W .any base t v)
    (hW : DataW.Whole enc Tryd.prog Tryd.f4.params.toList Rows.fnExactNewBoxSpec.vars false W args.toList ds gs before) (hsh : W.ShapedOpen Tryd.prog) :
    Calls Tryd.prog 4 args W fun e W' => ∃ v, e = .returned v ∧ Rows.fnExactNewBoxSpec.post enc Tryd.prog Tryd.f4 false true false false W args v W' := by
  have hW' := hW
  obtain ⟨p, q, hA0, hV, rfl, hfz, hnd⟩ := hW
  have hA : DataW.TrodAll enc Tryd.prog W 0 (fun _ => true) true Tryd.f4.params.toList args.toList ds p := hA0
  rw [Tryd.params4] at hA hval
  obtain ⟨v0, vs0, d0, ds0, p0, q0, hargs, rfl, rfl, h0, r0⟩ := trodAll_cons hA
  obtain ⟨v1, vs1, d1, ds1, p1, q1, rfl, rfl, rfl, h1, r1⟩ := trodAll_cons r0
  obtain ⟨rfl, rfl, rfl⟩ := trodAll_nil r1
  obtain rfl : args = #[v0, v1] := by cases args; simp_all
  obtain ⟨rfl, rfl⟩ := trodVars_none hV
  obtain ⟨a0, rfl, rfl, rfl, w0⟩ := open_int Tryd.underlying2 (hval 0 2 v0 rfl rfl) h0
  obtain ⟨a1, rfl, rfl, rfl, w1⟩ := open_int Tryd.underlying2 (hval 1 2 v1 rfl rfl) h1
  clear hA0
  simp only [List.append_nil] at hW'
  obtain ⟨m, hm⟩ := maxLen_cell hsh
  refine (law W a0 w0 a1 w1 m hm).mono fun e W' ⟨he, hg⟩ => ?_
  subst he
  exact ⟨_, rfl, _, _, _, [], [], [], hW', trodAll_cons_mk (shut_bool Tryd.underlying4 _) trodAll_mk0, trodAll_cons_mk (shut_int Tryd.underlying2 w0) (trodAll_cons_mk (shut_int Tryd.underlying2 w1) (trodAll_mk0)), rfl, hg.frame _, fun h => by cases h⟩

theorem reads (os : Os) {H : Type} (enc : TypeId × Value → H) : ∃ places, DataW.whole enc Tryd.prog ((World.laidAll Tryd.prog os Rows.fnExactNewBoxRow.laid).forCall (fun _ _ => 0) ⟨#[], #[(.int .i64 0 : Value), (.int .i64 0 : Value)], []⟩).memory Tryd.f4.params.toList Rows.fnExactNewBoxSpec.vars false (#[(.int .i64 0 : Value), (.int .i64 0 : Value)] : Array Value).toList 8 = some ([.lit (.int .i64 0), .lit (.int .i64 0)], [], places) :=
  ⟨[], by kernel_rfl⟩

theorem laid_met (os : Os) : laidMetH Tryd.prog Rows.fnExactNewBoxRow.laid ((World.laidAll Tryd.prog os Rows.fnExactNewBoxRow.laid).forCall (fun _ _ => 0) ⟨#[], #[(.int .i64 0 : Value), (.int .i64 0 : Value)], []⟩).memory := by
  rw [MakeChecks.laidMetH_plain _ _ _ (by kernel_rfl)]
  exact laidMet_laidAll _ (by kernel_rfl) (by kernel_rfl)

set_option maxRecDepth 100000 in
theorem lifted (os : Os) (started : os.Started) (H : Type) (enc : TypeId × Value → H) (F : Stop.Interp) :
    ReturnsInHanded {} Tryd.checked os 4 .any ((OpenSpec.ofChange Rows.fnExactNewBoxSpec).preRow enc Tryd.prog Tryd.f4 Rows.fnExactNewBoxRow.domain false Rows.fnExactNewBoxRow.laid) (((OpenSpec.ofChange Rows.fnExactNewBoxSpec).at F).post enc Tryd.prog Tryd.f4 false true false false) := by
  obtain ⟨places, hx⟩ := reads os enc
  refine returnsInHanded_of_row (C := Tryd.checked) (s := OpenSpec.ofChange Rows.fnExactNewBoxSpec) own started (by kernel_rfl) Tryd.func4
    (witness_row_at (enc := enc) (C := Tryd.checked) false (World.laidAll Tryd.prog os Rows.fnExactNewBoxRow.laid) #[(.int .i64 0 : Value), (.int .i64 0 : Value)] (World.laidAll_os _ _ _) (by kernel_rfl) (by kernel_rfl) (by kernel_rfl)
      (OpenSpec.preRow_of_cond 8 hx (by kernel_rfl) (fun k hk => by cases hk) (by kernel_rfl) (laid_met os))) ?_
  intro W base args ds gs before hval hW _ _ _ _ hsh _
  exact contract H enc W base args ds gs before hval hW hsh

theorem said : Rows.FnExactNewBoxSaid :=
  OpenClaim.holds_of_cond 4 Tryd.f4 rfl rfl rfl rfl rfl rfl rfl ⟨rfl, rfl, rfl, rfl, rfl⟩ rfl rfl rfl rfl rfl (by kernel_rfl) Tryd.func4 (by kernel_rfl)
    (of_decide_eq_true (by kernel_rfl)) (by unfold Func.isWrapper; first | (rw [if_pos (by decide +kernel)]; kernel_rfl) | (rw [if_neg (by decide +kernel)]; exact ⟨rfl, rfl⟩))
    (fun os started H enc _ F => by rw [OpenClaim.pre_eq_preRow]; exact lifted os started H enc F)

theorem plain (f : FuncId) (fn : Func) (hf : Tryd.pinned.checked.prog.funcNamed Tryd.f4.name = some f) (hfn : Tryd.pinned.checked.prog.funcs[f]? = some fn) :
    ∀ (j : Nat) t, fn.params[j]? = some t → Tryd.pinned.checked.prog.wantsStandIn t = false := by
  obtain rfl : f = 4 := Option.some.inj ((show Tryd.prog.funcNamed Tryd.f4.name = some 4 by kernel_rfl).symm.trans hf) |>.symm
  obtain rfl : fn = Tryd.f4 := (Option.some.inj (Tryd.func4.symm.trans hfn)).symm
  intro j t ht
  rw [Tryd.params4] at ht
  have hm := Array.mem_of_getElem? ht
  have hall : (Tryd.f4.params.all fun u => !Tryd.prog.wantsStandIn u) = true := by kernel_rfl
  rw [Tryd.params4] at hall
  rw [Array.all_eq_true_iff_forall_mem] at hall
  have := hall t hm
  exact (show Tryd.prog.wantsStandIn t = false by simpa using this)

theorem card : Rows.FnExactNewBoxCardSaid :=
  Claim7.holds_tied_plain_at .later [] _ _ _ _ said (fun _ h => by cases h) (by kernel_rfl) (fun _ h => by cases h) fnExactNewBox_row_tie rfl ⟨rfl, rfl⟩ (by kernel_rfl) rfl (fun f fn hf hfn => ⟨by kernel_rfl, plain f fn hf hfn⟩) (by kernel_rfl)
end Go.Proofs.YtgmlohgfkbjmlaaDoor.lawFnExactNewBox
