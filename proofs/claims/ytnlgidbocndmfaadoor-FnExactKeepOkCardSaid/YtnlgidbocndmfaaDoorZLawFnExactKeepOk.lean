/- The law FnExactKeepOk holds at every argument: for every input it returns true and leaves the input as it was. -/
import Derived.Test.YtnlgidbocndmfaaDoorZB1
import Derived.Test.YtnlgidbocndmfaaDoorZB2
import Derived.Test.YtnlgidbocndmfaaDoorZSKeep
import Derived.Test.YtnlgidbocndmfaaDoorZMsgT
set_option linter.unusedSimpArgs false
set_option linter.unusedVariables false
namespace Go.Proofs.YtnlgidbocndmfaaDoor.lawFnExactKeepOk
open Go.ChangeShapes Go.WideShapes Go.ChangeAt Go.RowKit Go.WideMaps Go.WideElems
open Go.ChangeMaps (open_string shut_string)

set_option maxHeartbeats 1600000 in
theorem law (w : World) (v : Value) (l : List MsgM) (hv : MsgsAt w v l) (hp : ∀ y ∈ l, y.2.2.1.size ≤ maxLen) (m : Int) (hm : w.cell? ⟨0, 0, none⟩ = some (.int .i64 m)) :
    Calls Tryd.prog 3 #[v] w fun e w' => e = .returned (.bool true) ∧ Below w.heap.size w w' := by
  have cz := szMsgs_any v l 1048576 w (by omega) (by omega) hp hv
  by_cases hz : szMs l 1048576 < 0
  · have g1 : decide (szMs l 1048576 < 0) = true := decide_eq_true hz
    obtain ⟨a, c, rfl, _, _, _⟩ := hv
    go_enter Tryd.func3, Tryd.ntmps3
    go_wp2_with fail
    refine cz.mono ?_
    clear cz
    rintro e w1 ⟨rfl, b1⟩
    have B1 := Lib.hid b1
    clear b1
    go_wp2
    go_ret
    exact ⟨rfl, B1.out⟩
  have g1 : decide (szMs l 1048576 < 0) = false := decide_eq_false hz
  obtain ⟨hlen, hall⟩ := szMs_small (by omega) (show 0 ≤ szMs l 1048576 by omega)
  have hl : l.length ≤ 1048576 := by omega
  have hs : ∀ x ∈ l, x.2.2.1.size ≤ 1048576 := fun x hx => by have := hall x hx; omega
  have CT := Lib.hid (fun wx (h : MsgsAt wx v l) => toMsgs_any v l wx (by omega) h)
  have CS := Lib.hid (fun u wx (h : MsgsAt wx u l) => specKeepOk_any u l wx hl hs h)
  have CI := Lib.hid (fun u wx (h : MsgsAt wx u l) h2 => implKeepOk_any u l m wx hl hs h h2)
  have CE := Lib.hid (fun u1 u2 wx (h1 : MsgsAt wx u1 l) (h2 : MsgsAt wx u2 l) => eqMsgs_any u1 u2 l wx (by omega) h1 h2)
  obtain ⟨r, hr⟩ : ∃ r, keepB l = r := ⟨_, rfl⟩
  rw [hr] at CS CI
  obtain ⟨z, hz2⟩ : ∃ z, szMs l 1048576 = z := ⟨_, rfl⟩
  rw [hz2] at g1 cz
  have HV := Lib.hid hv
  have HM := Lib.hid hm
  have hlt : 0 < w.heap.size := World.block_lt_of_cell? _ _ hm
  obtain ⟨a, c, rfl, _, _, _⟩ := hv
  clear hr hm hz hz2 hlen hall hl hs hp
  go_enter Tryd.func3, Tryd.ntmps3
  go_wp2_with fail
  refine cz.mono ?_
  clear cz
  rintro e w1 ⟨rfl, b1⟩
  have B1 := Lib.hid b1
  clear b1
  go_wp2_with fail
  refine (CT.out w1 (HV.out.below B1.out)).mono ?_
  rintro e w2 ⟨u2, rfl, k2, b2⟩
  have K2 := Lib.hid (own_msgs_at k2)
  have B2 := Lib.hid (below_end B1.out b2)
  clear b2 k2 B1
  go_wp2_with fail
  refine (CS.out u2 w2 K2.out).mono ?_
  rintro e w3 ⟨rfl, b3⟩
  have B3 := Lib.hid (below_end B2.out b3)
  clear b3 K2 B2
  go_wp2_with fail
  refine (CT.out w3 (HV.out.below B3.out)).mono ?_
  rintro e w4 ⟨u4, rfl, k4, b4⟩
  have K4 := Lib.hid (own_msgs_at k4)
  have B4 := Lib.hid (below_end B3.out b4)
  clear b4 k4 B3
  go_wp2_with fail
  refine (CI.out u4 w4 K4.out ((B4.out.cell hlt).trans HM.out)).mono ?_
  rintro e w5 ⟨rfl, b5⟩
  have K5 := Lib.hid (K4.out.below b5)
  have B5 := Lib.hid (below_end B4.out b5)
  clear b5 K4 B4
  have e1 : (r != r) = false := by simp
  have e2 : (r == r) = true := by simp
  go_wp2_with fail
  refine (CT.out w5 (HV.out.below B5.out)).mono ?_
  rintro e w6 ⟨u6, rfl, k6, b6⟩
  have K6 := Lib.hid (own_msgs_at k6)
  have K7 := Lib.hid (K5.out.below b6)
  have B6 := Lib.hid (below_end B5.out b6)
  clear b6 k6 K5 B5
  go_wp2_with fail
  refine (CE.out u4 u6 w6 K7.out K6.out).mono ?_
  rintro e w7 ⟨rfl, b7⟩
  have B7 := Lib.hid (below_end B6.out b7)
  clear b7 K6 K7 B6
  go_wp2
  go_ret
  exact ⟨rfl, B7.out⟩

set_option maxRecDepth 100000 in
theorem contract (H : Type) (enc : TypeId × Value → H) (W : World) (base : Nat) (args : Array Value) (ds gs : List (DataW H)) (before : List MemPlace)
    (hval : ∀ (j : Nat) t v, Tryd.f3.params[j]? = some t → args[j]? = some v → Value.okWide Tryd.prog W .any base t v)
    (hW : DataW.Whole enc Tryd.prog Tryd.f3.params.toList Rows.fnExactKeepOkSpec.vars false W args.toList ds gs before) (hsh : W.ShapedOpen Tryd.prog) :
    Calls Tryd.prog 3 args W fun e W' => ∃ v, e = .returned v ∧ Rows.fnExactKeepOkSpec.post enc Tryd.prog Tryd.f3 false true false false W args v W' := by
  have hW' := hW
  obtain ⟨p, q, hA0, hV, rfl, hfz, hnd⟩ := hW
  have hA : DataW.TrodAll enc Tryd.prog W 0 (fun _ => true) true Tryd.f3.params.toList args.toList ds p := hA0
  rw [Tryd.params3] at hA hval
  obtain ⟨v0, vs0, d0, ds0, p0, q0, hargs, rfl, rfl, h0, r0⟩ := trodAll_cons hA
  obtain ⟨rfl, rfl, rfl⟩ := trodAll_nil r0
  obtain rfl : args = #[v0] := by cases args; simp_all
  obtain ⟨rfl, rfl⟩ := trodVars_none hV
  obtain ⟨a0, len0, cap0, rfl⟩ := okWide_slice Tryd.underlying22 (hval 0 22 v0 rfl rfl)
  have k0 := h0
  have lt0 : ∀ x ∈ p0, x.block < W.heap.size := by obtain ⟨m, hm⟩ := k0; exact DataW.trod_lt m _ _ _ hm
  have w0 : ∃ l, MsgsAt W (.slice a0 len0 cap0) l ∧ ∀ y ∈ l, y.2.2.1.size ≤ maxLen := by
    obtain ⟨fuel, hf⟩ := h0
    obtain ⟨v, l, hcs, hk, hs⟩ := msgs_read Tryd.underlying22 Tryd.underlying30 (by kernel_rfl) ⟨rfl, rfl⟩ ⟨rfl, rfl⟩ ⟨rfl, rfl⟩ ⟨rfl, rfl⟩ Tryd.underlying2 (by kernel_rfl) Tryd.underlying9 (by kernel_rfl) hf
    simp [Value.cells] at hcs
    subst hcs
    exact ⟨l, hk, hs⟩
  obtain ⟨l0, w0, s0⟩ := w0
  clear hA0
  simp only [List.append_nil] at hW'
  obtain ⟨m, hm⟩ := maxLen_cell hsh
  refine (law W _ l0 w0 s0 m hm).mono fun e W' ⟨he, hg⟩ => ?_
  subst he
  exact ⟨_, rfl, _, _, _, [], _, [], hW', trodAll_cons_mk (shut_bool Tryd.underlying4 _) trodAll_mk0, trodAll_cons_mk (Below.trod laidOut (by kernel_rfl) (of_decide_eq_true (by kernel_rfl)) k0 hg lt0) (trodAll_mk0), rfl, hg.frame _, fun h => by cases h⟩

theorem reads (os : Os) {H : Type} (enc : TypeId × Value → H) : ∃ places, DataW.whole enc Tryd.prog ((World.laidAll Tryd.prog os Rows.fnExactKeepOkRow.laid).forCall (fun _ _ => 0) ⟨#[], #[(.slice none 0 0 : Value)], []⟩).memory Tryd.f3.params.toList Rows.fnExactKeepOkSpec.vars false (#[(.slice none 0 0 : Value)] : Array Value).toList 8 = some ([.nil], [], places) :=
  ⟨[], by kernel_rfl⟩

theorem laid_met (os : Os) : laidMetH Tryd.prog Rows.fnExactKeepOkRow.laid ((World.laidAll Tryd.prog os Rows.fnExactKeepOkRow.laid).forCall (fun _ _ => 0) ⟨#[], #[(.slice none 0 0 : Value)], []⟩).memory := by
  rw [MakeChecks.laidMetH_plain _ _ _ (by kernel_rfl)]
  exact laidMet_laidAll _ (by kernel_rfl) (by kernel_rfl)

set_option maxRecDepth 100000 in
theorem lifted (os : Os) (started : os.Started) (H : Type) (enc : TypeId × Value → H) (F : Stop.Interp) :
    ReturnsInHanded {} Tryd.checked os 3 .any ((OpenSpec.ofChange Rows.fnExactKeepOkSpec).preRow enc Tryd.prog Tryd.f3 Rows.fnExactKeepOkRow.domain false Rows.fnExactKeepOkRow.laid) (((OpenSpec.ofChange Rows.fnExactKeepOkSpec).at F).post enc Tryd.prog Tryd.f3 false true false false) := by
  obtain ⟨places, hx⟩ := reads os enc
  refine returnsInHanded_of_row (C := Tryd.checked) (s := OpenSpec.ofChange Rows.fnExactKeepOkSpec) own started (by kernel_rfl) Tryd.func3
    (witness_row_at (enc := enc) (C := Tryd.checked) false (World.laidAll Tryd.prog os Rows.fnExactKeepOkRow.laid) #[(.slice none 0 0 : Value)] (World.laidAll_os _ _ _) (by kernel_rfl) (by kernel_rfl) (by kernel_rfl)
      (OpenSpec.preRow_of_cond 8 hx (by kernel_rfl) (fun k hk => by cases hk) (by kernel_rfl) (laid_met os))) ?_
  intro W base args ds gs before hval hW _ _ _ _ hsh _
  exact contract H enc W base args ds gs before hval hW hsh

theorem said : Rows.FnExactKeepOkSaid :=
  OpenClaim.holds_of_cond 3 Tryd.f3 rfl rfl rfl rfl rfl rfl rfl ⟨rfl, rfl, rfl, rfl, rfl⟩ rfl rfl rfl rfl rfl (by kernel_rfl) Tryd.func3 (by kernel_rfl)
    (of_decide_eq_true (by kernel_rfl)) (by unfold Func.isWrapper; first | (rw [if_pos (by decide +kernel)]; kernel_rfl) | (rw [if_neg (by decide +kernel)]; exact ⟨rfl, rfl⟩))
    (fun os started H enc _ F => by rw [OpenClaim.pre_eq_preRow]; exact lifted os started H enc F)

theorem plain (f : FuncId) (fn : Func) (hf : Tryd.pinned.checked.prog.funcNamed Tryd.f3.name = some f) (hfn : Tryd.pinned.checked.prog.funcs[f]? = some fn) :
    false = Tryd.pinned.checked.prog.looks [] ∧ ∀ (j : Nat) t, fn.params[j]? = some t → Tryd.pinned.checked.prog.wantsStandIn t = false := by
  obtain rfl : f = 3 := Option.some.inj ((show Tryd.prog.funcNamed Tryd.f3.name = some 3 by kernel_rfl).symm.trans hf) |>.symm
  obtain rfl : fn = Tryd.f3 := (Option.some.inj (Tryd.func3.symm.trans hfn)).symm
  refine ⟨by kernel_rfl, fun j t ht => ?_⟩
  rw [Tryd.params3] at ht
  have hm := Array.mem_of_getElem? ht
  have hall : (Tryd.f3.params.all fun u => !Tryd.prog.wantsStandIn u) = true := by kernel_rfl
  rw [Tryd.params3] at hall
  rw [Array.all_eq_true_iff_forall_mem] at hall
  have := hall t hm
  exact (show Tryd.prog.wantsStandIn t = false by simpa using this)

theorem card : Rows.FnExactKeepOkCardSaid :=
  Claim7.holds_tied_plain_at .later [] _ _ _ _ said (fun _ h => by cases h) (by kernel_rfl) (fun _ h => by cases h) fnExactKeepOk_row_tie rfl ⟨rfl, rfl⟩ (by kernel_rfl) rfl plain (by kernel_rfl)
end Go.Proofs.YtnlgidbocndmfaaDoor.lawFnExactKeepOk
