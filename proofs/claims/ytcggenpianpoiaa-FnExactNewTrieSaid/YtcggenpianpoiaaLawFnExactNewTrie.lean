/- The law FnExactNewTrie holds at every argument: for every input it returns true and leaves the input as it was. -/
import Derived.Test.YtcggenpianpoiaaLiftP
import Derived.Test.YtcggenpianpoiaaINew
import Derived.Test.YtcggenpianpoiaaSizeEq
import Derived.Test.YtcggenpianpoiaaKMark
import Derived.Test.YtcggenpianpoiaaSNew
namespace Go.Proofs.Ytcggenpianpoiaa.lawFnExactNewTrie
open Go.ChangeShapes Go.WideShapes Go.ChangeAt Go.RowKit Go.WideMaps Go.WideElems
open Go.ChangeMaps (open_string shut_string)

theorem kend_one : kend [knotZ] 1 = 2 := rfl

set_option maxHeartbeats 1600000 in
theorem law (w : World) :
    Calls Try.prog 3 #[] w fun e w' => e = .returned (.bool true) ∧ Below w.heap.size w w' := by
  have hz4 : ∀ x ∈ [knotZ], x.2.length ≤ 4000000 := fun x hx => by rw [List.mem_singleton.1 hx]; exact Nat.zero_le _
  have CE := Lib.hid (fun u1 u2 wx (h1 : KnotsAt wx u1 [knotZ]) (h2 : KnotsAt wx u2 [knotZ]) => eqKnots_any u1 u2 [knotZ] wx (by decide) hz4 h1 h2)
  have CK := Lib.hid (fun u us B wx (h : KOwnU wx B u [knotZ] us) => markKnots_any u [knotZ] us 1 B wx (by rw [kend_one]; omega) (Nat.le_refl _) h)
  have CH := Lib.hid (fun u wx (h : KnotsAt wx u (kmark [knotZ] 1)) => heldKnots_any u [knotZ] 1 wx (by rw [kend_one]; omega) (Nat.le_refl _) h)
  simp only [kend_one] at CK CH
  have e1 : ((2 : Int) != 2) = false := by decide
  clear hz4
  go_enter Try.func3, Try.ntmps3
  go_wp2_with fail
  refine (specNewTrie_any w).mono ?_
  rintro e w1 ⟨u0, rfl, k0, b1⟩
  have K0 := Lib.hid (own_knots_at k0)
  have B1 := Lib.hid b1
  clear b1 k0
  go_wp2_with fail
  refine (implNewTrie_any w1).mono ?_
  rintro e w2 ⟨u1, rfl, ⟨us, k1⟩, b2⟩
  have K1 := Lib.hid k1
  have L1 := Lib.hid k1.lt
  have C2 := Lib.hid b2
  clear b2 k1
  go_wp2_with fail
  refine (CE.out u1 u0 w2 (own_knots_at ⟨us, K1.out⟩) (K0.out.below C2.out)).mono ?_
  rintro e w3 ⟨rfl, b3⟩
  have K3 := Lib.hid (K1.out.below b3)
  have C3 := Lib.hid (C2.out.trans (b3.mono C2.out.size))
  clear b3 C2 K1
  go_wp2_with fail
  refine (CK.out u1 us w1.heap.size w3 K3.out).mono ?_
  rintro e w4 ⟨rfl, k4, g4⟩
  have K4 := Lib.hid k4
  have H4 := Lib.hid (own_knots_at ⟨us, k4⟩)
  have C4 := Lib.hid (C3.out.trans (g4.toBelow C3.out.size (fun x hx b hb => (L1.out x hx b hb).1)))
  clear k4 g4 C3 K3 CK
  go_wp2_with fail
  refine (CH.out u1 w4 H4.out).mono ?_
  rintro e w5 ⟨rfl, b5⟩
  have H5 := Lib.hid (H4.out.below b5)
  have C5 := Lib.hid (C4.out.trans (b5.mono C4.out.size))
  have B5 := Lib.hid (below_end B1.out C5.out)
  clear b5 C4 H4
  go_wp2_with fail
  refine (implNewTrie_any w5).mono ?_
  rintro e w6 ⟨u6, rfl, k6, b6⟩
  have K6 := Lib.hid (own_knots_at k6)
  have H6 := Lib.hid (H5.out.below b6)
  have C6 := Lib.hid (C5.out.trans (b6.mono C5.out.size))
  clear b6 k6 H5 C5 B5
  go_wp2_with fail
  refine (CE.out u6 u0 w6 K6.out (K0.out.below C6.out)).mono ?_
  rintro e w7 ⟨rfl, b7⟩
  have H7 := Lib.hid (H6.out.below b7)
  have C7 := Lib.hid (C6.out.trans (b7.mono C6.out.size))
  clear b7 H6 C6 K6 CE
  go_wp2_with fail
  refine (CH.out u1 w7 H7.out).mono ?_
  rintro e w8 ⟨rfl, b8⟩
  have B8 := Lib.hid (below_end B1.out (C7.out.trans (b8.mono C7.out.size)))
  clear b8 C7 H7 CH
  go_wp2
  go_ret
  exact ⟨rfl, B8.out⟩

set_option maxRecDepth 100000 in
theorem contract (H : Type) (enc : TypeId × Value → H) (W : World) (base : Nat) (args : Array Value) (ds gs : List (DataW H)) (before : List MemPlace)
    (hval : ∀ (j : Nat) t v, Try.f3.params[j]? = some t → args[j]? = some v → Value.okWide Try.prog W .any base t v)
    (hW : DataW.Whole enc Try.prog Try.f3.params.toList Rows.fnExactNewTrieSpec.vars false W args.toList ds gs before) (hsh : W.ShapedOpen Try.prog) :
    Calls Try.prog 3 args W fun e W' => ∃ v, e = .returned v ∧ Rows.fnExactNewTrieSpec.post enc Try.prog Try.f3 false true false false W args v W' := by
  have hW' := hW
  obtain ⟨p, q, hA0, hV, rfl, hfz, hnd⟩ := hW
  have hA : DataW.TrodAll enc Try.prog W 0 (fun _ => true) true Try.f3.params.toList args.toList ds p := hA0
  rw [Try.params3] at hA hval
  obtain ⟨hargs, rfl, rfl⟩ := trodAll_nil hA
  obtain rfl : args = #[] := by cases args; simp_all
  obtain ⟨rfl, rfl⟩ := trodVars_none hV
  clear hA0
  simp only [List.append_nil] at hW'
  refine (law W ).mono fun e W' ⟨he, hg⟩ => ?_
  subst he
  exact ⟨_, rfl, _, _, _, [], [], [], hW', trodAll_cons_mk (shut_bool Try.underlying4 _) trodAll_mk0, trodAll_mk0, rfl, hg.frame _, fun h => by cases h⟩

theorem reads (os : Os) {H : Type} (enc : TypeId × Value → H) : ∃ places, DataW.whole enc Try.prog ((World.laidAll Try.prog os Rows.fnExactNewTrieRow.laid).forCall (fun _ _ => 0) ⟨#[], #[], []⟩).memory Try.f3.params.toList Rows.fnExactNewTrieSpec.vars false (#[] : Array Value).toList 8 = some ([], [], places) :=
  ⟨[], by kernel_rfl⟩

theorem laid_met (os : Os) : laidMetH Try.prog Rows.fnExactNewTrieRow.laid ((World.laidAll Try.prog os Rows.fnExactNewTrieRow.laid).forCall (fun _ _ => 0) ⟨#[], #[], []⟩).memory := by
  rw [MakeChecks.laidMetH_plain _ _ _ (by kernel_rfl)]
  exact laidMet_laidAll _ (by kernel_rfl) (by kernel_rfl)

set_option maxRecDepth 100000 in
theorem lifted (os : Os) (started : os.Started) (H : Type) (enc : TypeId × Value → H) (F : Stop.Interp) :
    ReturnsInHanded {} Try.checked os 3 .any ((OpenSpec.ofChange Rows.fnExactNewTrieSpec).preRow enc Try.prog Try.f3 Rows.fnExactNewTrieRow.domain false Rows.fnExactNewTrieRow.laid) (((OpenSpec.ofChange Rows.fnExactNewTrieSpec).at F).post enc Try.prog Try.f3 false true false false) := by
  obtain ⟨places, hx⟩ := reads os enc
  refine returnsInHanded_of_row (C := Try.checked) (s := OpenSpec.ofChange Rows.fnExactNewTrieSpec) own started (by kernel_rfl) Try.func3
    (witness_row_at (enc := enc) (C := Try.checked) false (World.laidAll Try.prog os Rows.fnExactNewTrieRow.laid) #[] (World.laidAll_os _ _ _) (by kernel_rfl) (by kernel_rfl) (by kernel_rfl)
      (OpenSpec.preRow_of_cond 8 hx (by kernel_rfl) (fun k hk => by cases hk) (by kernel_rfl) (laid_met os))) ?_
  intro W base args ds gs before hval hW _ _ _ _ hsh _
  exact contract H enc W base args ds gs before hval hW hsh

theorem said : Rows.FnExactNewTrieSaid :=
  OpenClaim.holds_of_cond 3 Try.f3 rfl rfl rfl rfl rfl rfl rfl ⟨rfl, rfl, rfl, rfl, rfl⟩ rfl rfl rfl rfl rfl (by kernel_rfl) Try.func3 (by kernel_rfl)
    (of_decide_eq_true (by kernel_rfl)) (by unfold Func.isWrapper; first | (rw [if_pos (by decide +kernel)]; kernel_rfl) | (rw [if_neg (by decide +kernel)]; exact ⟨rfl, rfl⟩))
    (fun os started H enc _ F => by rw [OpenClaim.pre_eq_preRow]; exact lifted os started H enc F)

end Go.Proofs.Ytcggenpianpoiaa.lawFnExactNewTrie
