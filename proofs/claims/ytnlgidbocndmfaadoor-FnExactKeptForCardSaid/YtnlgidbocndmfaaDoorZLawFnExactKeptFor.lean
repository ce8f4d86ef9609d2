/- The law FnExactKeptFor holds at every argument: for every input it returns true and leaves the input as it was. -/
import Derived.Test.YtnlgidbocndmfaaDoorZB1
import Derived.Test.YtnlgidbocndmfaaDoorZIKeptF
import Derived.Test.YtnlgidbocndmfaaDoorZSKeptF
import Derived.Test.YtnlgidbocndmfaaDoorZMsgT
import Derived.Test.YtnlgidbocndmfaaDoorZB2
import Derived.Test.YtnlgidbocndmfaaDoorZMPart
set_option linter.unusedSimpArgs false
set_option linter.unusedVariables false
namespace Go.Proofs.YtnlgidbocndmfaaDoor.lawFnExactKeptFor
open Go.ChangeShapes Go.WideShapes Go.ChangeAt Go.RowKit Go.WideMaps Go.WideElems
open Go.ChangeMaps (open_string shut_string)

set_option maxRecDepth 100000 in
set_option maxHeartbeats 3200000 in
theorem law (w : World) (v : Value) (l : List MsgM) (hv : MsgsAt w v l) (hp : ∀ y ∈ l, y.2.2.1.size ≤ maxLen) (f : ByteArray) (hf : f.size ≤ maxLen) (m : Int) (hm : w.cell? ⟨0, 0, none⟩ = some (.int .i64 m)) :
    Calls Tryd.prog 5 #[v, .string f] w fun e w' => e = .returned (.bool true) ∧ Below w.heap.size w w' := by
  have cz := szMsgs_any v l 1048576 w (by omega) (by omega) hp hv
  have HV := Lib.hid hv
  unfold maxLen at hf
  by_cases hfl : 1048576 < f.size
  · obtain ⟨a, c, rfl, _, _, _⟩ := hv
    have g0 : decide ((1048576 : Int) < (f.size : Int)) = true := decide_eq_true (by omega)
    go_enter Tryd.func5, Tryd.ntmps5
    go_wp2
    go_ret
    exact ⟨rfl, Below.refl _ _⟩
  have g0 : decide ((1048576 : Int) < (f.size : Int)) = false := decide_eq_false (by omega)
  have hf1 : f.size ≤ 1048576 := by omega
  by_cases hz : szMs l 1048576 < 0
  · have g1 : decide (szMs l 1048576 < 0) = true := decide_eq_true hz
    obtain ⟨a, c, rfl, _, _, _⟩ := hv
    go_enter Tryd.func5, Tryd.ntmps5
    go_wp2_with fail
    refine cz.mono ?_
    clear cz
    rintro e w1 ⟨rfl, b1⟩
    have B1 := Lib.hid b1
    clear b1
    go_wp2
    go_ret
    exact ⟨rfl, B1.out⟩
  have g1 : decide (szMs l 1048576 < 0) = false := decide_eq_false hz
  obtain ⟨hlen, hall⟩ := szMs_small (by omega) (show 0 ≤ szMs l 1048576 by omega)
  have hl : l.length ≤ 1048576 := by omega
  have hs : ∀ x ∈ l, x.2.2.1.size ≤ 1048576 := fun x hx => by have := hall x hx; omega
  obtain ⟨L, hL⟩ : ∃ L, forM l f = L := ⟨_, rfl⟩
  have hLl : L.length ≤ 1048576 := by have := forM_len l f; rw [hL] at this; omega
  have CT := Lib.hid (fun wx (h : MsgsAt wx v l) => toMsgs_any v l wx (by omega) h)
  have CS := Lib.hid (fun u wx (h : MsgsAt wx u l) => specKeptFor_any u l f wx hl hs hf1 h)
  have CI := Lib.hid (fun u wx (h : MsgsAt wx u l) h2 => implKeptFor_any u l f m wx hl hs hf1 h h2)
  have CQ := Lib.hid (fun u1 u2 wx (h1 : MsgsAt wx u1 l) (h2 : MsgsAt wx u2 l) => eqMsgs_any u1 u2 l wx (by omega) h1 h2)
  have CE := Lib.hid (fun u1 u2 wx (h1 : MsgsAt wx u1 L) (h2 : MsgsAt wx u2 L) => eqMsgs_any u1 u2 L wx (by omega) h1 h2)
  have CK := Lib.hid (fun u B wx (h : MOwn wx B u l) => markMsgs_any u l 1 B wx (Nat.le_refl _) (by omega) h)
  have HL8 := Lib.hid (show 1 + L.length * 4 ≤ 8000000 by omega)
  have CH := Lib.hid (fun u wx (h : MsgsAt wx u (mmarks 1 L.length)) => heldMsgs_any u 1 L.length wx (Nat.le_refl _) (by omega) h)
  simp only [hL] at CS CI
  obtain ⟨z, hz2⟩ : ∃ z, szMs l 1048576 = z := ⟨_, rfl⟩
  simp only [hz2] at g1 cz
  obtain ⟨kx, hkx⟩ : ∃ kx, ((1 + l.length * 4 : Nat) : Int) = kx := ⟨_, rfl⟩
  have g2 : decide (kx < 0) = false := decide_eq_false (by omega)
  simp only [hkx] at CK
  obtain ⟨ky, hky⟩ : ∃ ky, ((1 + L.length * 4 : Nat) : Int) = ky := ⟨_, rfl⟩
  have g3 : decide (ky < 0) = false := decide_eq_false (by omega)
  have g4 : (ky != ky) = false := by simp
  simp only [hky] at CH
  have HM := Lib.hid hm
  have hlt : 0 < w.heap.size := World.block_lt_of_cell? _ _ hm
  obtain ⟨a, c, rfl, _, _, _⟩ := hv
  clear hm hz hz2 hlen hall hl hs hp hL hLl hkx hf hf1 hfl
  go_enter Tryd.func5, Tryd.ntmps5
  have S0 := Lib.hid (Held.start w)
  go_wp2_with fail
  refine (cz).mono ?_
  rintro e w1 ⟨rfl, b1⟩
  have S1 := Lib.hid (S0.out.below b1)
  clear b1 S0
  go_wp2_with fail
  refine (CT.out w1 (HV.out.below S1.out.bw)).mono ?_
  rintro e w2 ⟨u2, rfl, k2, b2⟩
  have K2 := Lib.hid (own_msgs_at k2); obtain ⟨a2, c2, hu2⟩ := own_slice k2; subst hu2; clear k2
  have S2 := Lib.hid (S1.out.below b2)
  clear b2 S1
  go_wp2_with fail
  refine (CS.out _ w2 K2.out).mono ?_
  rintro e w3 ⟨u3, rfl, k3, b3⟩
  obtain ⟨a3, c3, hu3⟩ := own_slice k3; subst hu3
  have S3 := Lib.hid (S2.out.pushRow b3 k3 (by simp))
  clear b3 S2 K2
  go_wp2_with fail
  refine (CT.out w3 (HV.out.below S3.out.bw)).mono ?_
  rintro e w4 ⟨u4, rfl, k4, b4⟩
  obtain ⟨a4, c4, hu4⟩ := own_slice k4; subst hu4
  have S4 := Lib.hid (S3.out.pushRow b4 k4 (by simp))
  clear b4 S3
  go_wp2_with fail
  refine (CI.out _ w4 (own_msgs_at (show MOwn w4 w3.heap.size (.slice a4 l.length c4) l from (S4.out.row ⟨w3.heap.size, 34, 4, (.slice a4 l.length c4), l.length, mcells l⟩ (by simp)).1)) ((S4.out.bw.cell hlt).trans HM.out)).mono ?_
  rintro e w6 ⟨V6, u6, pre6, post6, rfl, k6, pt6, b6⟩
  obtain ⟨X6, Y6, hX6, hY6, at6, mk6, my6⟩ := part_kit (post := post6) pt6 HL8.out
  obtain ⟨a6, c6, hu6⟩ := pt6.slice; subst hu6
  simp only [hky] at mk6
  rw [hX6] at k6
  have AT6 := Lib.hid at6
  have MK6 := Lib.hid mk6
  have MY6 := Lib.hid my6
  have HY6 := Lib.hid hY6
  clear at6 mk6 my6 hY6 hX6 pt6
  have S6 := Lib.hid (S4.out.pushRow b6 k6 (by simp))
  clear b6 S4
  go_wp2_with fail
  refine (CE.out _ _ w6 (AT6.out _ _ (show MOwn w6 w4.heap.size V6 X6 from (S6.out.row ⟨w4.heap.size, 34, 4, V6, X6.length, mcells X6⟩ (by simp)).1)) (own_msgs_at (show MOwn w6 w2.heap.size (.slice a3 L.length c3) L from (S6.out.row ⟨w2.heap.size, 34, 4, (.slice a3 L.length c3), L.length, mcells L⟩ (by simp)).1))).mono ?_
  rintro e w7 ⟨rfl, b7⟩
  have S7 := Lib.hid (S6.out.below b7)
  clear b7 S6
  go_wp2_with fail
  refine (CT.out w7 (HV.out.below S7.out.bw)).mono ?_
  rintro e w8 ⟨u8, rfl, k8, b8⟩
  have K8 := Lib.hid (own_msgs_at k8); obtain ⟨a8, c8, hu8⟩ := own_slice k8; subst hu8; clear k8
  have S8 := Lib.hid (S7.out.below b8)
  clear b8 S7
  go_wp2_with fail
  refine (CQ.out _ _ w8 (own_msgs_at (show MOwn w8 w3.heap.size (.slice a4 l.length c4) l from (S8.out.row ⟨w3.heap.size, 34, 4, (.slice a4 l.length c4), l.length, mcells l⟩ (by simp)).1)) K8.out).mono ?_
  rintro e w9 ⟨rfl, b9⟩
  have S9 := Lib.hid (S8.out.below b9)
  clear b9 S8
  go_wp2_with fail
  refine (CK.out _ _ _ (show MOwn w9 w3.heap.size (.slice a4 l.length c4) l from (S9.out.row ⟨w3.heap.size, 34, 4, (.slice a4 l.length c4), l.length, mcells l⟩ (by simp)).1)).mono ?_
  rintro e w10 ⟨rfl, k10, g10⟩
  have S10 := Lib.hid (S9.out.mark 1 (by simp) rfl g10 (mcells (mmarks 1 l.length)) (by have h := k10; unfold MOwn at h; rw [mmarks_length] at h; exact h))
  clear S9 k10 g10 K8
  simp only [List.set_cons_succ, List.set_cons_zero, List.getElem_cons_succ, List.getElem_cons_zero] at S10
  go_wp2_with fail
  refine (CE.out _ _ w10 (AT6.out _ _ (show MOwn w10 w4.heap.size V6 X6 from (S10.out.row ⟨w4.heap.size, 34, 4, V6, X6.length, mcells X6⟩ (by simp)).1)) (own_msgs_at (show MOwn w10 w2.heap.size (.slice a3 L.length c3) L from (S10.out.row ⟨w2.heap.size, 34, 4, (.slice a3 L.length c3), L.length, mcells L⟩ (by simp)).1))).mono ?_
  rintro e w11 ⟨rfl, b11⟩
  have S11 := Lib.hid (S10.out.below b11)
  clear b11 S10
  go_wp2_with fail
  refine (MK6.out _ _ (show MOwn w11 w4.heap.size V6 X6 from (S11.out.row ⟨w4.heap.size, 34, 4, V6, X6.length, mcells X6⟩ (by simp)).1)).mono ?_
  rintro e w12 ⟨rfl, k12, g12⟩
  have S12 := Lib.hid (S11.out.mark 0 (by simp) rfl g12 (mcells Y6) (by have h := k12; unfold MOwn at h; rw [HY6.out] at h; exact h))
  clear S11 k12 g12
  simp only [List.set_cons_succ, List.set_cons_zero, List.getElem_cons_succ, List.getElem_cons_zero] at S12
  go_wp2_with fail
  refine (CH.out _ w12 (MY6.out _ _ (show MOwn w12 w4.heap.size V6 Y6 from by have h := (S12.out.row ⟨w4.heap.size, 34, 4, V6, X6.length, mcells Y6⟩ (by simp)).1; unfold MOwn; rw [HY6.out]; exact h))).mono ?_
  rintro e w13 ⟨rfl, b13⟩
  have S13 := Lib.hid (S12.out.below b13)
  clear b13 S12
  go_wp2_with fail
  refine (CT.out w13 (HV.out.below S13.out.bw)).mono ?_
  rintro e w14 ⟨u14, rfl, k14, b14⟩
  have K14 := Lib.hid (own_msgs_at k14); obtain ⟨a14, c14, hu14⟩ := own_slice k14; subst hu14; clear k14
  have S14 := Lib.hid (S13.out.below b14)
  clear b14 S13
  go_wp2_with fail
  refine (CI.out _ w14 K14.out ((S14.out.bw.cell hlt).trans HM.out)).mono ?_
  rintro e w15 ⟨V15, u15, pre15, post15, rfl, k15, pt15, b15⟩
  have K15 := Lib.hid (part_at k15 pt15); obtain ⟨a15, c15, hu15⟩ := pt15.slice; subst hu15; clear k15 pt15 K14
  have S15 := Lib.hid (S14.out.below b15)
  clear b15 S14
  go_wp2_with fail
  refine (CE.out _ _ w15 K15.out (own_msgs_at (show MOwn w15 w2.heap.size (.slice a3 L.length c3) L from (S15.out.row ⟨w2.heap.size, 34, 4, (.slice a3 L.length c3), L.length, mcells L⟩ (by simp)).1))).mono ?_
  rintro e w16 ⟨rfl, b16⟩
  have S16 := Lib.hid (S15.out.below b16)
  clear b16 S15
  go_wp2_with fail
  refine (CH.out _ w16 (MY6.out _ _ (show MOwn w16 w4.heap.size V6 Y6 from by have h := (S16.out.row ⟨w4.heap.size, 34, 4, V6, X6.length, mcells Y6⟩ (by simp)).1; unfold MOwn; rw [HY6.out]; exact h))).mono ?_
  rintro e w17 ⟨rfl, b17⟩
  have S17 := Lib.hid (S16.out.below b17)
  clear b17 S16
  go_wp2
  go_ret
  exact ⟨rfl, S17.out.bw⟩

set_option maxRecDepth 100000 in
theorem contract (H : Type) (enc : TypeId × Value → H) (W : World) (base : Nat) (args : Array Value) (ds gs : List (DataW H)) (before : List MemPlace)
    (hval : ∀ (j : Nat) t v, Tryd.f5.params[j]? = some t → args[j]? = some v → Value.okWide Tryd.prog W .any base t v)
    (hW : DataW.Whole enc Tryd.prog Tryd.f5.params.toList Rows.fnExactKeptForSpec.vars false W args.toList ds gs before) (hsh : W.ShapedOpen Tryd.prog) :
    Calls Tryd.prog 5 args W fun e W' => ∃ v, e = .returned v ∧ Rows.fnExactKeptForSpec.post enc Tryd.prog Tryd.f5 false true false false W args v W' := by
  have hW' := hW
  obtain ⟨p, q, hA0, hV, rfl, hfz, hnd⟩ := hW
  have hA : DataW.TrodAll enc Tryd.prog W 0 (fun _ => true) true Tryd.f5.params.toList args.toList ds p := hA0
  rw [Tryd.params5] at hA hval
  obtain ⟨v0, vs0, d0, ds0, p0, q0, hargs, rfl, rfl, h0, r0⟩ := trodAll_cons hA
  obtain ⟨v1, vs1, d1, ds1, p1, q1, rfl, rfl, rfl, h1, r1⟩ := trodAll_cons r0
  obtain ⟨rfl, rfl, rfl⟩ := trodAll_nil r1
  obtain rfl : args = #[v0, v1] := by cases args; simp_all
  obtain ⟨rfl, rfl⟩ := trodVars_none hV
  obtain ⟨a0, len0, cap0, rfl⟩ := okWide_slice Tryd.underlying22 (hval 0 22 v0 rfl rfl)
  have k0 := h0
  have lt0 : ∀ x ∈ p0, x.block < W.heap.size := by obtain ⟨m, hm⟩ := k0; exact DataW.trod_lt m _ _ _ hm
  have w0 : ∃ l, MsgsAt W (.slice a0 len0 cap0) l ∧ ∀ y ∈ l, y.2.2.1.size ≤ maxLen := by
    obtain ⟨fuel, hf⟩ := h0
    obtain ⟨v, l, hcs, hk, hs⟩ := msgs_read Tryd.underlying22 Tryd.underlying30 (by kernel_rfl) ⟨rfl, rfl⟩ ⟨rfl, rfl⟩ ⟨rfl, rfl⟩ ⟨rfl, rfl⟩ Tryd.underlying2 (by kernel_rfl) Tryd.underlying9 (by kernel_rfl) hf
    simp [Value.cells] at hcs
    subst hcs
    exact ⟨l, hk, hs⟩
  obtain ⟨l0, w0, s0⟩ := w0
  obtain ⟨a1, rfl, rfl, rfl, w1⟩ := open_string Tryd.underlying9 (hval 1 9 v1 rfl rfl) h1
  clear hA0
  simp only [List.append_nil] at hW'
  obtain ⟨m, hm⟩ := maxLen_cell hsh
  refine (law W _ l0 w0 s0 a1 w1 m hm).mono fun e W' ⟨he, hg⟩ => ?_
  subst he
  exact ⟨_, rfl, _, _, _, [], _, [], hW', trodAll_cons_mk (shut_bool Tryd.underlying4 _) trodAll_mk0, trodAll_cons_mk (Below.trod laidOut (by kernel_rfl) (of_decide_eq_true (by kernel_rfl)) k0 hg lt0) (trodAll_cons_mk (shut_string Tryd.underlying9 w1) (trodAll_mk0)), rfl, hg.frame _, fun h => by cases h⟩

theorem reads (os : Os) {H : Type} (enc : TypeId × Value → H) : ∃ places, DataW.whole enc Tryd.prog ((World.laidAll Tryd.prog os Rows.fnExactKeptForRow.laid).forCall (fun _ _ => 0) ⟨#[], #[(.slice none 0 0 : Value), (.string ByteArray.empty : Value)], []⟩).memory Tryd.f5.params.toList Rows.fnExactKeptForSpec.vars false (#[(.slice none 0 0 : Value), (.string ByteArray.empty : Value)] : Array Value).toList 8 = some ([.nil, .lit (.string [])], [], places) :=
  ⟨[], by kernel_rfl⟩

theorem laid_met (os : Os) : laidMetH Tryd.prog Rows.fnExactKeptForRow.laid ((World.laidAll Tryd.prog os Rows.fnExactKeptForRow.laid).forCall (fun _ _ => 0) ⟨#[], #[(.slice none 0 0 : Value), (.string ByteArray.empty : Value)], []⟩).memory := by
  rw [MakeChecks.laidMetH_plain _ _ _ (by kernel_rfl)]
  exact laidMet_laidAll _ (by kernel_rfl) (by kernel_rfl)

set_option maxRecDepth 100000 in
theorem lifted (os : Os) (started : os.Started) (H : Type) (enc : TypeId × Value → H) (F : Stop.Interp) :
    ReturnsInHanded {} Tryd.checked os 5 .any ((OpenSpec.ofChange Rows.fnExactKeptForSpec).preRow enc Tryd.prog Tryd.f5 Rows.fnExactKeptForRow.domain false Rows.fnExactKeptForRow.laid) (((OpenSpec.ofChange Rows.fnExactKeptForSpec).at F).post enc Tryd.prog Tryd.f5 false true false false) := by
  obtain ⟨places, hx⟩ := reads os enc
  refine returnsInHanded_of_row (C := Tryd.checked) (s := OpenSpec.ofChange Rows.fnExactKeptForSpec) own started (by kernel_rfl) Tryd.func5
    (witness_row_at (enc := enc) (C := Tryd.checked) false (World.laidAll Tryd.prog os Rows.fnExactKeptForRow.laid) #[(.slice none 0 0 : Value), (.string ByteArray.empty : Value)] (World.laidAll_os _ _ _) (by kernel_rfl) (by kernel_rfl) (by kernel_rfl)
      (OpenSpec.preRow_of_cond 8 hx (by kernel_rfl) (fun k hk => by cases hk) (by kernel_rfl) (laid_met os))) ?_
  intro W base args ds gs before hval hW _ _ _ _ hsh _
  exact contract H enc W base args ds gs before hval hW hsh

theorem said : Rows.FnExactKeptForSaid :=
  OpenClaim.holds_of_cond 5 Tryd.f5 rfl rfl rfl rfl rfl rfl rfl ⟨rfl, rfl, rfl, rfl, rfl⟩ rfl rfl rfl rfl rfl (by kernel_rfl) Tryd.func5 (by kernel_rfl)
    (of_decide_eq_true (by kernel_rfl)) (by unfold Func.isWrapper; first | (rw [if_pos (by decide +kernel)]; kernel_rfl) | (rw [if_neg (by decide +kernel)]; exact ⟨rfl, rfl⟩))
    (fun os started H enc _ F => by rw [OpenClaim.pre_eq_preRow]; exact lifted os started H enc F)

theorem plain (f : FuncId) (fn : Func) (hf : Tryd.pinned.checked.prog.funcNamed Tryd.f5.name = some f) (hfn : Tryd.pinned.checked.prog.funcs[f]? = some fn) :
    false = Tryd.pinned.checked.prog.looks [] ∧ ∀ (j : Nat) t, fn.params[j]? = some t → Tryd.pinned.checked.prog.wantsStandIn t = false := by
  obtain rfl : f = 5 := Option.some.inj ((show Tryd.prog.funcNamed Tryd.f5.name = some 5 by kernel_rfl).symm.trans hf) |>.symm
  obtain rfl : fn = Tryd.f5 := (Option.some.inj (Tryd.func5.symm.trans hfn)).symm
  refine ⟨by kernel_rfl, fun j t ht => ?_⟩
  rw [Tryd.params5] at ht
  have hm := Array.mem_of_getElem? ht
  have hall : (Tryd.f5.params.all fun u => !Tryd.prog.wantsStandIn u) = true := by kernel_rfl
  rw [Tryd.params5] at hall
  rw [Array.all_eq_true_iff_forall_mem] at hall
  have := hall t hm
  exact (show Tryd.prog.wantsStandIn t = false by simpa using this)

theorem card : Rows.FnExactKeptForCardSaid :=
  Claim7.holds_tied_plain_at .later [] _ _ _ _ said (fun _ h => by cases h) (by kernel_rfl) (fun _ h => by cases h) fnExactKeptFor_row_tie rfl ⟨rfl, rfl⟩ (by kernel_rfl) rfl plain (by kernel_rfl)
end Go.Proofs.YtnlgidbocndmfaaDoor.lawFnExactKeptFor
