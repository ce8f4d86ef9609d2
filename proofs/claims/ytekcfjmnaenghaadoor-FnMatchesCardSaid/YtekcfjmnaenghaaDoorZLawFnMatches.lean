/- The law FnMatches holds at every argument: for every input it returns true and leaves the input as it was. -/
import Derived.Test.YtekcfjmnaenghaaDoorZB3
import Derived.Test.YtekcfjmnaenghaaDoorZIMatchC
import Derived.Test.YtekcfjmnaenghaaDoorZB2
set_option linter.unusedSimpArgs false
set_option linter.unusedVariables false
namespace Go.Proofs.YtekcfjmnaenghaaDoor.lawFnMatches
open Go.ChangeShapes Go.WideShapes Go.ChangeAt Go.RowKit Go.WideMaps Go.WideElems
open Go.ChangeMaps (open_string shut_string)

set_option maxHeartbeats 3200000 in
theorem law (w : World) (a : Option Addr) (len cap : Nat) (hc : CodeAt w.heap.size a len w) (m : Int) (hm : w.cell? ⟨0, 0, none⟩ = some (.int .i64 m)) :
    Calls Tryd.prog 3 #[.slice a len cap] w fun e w' => e = .returned (.bool true) ∧ Below w.heap.size w w' := by
  have HM := Lib.hid hm
  have hlt : 0 < w.heap.size := World.block_lt_of_cell? _ _ hm
  have HC := Lib.hid hc
  clear hm hc
  by_cases hb : 4096 < len
  · have cb := big_any a len cap w
    rw [decide_eq_true hb] at cb
    go_enter Tryd.func3, Tryd.ntmps3
    go_wp2_with fail
    refine cb.mono ?_
    rintro e w1 ⟨rfl, rfl⟩
    go_wp2
    go_ret
    exact ⟨rfl, Below.refl _ _⟩
  · have cb := big_any a len cap w
    rw [decide_eq_false hb] at cb
    go_enter Tryd.func3, Tryd.ntmps3
    go_wp2_with fail
    refine cb.mono ?_
    rintro e w0 ⟨rfl, rfl⟩
    clear cb
    go_wp2_with fail
    refine (drawMatches_any (by omega) HC.out).mono ?_
    rintro e w1 ⟨f, t, rfl, hf, ht, b1⟩
    have B1 := Lib.hid b1
    clear b1
    go_wp2_with fail
    refine (drawCovers_any (by omega) ((HC.out.below B1.out.block).mono B1.out.size)).mono ?_
    rintro e w2 ⟨p, q, rfl, hp, hq, b2⟩
    have B2 := Lib.hid (below_end B1.out b2)
    clear b2 B1
    have CS := Lib.hid (fun w' => specMatches_any f t w' (by omega) (by omega))
    have CI := Lib.hid (fun w' h => implMatches_any f t m w' (by omega) (by omega) h)
    have DS := Lib.hid (fun w' => specCovers_any p q w' (by omega) (by omega))
    have DI := Lib.hid (fun w' h => implCovers_any p q m w' (by omega) (by omega) h)
    obtain ⟨r1, hr1⟩ : ∃ r, matchB f t = r := ⟨_, rfl⟩
    obtain ⟨r2, hr2⟩ : ∃ r, coverB p q = r := ⟨_, rfl⟩
    simp only [hr1] at CS CI
    simp only [hr2] at DS DI
    clear hr1 hr2
    go_wp2_with fail
    refine (CI.out w2 ((B2.out.cell hlt).trans HM.out)).mono ?_
    rintro e w3 ⟨rfl, b3⟩
    have B3 := Lib.hid (below_end B2.out b3)
    clear b3 B2
    go_wp2_with fail
    refine (CS.out w3).mono ?_
    rintro e w4 ⟨rfl, b4⟩
    have B4 := Lib.hid (below_end B3.out b4)
    clear b4 B3 CI CS
    have e1 : (r1 == r1) = true := by simp
    have e2 : (r2 == r2) = true := by simp
    go_wp2_with fail
    refine (DI.out w4 ((B4.out.cell hlt).trans HM.out)).mono ?_
    rintro e w5 ⟨rfl, b5⟩
    have B5 := Lib.hid (below_end B4.out b5)
    clear b5 B4
    go_wp2_with fail
    refine (DS.out w5).mono ?_
    rintro e w6 ⟨rfl, b6⟩
    have B6 := Lib.hid (below_end B5.out b6)
    clear b6 B5 DI DS
    go_wp2_with fail
    refine (roll_any a len cap 3 w6 (by omega) (by omega) ((HC.out.below B6.out.block).mono B6.out.size)).mono ?_
    rintro e w7 ⟨rfl, d7, b7, hs7⟩
    have R7 := Lib.hid (show Rolls w6.heap.size a len cap w7 from ⟨d7, ((HC.out.below B6.out.block).mono B6.out.size).below b7.block⟩)
    have B7 := Lib.hid (below_end B6.out b7)
    have hw6 : w.heap.size ≤ w6.heap.size := B6.out.size
    clear d7 b7 hs7 B6
    generalize w6.heap.size = g at R7 hw6 ⊢
    go_wp2_with fail
    refine (filter_any R7.out).mono ?_
    rintro e w8 ⟨p2, rfl, hp2, r8, g8⟩
    have R8 := Lib.hid r8
    have B8 := Lib.hid (B7.out.grown g8 B7.out.size (fun k hk => by cases hk; exact hw6))
    clear r8 g8 R7 B7
    go_wp2_with fail
    refine (filter_any R8.out).mono ?_
    rintro e w9 ⟨q2, rfl, hq2, r9, g9⟩
    have R9 := Lib.hid r9
    have B9 := Lib.hid (B8.out.grown g9 B8.out.size (fun k hk => by cases hk; exact hw6))
    clear r9 g9 R8 B8
    have hps := hp2.2
    have hqs := hq2.2
    have HP := Lib.hid hp2.1
    have HQ := Lib.hid hq2.1
    clear hp2 hq2
    obtain ⟨c, hc⟩ : ∃ c, coverB p2 q2 = c := ⟨_, rfl⟩
    have HCV := Lib.hid hc
    have CPQ := Lib.hid (fun w' h => by have := implCovers_any p2 q2 m w' (by omega) (by omega) h; rw [hc] at this; exact this)
    clear hc
    go_wp2_with fail
    go_loopw [10] (fun i wr => ∃ k : Nat, k ≤ 12 ∧ i = .int .i64 k ∧ Hid (Rolls g a len cap wr) ∧ Hid (Below w.heap.size w wr)) (fun i _ => 12 - (intOf i).toNat)
    case atStart => exact ⟨0, by omega, rfl, R9, B9⟩
    case round =>
      obtain ⟨k, hk, rfl, HR, HB⟩ := hrel
      clear R9 B9
      by_cases hkl : k < 12
      · go_wp2_with fail
        refine (topic_any HR.out).mono ?_
        rintro e v1 ⟨x, n, rfl, hn, hx, hxs, r1, g1⟩
        have HX : Hid (topicP (parts x 47) = true ∧ filterP (parts x 47) = true) := Lib.hid ⟨hx.topic (by omega), hx.filter (by omega)⟩
        have V1 := Lib.hid r1
        have U1 := Lib.hid (HB.out.grown g1 HB.out.size (fun k hk => by cases hk; exact hw6))
        clear hx hn r1 g1 HR HB
        have c1 := fun w' h => implMatches_any x x m w' (by omega) (by omega) h
        simp only [matchB_self HX.out.1 HX.out.2] at c1
        have C1 := Lib.hid c1
        have c2 := fun w' h => implMatches_any ⟨#[35]⟩ x m w' (by decide) (by omega) h
        simp only [matchB_all HX.out.1] at c2
        have C2 := Lib.hid c2
        clear c1 c2
        go_wp2_with fail
        refine (C1.out v1 ((U1.out.cell hlt).trans HM.out)).mono ?_
        rintro e v2 ⟨rfl, b2⟩
        have V2 := Lib.hid (V1.out.after b2)
        have U2 := Lib.hid (below_end U1.out b2)
        clear b2 V1 U1 C1
        go_wp2_with fail
        refine (C2.out v2 ((U2.out.cell hlt).trans HM.out)).mono ?_
        rintro e v3 ⟨rfl, b3⟩
        have V3 := Lib.hid (V2.out.after b3)
        have U3 := Lib.hid (below_end U2.out b3)
        clear b3 V2 U2 C2
        go_wp2_with fail
        refine (CPQ.out v3 ((U3.out.cell hlt).trans HM.out)).mono ?_
        rintro e v4 ⟨rfl, b4⟩
        have V4 := Lib.hid (V3.out.after b4)
        have U4 := Lib.hid (below_end U3.out b4)
        clear b4 V3 U3
        cases c
        · go_wp2_with fail
          go_roundw
          case rel => exact ⟨k + 1, by omega, by go_num, V4, U4⟩
          case measure => simp [intOf]; omega
        · obtain ⟨d, hd⟩ : ∃ d, matchB q2 x = d := ⟨_, rfl⟩
          have HD := Lib.hid hd
          have c3 := fun w' h => implMatches_any q2 x m w' (by omega) (by omega) h
          simp only [hd] at c3
          have C3 := Lib.hid c3
          clear hd c3
          go_wp2_with fail
          refine (C3.out v4 ((U4.out.cell hlt).trans HM.out)).mono ?_
          rintro e v5 ⟨rfl, b5⟩
          have V5 := Lib.hid (V4.out.after b5)
          have U5 := Lib.hid (below_end U4.out b5)
          clear b5 V4 U4 C3
          cases d
          · go_wp2_with fail
            go_roundw
            case rel => exact ⟨k + 1, by omega, by go_num, V5, U5⟩
            case measure => simp [intOf]; omega
          · have c4 := fun w' h => implMatches_any p2 x m w' (by omega) (by omega) h
            simp only [coverB_match HCV.out HD.out] at c4
            have C4 := Lib.hid c4
            clear c4
            go_wp2_with fail
            refine (C4.out v5 ((U5.out.cell hlt).trans HM.out)).mono ?_
            rintro e v6 ⟨rfl, b6⟩
            have V6 := Lib.hid (V5.out.after b6)
            have U6 := Lib.hid (below_end U5.out b6)
            clear b6 V5 U5 C4
            go_wp2_with fail
            go_roundw
            case rel => exact ⟨k + 1, by omega, by go_num, V6, U6⟩
            case measure => simp [intOf]; omega
      · obtain rfl : k = 12 := by omega
        have c1 := fun w' h => implCovers_any p2 p2 m w' (by omega) (by omega) h
        simp only [coverB_self HP.out] at c1
        have C1 := Lib.hid c1
        have c2 := fun w' h => implCovers_any ⟨#[35]⟩ p2 m w' (by decide) (by omega) h
        simp only [coverB_all HP.out] at c2
        have C2 := Lib.hid c2
        clear c1 c2
        go_wp2_with fail
        refine (C1.out wr ((HB.out.cell hlt).trans HM.out)).mono ?_
        rintro e v2 ⟨rfl, b2⟩
        have U2 := Lib.hid (below_end HB.out b2)
        clear b2 C1
        go_wp2_with fail
        refine (C2.out v2 ((U2.out.cell hlt).trans HM.out)).mono ?_
        rintro e v3 ⟨rfl, b3⟩
        have U3 := Lib.hid (below_end U2.out b3)
        clear b3 C2
        go_wp2
        go_ret
        exact ⟨rfl, U3.out⟩

set_option maxRecDepth 100000 in
theorem contract (H : Type) (enc : TypeId × Value → H) (W : World) (base : Nat) (args : Array Value) (ds gs : List (DataW H)) (before : List MemPlace)
    (hval : ∀ (j : Nat) t v, Tryd.f3.params[j]? = some t → args[j]? = some v → Value.okWide Tryd.prog W .any base t v)
    (hW : DataW.Whole enc Tryd.prog Tryd.f3.params.toList Rows.fnMatchesSpec.vars false W args.toList ds gs before) (hsh : W.ShapedOpen Tryd.prog) :
    Calls Tryd.prog 3 args W fun e W' => ∃ v, e = .returned v ∧ Rows.fnMatchesSpec.post enc Tryd.prog Tryd.f3 false true false false W args v W' := by
  have hW' := hW
  obtain ⟨p, q, hA0, hV, rfl, hfz, hnd⟩ := hW
  have hA : DataW.TrodAll enc Tryd.prog W 0 (fun _ => true) true Tryd.f3.params.toList args.toList ds p := hA0
  rw [Tryd.params3] at hA hval
  obtain ⟨v0, vs0, d0, ds0, p0, q0, hargs, rfl, rfl, h0, r0⟩ := trodAll_cons hA
  obtain ⟨rfl, rfl, rfl⟩ := trodAll_nil r0
  obtain rfl : args = #[v0] := by cases args; simp_all
  obtain ⟨rfl, rfl⟩ := trodVars_none hV
  obtain ⟨a0, len0, cap0, rfl⟩ := okWide_slice Tryd.underlying22 (hval 0 22 v0 rfl rfl)
  have k0 := h0
  have lt0 : ∀ x ∈ p0, x.block < W.heap.size := by obtain ⟨m, hm⟩ := k0; exact DataW.trod_lt m _ _ _ hm
  have w0 : CodeAt W.heap.size a0 len0 W := by
    obtain ⟨fuel, hf⟩ := h0
    rcases open_ints Tryd.underlying22 Tryd.underlying5 (by kernel_rfl) hf with ⟨hcs, _⟩ | ⟨x, l, c, zs, hcs, _, hl, hm, hz, _, hcell, hwz⟩
    · simp [Value.cells] at hcs
      obtain ⟨rfl, rfl, rfl⟩ := hcs
      exact .inl rfl
    · simp [Value.cells] at hcs
      obtain ⟨rfl, rfl, rfl⟩ := hcs
      exact CodeAt.of_ints hl (by simpa using hz) hcell hwz
  clear hA0
  simp only [List.append_nil] at hW'
  obtain ⟨m, hm⟩ := maxLen_cell hsh
  refine (law W a0 len0 cap0 w0 m hm).mono fun e W' ⟨he, hg⟩ => ?_
  subst he
  exact ⟨_, rfl, _, _, _, [], _, [], hW', trodAll_cons_mk (shut_bool Tryd.underlying4 _) trodAll_mk0, trodAll_cons_mk (Below.trod laidOut (by kernel_rfl) (of_decide_eq_true (by kernel_rfl)) k0 hg lt0) (trodAll_mk0), rfl, hg.frame _, fun h => by cases h⟩

theorem reads (os : Os) {H : Type} (enc : TypeId × Value → H) : ∃ places, DataW.whole enc Tryd.prog ((World.laidAll Tryd.prog os Rows.fnMatchesRow.laid).forCall (fun _ _ => 0) ⟨#[], #[(.slice none 0 0 : Value)], []⟩).memory Tryd.f3.params.toList Rows.fnMatchesSpec.vars false (#[(.slice none 0 0 : Value)] : Array Value).toList 8 = some ([.nil], [], places) :=
  ⟨[], by kernel_rfl⟩

theorem laid_met (os : Os) : laidMetH Tryd.prog Rows.fnMatchesRow.laid ((World.laidAll Tryd.prog os Rows.fnMatchesRow.laid).forCall (fun _ _ => 0) ⟨#[], #[(.slice none 0 0 : Value)], []⟩).memory := by
  rw [MakeChecks.laidMetH_plain _ _ _ (by kernel_rfl)]
  exact laidMet_laidAll _ (by kernel_rfl) (by kernel_rfl)

set_option maxRecDepth 100000 in
theorem lifted (os : Os) (started : os.Started) (H : Type) (enc : TypeId × Value → H) (F : Stop.Interp) :
    ReturnsInHanded {} Tryd.checked os 3 .any ((OpenSpec.ofChange Rows.fnMatchesSpec).preRow enc Tryd.prog Tryd.f3 Rows.fnMatchesRow.domain false Rows.fnMatchesRow.laid) (((OpenSpec.ofChange Rows.fnMatchesSpec).at F).post enc Tryd.prog Tryd.f3 false true false false) := by
  obtain ⟨places, hx⟩ := reads os enc
  refine returnsInHanded_of_row (C := Tryd.checked) (s := OpenSpec.ofChange Rows.fnMatchesSpec) own started (by kernel_rfl) Tryd.func3
    (witness_row_at (enc := enc) (C := Tryd.checked) false (World.laidAll Tryd.prog os Rows.fnMatchesRow.laid) #[(.slice none 0 0 : Value)] (World.laidAll_os _ _ _) (by kernel_rfl) (by kernel_rfl) (by kernel_rfl)
      (OpenSpec.preRow_of_cond 8 hx (by kernel_rfl) (fun k hk => by cases hk) (by kernel_rfl) (laid_met os))) ?_
  intro W base args ds gs before hval hW _ _ _ _ hsh _
  exact contract H enc W base args ds gs before hval hW hsh

theorem said : Rows.FnMatchesSaid :=
  OpenClaim.holds_of_cond 3 Tryd.f3 rfl rfl rfl rfl rfl rfl rfl ⟨rfl, rfl, rfl, rfl, rfl⟩ rfl rfl rfl rfl rfl (by kernel_rfl) Tryd.func3 (by kernel_rfl)
    (of_decide_eq_true (by kernel_rfl)) (by unfold Func.isWrapper; first | (rw [if_pos (by decide +kernel)]; kernel_rfl) | (rw [if_neg (by decide +kernel)]; exact ⟨rfl, rfl⟩))
    (fun os started H enc _ F => by rw [OpenClaim.pre_eq_preRow]; exact lifted os started H enc F)

theorem plain (f : FuncId) (fn : Func) (hf : Tryd.pinned.checked.prog.funcNamed Tryd.f3.name = some f) (hfn : Tryd.pinned.checked.prog.funcs[f]? = some fn) :
    false = Tryd.pinned.checked.prog.looks [] ∧ ∀ (j : Nat) t, fn.params[j]? = some t → Tryd.pinned.checked.prog.wantsStandIn t = false := by
  obtain rfl : f = 3 := Option.some.inj ((show Tryd.prog.funcNamed Tryd.f3.name = some 3 by kernel_rfl).symm.trans hf) |>.symm
  obtain rfl : fn = Tryd.f3 := (Option.some.inj (Tryd.func3.symm.trans hfn)).symm
  refine ⟨by kernel_rfl, fun j t ht => ?_⟩
  rw [Tryd.params3] at ht
  have hm := Array.mem_of_getElem? ht
  have hall : (Tryd.f3.params.all fun u => !Tryd.prog.wantsStandIn u) = true := by kernel_rfl
  rw [Tryd.params3] at hall
  rw [Array.all_eq_true_iff_forall_mem] at hall
  have := hall t hm
  exact (show Tryd.prog.wantsStandIn t = false by simpa using this)

theorem card : Rows.FnMatchesCardSaid :=
  Claim7.holds_tied_plain_at .later [] _ _ _ _ said (fun _ h => by cases h) (by kernel_rfl) (fun _ h => by cases h) fnMatches_row_tie rfl ⟨rfl, rfl⟩ (by kernel_rfl) rfl plain (by kernel_rfl)
end Go.Proofs.YtekcfjmnaenghaaDoor.lawFnMatches
