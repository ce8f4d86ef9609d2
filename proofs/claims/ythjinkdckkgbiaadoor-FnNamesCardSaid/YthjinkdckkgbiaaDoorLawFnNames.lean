/- The law FnNames holds at every argument: for every input it returns true and leaves the input as it was. -/
import Derived.Test.YthjinkdckkgbiaaDoorMark
import Derived.Test.YthjinkdckkgbiaaDoorFilter
import Derived.Test.YthjinkdckkgbiaaDoorCode
namespace Go.Proofs.YthjinkdckkgbiaaDoor.lawFnNames
open Go.ChangeShapes Go.WideShapes Go.ChangeAt Go.RowKit Go.WideMaps Go.WideElems
open Go.ChangeMaps (open_string shut_string)

set_option maxHeartbeats 3200000 in
theorem law (w : World) (a : Option Addr) (len cap : Nat) (hc : CodeAt w.heap.size a len w) (m : Int) (hm : w.cell? ⟨0, 0, none⟩ = some (.int .i64 m)) :
    Calls Tryd.prog 3 #[.slice a len cap] w fun e w' => e = .returned (.bool true) ∧ Below w.heap.size w w' := by
  have HM := Lib.hid hm
  have hlt : 0 < w.heap.size := World.block_lt_of_cell? _ _ hm
  have HC := Lib.hid hc
  clear hm hc
  by_cases hb : 4096 < len
  · have cb := big_any a len cap w
    rw [decide_eq_true hb] at cb
    go_enter Tryd.func3, Tryd.ntmps3
    go_wp2_with fail
    refine cb.mono ?_
    rintro e w1 ⟨rfl, rfl⟩
    go_wp2
    go_ret
    exact ⟨rfl, Below.refl _ _⟩
  · have cb := big_any a len cap w
    rw [decide_eq_false hb] at cb
    go_enter Tryd.func3, Tryd.ntmps3
    go_wp2_with fail
    refine cb.mono ?_
    rintro e w0 ⟨rfl, rfl⟩
    clear cb
    go_wp2_with fail
    refine (roll_any a len cap 2 w (by omega) (by omega) HC.out).mono ?_
    rintro e w1 ⟨rfl, d1, b1, hs1⟩
    have R1 := Lib.hid (show Rolls w.heap.size a len cap w1 from ⟨d1, HC.out.below b1.block⟩)
    have B1 := Lib.hid b1
    clear d1 b1
    go_wp2_with fail
    refine (topic_any R1.out).mono ?_
    rintro e w2 ⟨t, nt, rfl, hnt, ht, hts, r2, g2⟩
    have HT : Hid (topicP (parts t 47) = true ∧ filterP (parts t 47) = true) := Lib.hid ⟨ht.topic (by omega), ht.filter (by omega)⟩
    have R2 := Lib.hid r2
    have B2 := Lib.hid (B1.out.grown g2 B1.out.size (fun k hk => by cases hk; exact Nat.le_refl _))
    clear r2 g2 R1 B1 ht hnt
    go_wp2_with fail
    refine (filter_any R2.out).mono ?_
    rintro e w3 ⟨f, rfl, hf, _, g3⟩
    have HF := Lib.hid hf.1
    have hfs := hf.2
    have B3 := Lib.hid (B2.out.grown g3 B2.out.size (fun k hk => by cases hk; exact Nat.le_refl _))
    clear hf g3 R2 B2
    go_wp2_with fail
    refine (drawTopicOk_any (by omega) ((HC.out.below B3.out.block).mono B3.out.size)).mono ?_
    rintro e w4 ⟨s, rfl, hs, b4⟩
    have B4 := Lib.hid (B3.out.trans (b4.mono B3.out.size))
    clear b4 B3
    have hpos := parts_pos s 47
    have hple := parts_le s 47
    have hps : Hid (∀ p ∈ parts s 47, p.size ≤ s.size) := Lib.hid (fun p h => parts_size h)
    have HJ := Lib.hid (joinTo_parts s)
    go_wp2_with fail
    refine (implParts_any s m w4 (by omega) ((B4.out.cell hlt).trans HM.out)).mono ?_
    rintro e w5 ⟨v, rfl, o5, b5⟩
    have HTF := Lib.hid (topic_filter (l := parts s 47))
    have CT := Lib.hid (fun w' h => implTopic_any t m w' (by omega) h)
    have CTF := Lib.hid (fun w' h => implFilter_any t m w' (by omega) h)
    have CF := Lib.hid (fun w' h => implFilter_any f m w' (by omega) h)
    have SP := Lib.hid (fun w' => specParts_any s w' (by omega))
    have IT := Lib.hid (fun w' h => implTopic_any s m w' (by omega) h)
    have ST := Lib.hid (fun w' => specTopic_any s w' (by omega))
    have IF := Lib.hid (fun w' h => implFilter_any s m w' (by omega) h)
    have SF := Lib.hid (fun w' => specFilter_any s w' (by omega))
    obtain ⟨l, hl⟩ : ∃ l, parts s 47 = l := ⟨_, rfl⟩
    rw [hl] at hpos hple hps HJ o5 HTF SP IT ST IF SF
    clear hl
    obtain ⟨g5, cap5, rfl, hg5, hl5, hc5, _⟩ := row_open o5 hpos
    have HC5 := Lib.hid hc5
    have B5 := Lib.hid (B4.out.trans (b5.mono B4.out.size))
    clear b5 o5 hc5 B4
    go_wp2_with fail
    go_loop [8, 9] (fun sv iv => ∃ k : Nat, k ≤ l.length ∧ iv = .int .i64 k ∧ ∃ x : ByteArray, sv = .string x ∧ Hid (x = joinTo l k) ∧ x.size ≤ 14 * k) (fun _ iv => l.length - (intOf iv).toNat)
    case atStart => exact ⟨0, Nat.zero_le _, rfl, _, rfl, rfl, Nat.zero_le _⟩
    case round =>
      obtain ⟨k, hk, rfl, x, rfl, HX, hxs⟩ := hrel
      by_cases hkl : k < l.length
      · have hcx := HC5.out k hkl
        have hpk : l[k].size ≤ 13 := Nat.le_trans (hps.out _ (List.getElem_mem hkl)) hs
        have HN := Lib.hid (joinTo_next l k hkl)
        obtain ⟨y, hy⟩ : ∃ y, l[k] = y := ⟨_, rfl⟩
        rw [hy] at hcx hpk HN
        clear hy
        by_cases h0 : 0 < k
        · have HN2 : Hid (x ++ ⟨#[47]⟩ ++ y = joinTo l (k + 1)) := Lib.hid (by rw [HN.out, if_pos h0, HX.out])
          clear HN HX
          go_wp2
          go_round
          case rel => exact ⟨k + 1, by omega, by go_num, _, rfl, HN2, by rw [size_app1]; omega⟩
          case measure => simp [intOf]; omega
        · have HN2 : Hid (x ++ y = joinTo l (k + 1)) := Lib.hid (by rw [HN.out, if_neg h0, HX.out])
          clear HN HX
          go_wp2
          go_round
          case rel => exact ⟨k + 1, by omega, by go_num, _, rfl, HN2, by rw [size_app0]; omega⟩
          case measure => simp [intOf]; omega
      · obtain rfl : k = l.length := by omega
        obtain rfl : x = s := by rw [HX.out, HJ.out]
        clear HX HJ HC5
        go_wp2_with fail
        refine (CT.out w5 ((B5.out.cell hlt).trans HM.out)).mono ?_
        rintro e w6 ⟨rfl, b6⟩
        rw [HT.out.1]
        have B6 := Lib.hid (B5.out.trans (b6.mono B5.out.size))
        clear b6 B5 CT
        go_wp2_with fail
        refine (CTF.out w6 ((B6.out.cell hlt).trans HM.out)).mono ?_
        rintro e w7 ⟨rfl, b7⟩
        rw [HT.out.2]
        have B7 := Lib.hid (B6.out.trans (b7.mono B6.out.size))
        clear b7 B6 CTF HT
        go_wp2_with fail
        refine (CF.out w7 ((B7.out.cell hlt).trans HM.out)).mono ?_
        rintro e w8 ⟨rfl, b8⟩
        rw [HF.out]
        have B8 := Lib.hid (B7.out.trans (b8.mono B7.out.size))
        clear b8 B7 CF HF
        obtain ⟨p1, hp1⟩ : ∃ p1, topicP l = p1 := ⟨_, rfl⟩
        obtain ⟨p2, hp2⟩ : ∃ p2, filterP l = p2 := ⟨_, rfl⟩
        rw [hp1, hp2] at HTF
        rw [hp1] at IT ST
        rw [hp2] at IF SF
        clear hp1 hp2
        go_wp2_with fail
        refine (IT.out w8 ((B8.out.cell hlt).trans HM.out)).mono ?_
        rintro e w9 ⟨rfl, b9⟩
        have B9 := Lib.hid (B8.out.trans (b9.mono B8.out.size))
        clear b9 B8
        go_wp2_with fail
        refine (ST.out w9).mono ?_
        rintro e w10 ⟨rfl, b10⟩
        have B10 := Lib.hid (B9.out.trans (b10.mono B9.out.size))
        clear b10 B9
        go_wp2_with fail
        refine (IF.out w10 ((B10.out.cell hlt).trans HM.out)).mono ?_
        rintro e w11 ⟨rfl, b11⟩
        have B11 := Lib.hid (B10.out.trans (b11.mono B10.out.size))
        clear b11 B10
        go_wp2_with fail
        refine (SF.out w11).mono ?_
        rintro e w12 ⟨rfl, b12⟩
        have B12 := Lib.hid (B11.out.trans (b12.mono B11.out.size))
        clear b12 B11
        go_wp2_with fail
        refine (SP.out w12).mono ?_
        rintro e w13 ⟨v13, rfl, o13, b13⟩
        obtain ⟨g13, cap13, rfl, _⟩ := row_open o13 hpos
        have B13 := Lib.hid (B12.out.trans (b13.mono B12.out.size))
        clear b13 B12 o13
        go_wp2_with fail
        refine (IT.out w13 ((B13.out.cell hlt).trans HM.out)).mono ?_
        rintro e w14 ⟨rfl, b14⟩
        have B14 := Lib.hid (B13.out.trans (b14.mono B13.out.size))
        clear b14 B13
        cases p1
        · go_wp2
          go_ret
          exact ⟨rfl, B14.out⟩
        · obtain rfl : p2 = true := HTF.out rfl
          go_wp2_with fail
          refine (IF.out w14 ((B14.out.cell hlt).trans HM.out)).mono ?_
          rintro e w15 ⟨rfl, b15⟩
          have B15 := Lib.hid (B14.out.trans (b15.mono B14.out.size))
          clear b15 B14
          go_wp2
          go_ret
          exact ⟨rfl, B15.out⟩

theorem contract (H : Type) (enc : TypeId × Value → H) (W : World) (base : Nat) (args : Array Value) (ds gs : List (DataW H)) (before : List MemPlace)
    (hval : ∀ (j : Nat) t v, Tryd.f3.params[j]? = some t → args[j]? = some v → Value.okWide Tryd.prog W .any base t v)
    (hW : DataW.Whole enc Tryd.prog Tryd.f3.params.toList Rows.fnNamesSpec.vars false W args.toList ds gs before) (hsh : W.ShapedOpen Tryd.prog) :
    Calls Tryd.prog 3 args W fun e W' => ∃ v, e = .returned v ∧ Rows.fnNamesSpec.post enc Tryd.prog Tryd.f3 false true false false W args v W' := by
  have hW' := hW
  obtain ⟨p, q, hA0, hV, rfl, hfz, hnd⟩ := hW
  have hA : DataW.TrodAll enc Tryd.prog W 0 (fun _ => true) true Tryd.f3.params.toList args.toList ds p := hA0
  rw [Tryd.params3] at hA hval
  obtain ⟨v0, vs0, d0, ds0, p0, q0, hargs, rfl, rfl, h0, r0⟩ := trodAll_cons hA
  obtain ⟨rfl, rfl, rfl⟩ := trodAll_nil r0
  obtain rfl : args = #[v0] := by cases args; simp_all
  obtain ⟨rfl, rfl⟩ := trodVars_none hV
  obtain ⟨a0, len0, cap0, rfl⟩ := okWide_slice Tryd.underlying22 (hval 0 22 v0 rfl rfl)
  have k0 := h0
  have lt0 : ∀ x ∈ p0, x.block < W.heap.size := by obtain ⟨m, hm⟩ := k0; exact DataW.trod_lt m _ _ _ hm
  have w0 : CodeAt W.heap.size a0 len0 W := by
    obtain ⟨fuel, hf⟩ := h0
    rcases open_ints Tryd.underlying22 Tryd.underlying5 (by kernel_rfl) hf with ⟨hcs, _⟩ | ⟨x, l, c, zs, hcs, _, hl, hm, hz, _, hcell, hwz⟩
    · simp [Value.cells] at hcs
      obtain ⟨rfl, rfl, rfl⟩ := hcs
      exact .inl rfl
    · simp [Value.cells] at hcs
      obtain ⟨rfl, rfl, rfl⟩ := hcs
      exact CodeAt.of_ints hl (by simpa using hz) hcell hwz
  clear hA0
  simp only [List.append_nil] at hW'
  obtain ⟨m, hm⟩ := maxLen_cell hsh
  refine (law W a0 len0 cap0 w0 m hm).mono fun e W' ⟨he, hg⟩ => ?_
  subst he
  exact ⟨_, rfl, _, _, _, [], _, [], hW', trodAll_cons_mk (shut_bool Tryd.underlying4 _) trodAll_mk0, trodAll_cons_mk (Below.trod laidOut (by kernel_rfl) (of_decide_eq_true (by kernel_rfl)) k0 hg lt0) (trodAll_mk0), rfl, hg.frame _, fun h => by cases h⟩

theorem reads (os : Os) {H : Type} (enc : TypeId × Value → H) : ∃ places, DataW.whole enc Tryd.prog ((World.laidAll Tryd.prog os Rows.fnNamesRow.laid).forCall (fun _ _ => 0) ⟨#[], #[(.slice none 0 0 : Value)], []⟩).memory Tryd.f3.params.toList Rows.fnNamesSpec.vars false (#[(.slice none 0 0 : Value)] : Array Value).toList 8 = some ([.nil], [], places) :=
  ⟨[], by kernel_rfl⟩

theorem laid_met (os : Os) : laidMetH Tryd.prog Rows.fnNamesRow.laid ((World.laidAll Tryd.prog os Rows.fnNamesRow.laid).forCall (fun _ _ => 0) ⟨#[], #[(.slice none 0 0 : Value)], []⟩).memory := by
  rw [MakeChecks.laidMetH_plain _ _ _ (by kernel_rfl)]
  exact laidMet_laidAll _ (by kernel_rfl) (by kernel_rfl)

set_option maxRecDepth 100000 in
theorem lifted (os : Os) (started : os.Started) (H : Type) (enc : TypeId × Value → H) (F : Stop.Interp) :
    ReturnsInHanded {} Tryd.checked os 3 .any ((OpenSpec.ofChange Rows.fnNamesSpec).preRow enc Tryd.prog Tryd.f3 Rows.fnNamesRow.domain false Rows.fnNamesRow.laid) (((OpenSpec.ofChange Rows.fnNamesSpec).at F).post enc Tryd.prog Tryd.f3 false true false false) := by
  obtain ⟨places, hx⟩ := reads os enc
  refine returnsInHanded_of_row (C := Tryd.checked) (s := OpenSpec.ofChange Rows.fnNamesSpec) own started (by kernel_rfl) Tryd.func3
    (witness_row_at (enc := enc) (C := Tryd.checked) false (World.laidAll Tryd.prog os Rows.fnNamesRow.laid) #[(.slice none 0 0 : Value)] (World.laidAll_os _ _ _) (by kernel_rfl) (by kernel_rfl) (by kernel_rfl)
      (OpenSpec.preRow_of_cond 8 hx (by kernel_rfl) (fun k hk => by cases hk) (by kernel_rfl) (laid_met os))) ?_
  intro W base args ds gs before hval hW _ _ _ _ hsh _
  exact contract H enc W base args ds gs before hval hW hsh

theorem said : Rows.FnNamesSaid :=
  OpenClaim.holds_of_cond 3 Tryd.f3 rfl rfl rfl rfl rfl rfl rfl ⟨rfl, rfl, rfl, rfl, rfl⟩ rfl rfl rfl rfl rfl (by kernel_rfl) Tryd.func3 (by kernel_rfl)
    (of_decide_eq_true (by kernel_rfl)) (by unfold Func.isWrapper; first | (rw [if_pos (by decide +kernel)]; kernel_rfl) | (rw [if_neg (by decide +kernel)]; exact ⟨rfl, rfl⟩))
    (fun os started H enc _ F => by rw [OpenClaim.pre_eq_preRow]; exact lifted os started H enc F)

theorem plain (f : FuncId) (fn : Func) (hf : Tryd.pinned.checked.prog.funcNamed Tryd.f3.name = some f) (hfn : Tryd.pinned.checked.prog.funcs[f]? = some fn) :
    false = Tryd.pinned.checked.prog.looks [] ∧ ∀ (j : Nat) t, fn.params[j]? = some t → Tryd.pinned.checked.prog.wantsStandIn t = false := by
  obtain rfl : f = 3 := Option.some.inj ((show Tryd.prog.funcNamed Tryd.f3.name = some 3 by kernel_rfl).symm.trans hf) |>.symm
  obtain rfl : fn = Tryd.f3 := (Option.some.inj (Tryd.func3.symm.trans hfn)).symm
  refine ⟨by kernel_rfl, fun j t ht => ?_⟩
  rw [Tryd.params3] at ht
  have hm := Array.mem_of_getElem? ht
  have hall : (Tryd.f3.params.all fun u => !Tryd.prog.wantsStandIn u) = true := by kernel_rfl
  rw [Tryd.params3] at hall
  rw [Array.all_eq_true_iff_forall_mem] at hall
  have := hall t hm
  exact (show Tryd.prog.wantsStandIn t = false by simpa using this)

theorem card : Rows.FnNamesCardSaid :=
  Claim7.holds_tied_plain_at .later [] _ _ _ _ said (fun _ h => by cases h) (by kernel_rfl) (fun _ h => by cases h) fnNames_row_tie rfl ⟨rfl, rfl⟩ (by kernel_rfl) rfl plain (by kernel_rfl)
end Go.Proofs.YthjinkdckkgbiaaDoor.lawFnNames
