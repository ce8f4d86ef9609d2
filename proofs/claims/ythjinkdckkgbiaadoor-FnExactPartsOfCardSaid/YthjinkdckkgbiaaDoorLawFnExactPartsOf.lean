/- The law FnExactPartsOf holds at every argument: for every input it returns true and leaves the input as it was. -/
import Derived.Test.YthjinkdckkgbiaaDoorLift
import Derived.Test.YthjinkdckkgbiaaDoorMark
namespace Go.Proofs.YthjinkdckkgbiaaDoor.lawFnExactPartsOf
open Go.ChangeShapes Go.WideShapes Go.ChangeAt Go.RowKit Go.WideMaps Go.WideElems
open Go.ChangeMaps (open_string shut_string)

theorem marked_cell {w : World} {B g cap k0 : Nat} {l : List ByteArray} {E : TypeId} (h : w.ownsRow B E 1 (.slice (some ⟨g, 0, none⟩) l.length cap) l.length (texts (marked l k0 l.length))) :
    ∀ j, j < l.length → w.cell? ⟨g, j, none⟩ = some (.string (mtext (k0 + j))) := by
  intro j hj
  rw [h.cellAt j (by omega)]
  simp [texts, marked, hj]

set_option maxHeartbeats 800000 in
theorem law (w : World) (s : ByteArray) (hs : s.size ≤ maxLen) (m : Int) (hm : w.cell? ⟨0, 0, none⟩ = some (.int .i64 m)) :
    Calls Tryd.prog 4 #[.string s] w fun e w' => e = .returned (.bool true) ∧ Below w.heap.size w w' := by
  unfold maxLen at hs
  by_cases hb : 1048576 < s.size
  · go_enter Tryd.func4, Tryd.ntmps4
    go_wp2
    go_ret
    exact ⟨rfl, Below.refl _ _⟩
  · have hpos := parts_pos s 47
    have hple := parts_le s 47
    have c1 := specParts_any s w (by omega)
    have c2 := fun w' h => implParts_any s m w' (by omega) h
    obtain ⟨l, hl⟩ : ∃ l, parts s 47 = l := ⟨_, rfl⟩
    rw [hl] at hpos hple c1
    simp only [hl] at c2
    clear hl
    have C2 := Lib.hid c2
    have HM := Lib.hid hm
    clear c2 hm
    have hlt : 0 < w.heap.size := World.block_lt_of_cell? _ _ HM.out
    go_enter Tryd.func4, Tryd.ntmps4
    go_wp2_with fail
    refine c1.mono ?_
    clear c1
    rintro e w1 ⟨v0, rfl, o1, h1⟩
    obtain ⟨g0, cap0, rfl, hg0, hl0, hc0, _⟩ := row_open o1 hpos
    have H1 := Lib.hid h1
    have O1 := Lib.hid o1
    have HC0 := Lib.hid hc0
    clear h1 o1 hc0
    go_wp2_with fail
    refine (C2.out w1 ((H1.out.cell hlt).trans HM.out)).mono ?_
    rintro e w2 ⟨v1, rfl, o2, h2⟩
    obtain ⟨g1, cap1, rfl, hg1, hl1, hc1, _⟩ := row_open o2 hpos
    have H2 := Lib.hid (H1.out.trans (h2.mono H1.out.size))
    have HC0b : Hid (∀ j (hj : j < l.length), w2.cell? ⟨g0, j, none⟩ = some (.string l[j])) := Lib.hid (fun j hj => (h2.cell hl0).trans (HC0.out j hj))
    have O2 := Lib.hid o2
    have HC1 := Lib.hid hc1
    have hs2 : w1.heap.size ≤ w2.heap.size := h2.size
    clear h2 o2 hc1 HC0 H1
    go_wp2_with fail
    refine (eqTexts_any l g1 g0 cap1 cap0 w2 (by omega) HC1.out HC0b.out).mono ?_
    rintro e w3 ⟨rfl, h3⟩
    have H3 := Lib.hid (H2.out.trans (h3.mono H2.out.size))
    have O3 := Lib.hid (row_below O2.out h3)
    have HC0c : Hid (∀ j (hj : j < l.length), w3.cell? ⟨g0, j, none⟩ = some (.string l[j])) := Lib.hid (fun j hj => (h3.cell (Nat.lt_of_lt_of_le hl0 hs2)).trans (HC0b.out j hj))
    have hs3 : w2.heap.size ≤ w3.heap.size := h3.size
    clear h3 H2 O2 HC0b HC1
    go_wp2_with fail
    refine (markTexts_any l 1 _ g1 cap1 w3 hg1 (by omega) (by omega) O3.out).mono ?_
    rintro e w4 ⟨rfl, o4, h4⟩
    have hge : w.heap.size ≤ g1 := Nat.le_trans (Nat.le_trans (Nat.le_of_lt_succ (Nat.lt_succ_of_le hg0)) (Nat.le_of_lt hl0)) hg1
    have H4 := Lib.hid (H3.out.grown h4 H3.out.size (fun k hk => by cases hk; exact hge))
    have HC0d : Hid (∀ j (hj : j < l.length), w4.cell? ⟨g0, j, none⟩ = some (.string l[j])) := Lib.hid (fun j hj => (World.cell?_of_block (h4.block g0 (by omega) (by simp; omega))).trans (HC0c.out j hj))
    have hs4 : w3.heap.size ≤ w4.heap.size := h4.size
    have HM4 := Lib.hid (marked_cell o4)
    clear h4 o4 H3 O3 HC0c
    go_wp2_with fail
    refine (heldTexts_any l.length 1 g1 cap1 w4 (by omega) (by omega) (by omega) HM4.out).mono ?_
    rintro e w5 ⟨rfl, h5⟩
    have H5 := Lib.hid (H4.out.trans (h5.mono H4.out.size))
    have HC0e : Hid (∀ j (hj : j < l.length), w5.cell? ⟨g0, j, none⟩ = some (.string l[j])) := Lib.hid (fun j hj => (below_cell h5 (by omega)).trans (HC0d.out j hj))
    have HM5 : Hid (∀ j, j < l.length → w5.cell? ⟨g1, j, none⟩ = some (.string (mtext (1 + j)))) := Lib.hid (fun j hj => (below_cell h5 (by omega)).trans (HM4.out j hj))
    have hs5 : w4.heap.size ≤ w5.heap.size := h5.size
    clear h5 H4 HC0d HM4
    go_wp2_with fail
    refine (C2.out w5 ((H5.out.cell hlt).trans HM.out)).mono ?_
    rintro e w6 ⟨v2, rfl, o6, h6⟩
    obtain ⟨g2, cap2, rfl, hg2, hl2, hc2, _⟩ := row_open o6 hpos
    have H6 := Lib.hid (H5.out.trans (h6.mono H5.out.size))
    have HC0f : Hid (∀ j (hj : j < l.length), w6.cell? ⟨g0, j, none⟩ = some (.string l[j])) := Lib.hid (fun j hj => (below_cell h6 (by omega)).trans (HC0e.out j hj))
    have HM6 : Hid (∀ j, j < l.length → w6.cell? ⟨g1, j, none⟩ = some (.string (mtext (1 + j)))) := Lib.hid (fun j hj => (below_cell h6 (by omega)).trans (HM5.out j hj))
    have HC2 := Lib.hid hc2
    have hs6 : w5.heap.size ≤ w6.heap.size := h6.size
    clear h6 H5 HC0e HM5 o6 hc2
    go_wp2_with fail
    refine (eqTexts_any l g2 g0 cap2 cap0 w6 (by omega) HC2.out HC0f.out).mono ?_
    rintro e w7 ⟨rfl, h7⟩
    have H7 := Lib.hid (H6.out.trans (h7.mono H6.out.size))
    have HM7 : Hid (∀ j, j < l.length → w7.cell? ⟨g1, j, none⟩ = some (.string (mtext (1 + j)))) := Lib.hid (fun j hj => (below_cell h7 (by omega)).trans (HM6.out j hj))
    have hs7 : w6.heap.size ≤ w7.heap.size := h7.size
    clear h7 H6 HC0f HM6 HC2
    go_wp2_with fail
    refine (heldTexts_any l.length 1 g1 cap1 w7 (by omega) (by omega) (by omega) HM7.out).mono ?_
    rintro e w8 ⟨rfl, h8⟩
    have H8 := Lib.hid (H7.out.trans (h8.mono H7.out.size))
    clear h8 H7 HM7
    go_wp2
    go_ret
    exact ⟨rfl, H8.out⟩

theorem contract (H : Type) (enc : TypeId × Value → H) (W : World) (base : Nat) (args : Array Value) (ds gs : List (DataW H)) (before : List MemPlace)
    (hval : ∀ (j : Nat) t v, Tryd.f4.params[j]? = some t → args[j]? = some v → Value.okWide Tryd.prog W .any base t v)
    (hW : DataW.Whole enc Tryd.prog Tryd.f4.params.toList Rows.fnExactPartsOfSpec.vars false W args.toList ds gs before) (hsh : W.ShapedOpen Tryd.prog) :
    Calls Tryd.prog 4 args W fun e W' => ∃ v, e = .returned v ∧ Rows.fnExactPartsOfSpec.post enc Tryd.prog Tryd.f4 false true false false W args v W' := by
  have hW' := hW
  obtain ⟨p, q, hA0, hV, rfl, hfz, hnd⟩ := hW
  have hA : DataW.TrodAll enc Tryd.prog W 0 (fun _ => true) true Tryd.f4.params.toList args.toList ds p := hA0
  rw [Tryd.params4] at hA hval
  obtain ⟨v0, vs0, d0, ds0, p0, q0, hargs, rfl, rfl, h0, r0⟩ := trodAll_cons hA
  obtain ⟨rfl, rfl, rfl⟩ := trodAll_nil r0
  obtain rfl : args = #[v0] := by cases args; simp_all
  obtain ⟨rfl, rfl⟩ := trodVars_none hV
  obtain ⟨a0, rfl, rfl, rfl, w0⟩ := open_string Tryd.underlying9 (hval 0 9 v0 rfl rfl) h0
  clear hA0
  simp only [List.append_nil] at hW'
  obtain ⟨m, hm⟩ := maxLen_cell hsh
  refine (law W a0 w0 m hm).mono fun e W' ⟨he, hg⟩ => ?_
  subst he
  exact ⟨_, rfl, _, _, _, [], [], [], hW', trodAll_cons_mk (shut_bool Tryd.underlying4 _) trodAll_mk0, trodAll_cons_mk (shut_string Tryd.underlying9 w0) (trodAll_mk0), rfl, hg.frame _, fun h => by cases h⟩

theorem reads (os : Os) {H : Type} (enc : TypeId × Value → H) : ∃ places, DataW.whole enc Tryd.prog ((World.laidAll Tryd.prog os Rows.fnExactPartsOfRow.laid).forCall (fun _ _ => 0) ⟨#[], #[(.string ByteArray.empty : Value)], []⟩).memory Tryd.f4.params.toList Rows.fnExactPartsOfSpec.vars false (#[(.string ByteArray.empty : Value)] : Array Value).toList 8 = some ([.lit (.string [])], [], places) :=
  ⟨[], by kernel_rfl⟩

theorem laid_met (os : Os) : laidMetH Tryd.prog Rows.fnExactPartsOfRow.laid ((World.laidAll Tryd.prog os Rows.fnExactPartsOfRow.laid).forCall (fun _ _ => 0) ⟨#[], #[(.string ByteArray.empty : Value)], []⟩).memory := by
  rw [MakeChecks.laidMetH_plain _ _ _ (by kernel_rfl)]
  exact laidMet_laidAll _ (by kernel_rfl) (by kernel_rfl)

set_option maxRecDepth 100000 in
theorem lifted (os : Os) (started : os.Started) (H : Type) (enc : TypeId × Value → H) (F : Stop.Interp) :
    ReturnsInHanded {} Tryd.checked os 4 .any ((OpenSpec.ofChange Rows.fnExactPartsOfSpec).preRow enc Tryd.prog Tryd.f4 Rows.fnExactPartsOfRow.domain false Rows.fnExactPartsOfRow.laid) (((OpenSpec.ofChange Rows.fnExactPartsOfSpec).at F).post enc Tryd.prog Tryd.f4 false true false false) := by
  obtain ⟨places, hx⟩ := reads os enc
  refine returnsInHanded_of_row (C := Tryd.checked) (s := OpenSpec.ofChange Rows.fnExactPartsOfSpec) own started (by kernel_rfl) Tryd.func4
    (witness_row_at (enc := enc) (C := Tryd.checked) false (World.laidAll Tryd.prog os Rows.fnExactPartsOfRow.laid) #[(.string ByteArray.empty : Value)] (World.laidAll_os _ _ _) (by kernel_rfl) (by kernel_rfl) (by kernel_rfl)
      (OpenSpec.preRow_of_cond 8 hx (by kernel_rfl) (fun k hk => by cases hk) (by kernel_rfl) (laid_met os))) ?_
  intro W base args ds gs before hval hW _ _ _ _ hsh _
  exact contract H enc W base args ds gs before hval hW hsh

theorem said : Rows.FnExactPartsOfSaid :=
  OpenClaim.holds_of_cond 4 Tryd.f4 rfl rfl rfl rfl rfl rfl rfl ⟨rfl, rfl, rfl, rfl, rfl⟩ rfl rfl rfl rfl rfl (by kernel_rfl) Tryd.func4 (by kernel_rfl)
    (of_decide_eq_true (by kernel_rfl)) (by unfold Func.isWrapper; first | (rw [if_pos (by decide +kernel)]; kernel_rfl) | (rw [if_neg (by decide +kernel)]; exact ⟨rfl, rfl⟩))
    (fun os started H enc _ F => by rw [OpenClaim.pre_eq_preRow]; exact lifted os started H enc F)

theorem plain (f : FuncId) (fn : Func) (hf : Tryd.pinned.checked.prog.funcNamed Tryd.f4.name = some f) (hfn : Tryd.pinned.checked.prog.funcs[f]? = some fn) :
    false = Tryd.pinned.checked.prog.looks [] ∧ ∀ (j : Nat) t, fn.params[j]? = some t → Tryd.pinned.checked.prog.wantsStandIn t = false := by
  obtain rfl : f = 4 := Option.some.inj ((show Tryd.prog.funcNamed Tryd.f4.name = some 4 by kernel_rfl).symm.trans hf) |>.symm
  obtain rfl : fn = Tryd.f4 := (Option.some.inj (Tryd.func4.symm.trans hfn)).symm
  refine ⟨by kernel_rfl, fun j t ht => ?_⟩
  rw [Tryd.params4] at ht
  have hm := Array.mem_of_getElem? ht
  have hall : (Tryd.f4.params.all fun u => !Tryd.prog.wantsStandIn u) = true := by kernel_rfl
  rw [Tryd.params4] at hall
  rw [Array.all_eq_true_iff_forall_mem] at hall
  have := hall t hm
  exact (show Tryd.prog.wantsStandIn t = false by simpa using this)

theorem card : Rows.FnExactPartsOfCardSaid :=
  Claim7.holds_tied_plain_at .later [] _ _ _ _ said (fun _ h => by cases h) (by kernel_rfl) (fun _ h => by cases h) fnExactPartsOf_row_tie rfl ⟨rfl, rfl⟩ (by kernel_rfl) rfl plain (by kernel_rfl)
end Go.Proofs.YthjinkdckkgbiaaDoor.lawFnExactPartsOf
