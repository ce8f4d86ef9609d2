/- The law FnExactWithoutId holds at every argument: for every input it returns true and leaves the input as it was. -/
import Derived.Test.YtojifogefnjefaaDoorZB1
import Derived.Test.YtojifogefnjefaaDoorZB7
import Derived.Test.YtojifogefnjefaaDoorZSTrieR
import Derived.Test.YtojifogefnjefaaDoorZB3
import Derived.Test.YtojifogefnjefaaDoorZSizeEq
import Derived.Test.YtojifogefnjefaaDoorZOwnTo
import Derived.Test.YtojifogefnjefaaDoorZB2
set_option linter.unusedSimpArgs false
set_option linter.unusedVariables false
namespace Go.Proofs.YtojifogefnjefaaDoor.lawFnExactWithoutId
open Go.ChangeShapes Go.WideShapes Go.ChangeAt Go.RowKit Go.WideMaps Go.WideElems
open Go.ChangeMaps (open_string shut_string)

theorem szTo_kend : ∀ (l : List KnotM) (a : Int) (k : Nat), 0 ≤ a → 0 ≤ szTo l a → (kend l k : Int) ≤ k + l.length + a
  | [], a, k, h, _ => by rw [kend]; simp; omega
  | x :: l, a, k, h, h2 => by
    rw [szTo] at h2
    by_cases hx : szK x a < 0
    · rw [if_pos hx] at h2; omega
    · rw [if_neg hx] at h2
      have ih := szTo_kend l (szK x a) (k + 1 + x.2.length) (by omega) h2
      rw [kend]
      have e : szK x a + x.2.length ≤ a := by
        unfold szK szI at hx ⊢
        split at hx <;> split <;> (try split at hx) <;> (try split) <;> omega
      simp only [List.length_cons]
      omega

theorem szKs_kend {l : List KnotM} (h : 0 ≤ szKs l 1048576) : kend l 1 ≤ 1048577 := by
  unfold szKs at h
  split at h
  · omega
  · have := szTo_kend l (1048576 - l.length) 1 (by omega) h
    omega

set_option maxHeartbeats 3200000 in
theorem law (w : World) (v : Value) (l : List KnotM) (hv : KnotsAt w v l) (hp : ∀ y ∈ l, y.1.size ≤ maxLen) (t : ByteArray) (ht : t.size ≤ maxLen) (id : Int) (_hid : (Lit.int .i64 id).wf = true) (m : Int) (hm : w.cell? ⟨0, 0, none⟩ = some (.int .i64 m)) :
    Calls Tryd.prog 3 #[v, .string t, .int .i64 id] w fun e w' => e = .returned (.bool true) ∧ Below w.heap.size w w' := by
  unfold maxLen at ht
  by_cases htl : 1048576 < t.size
  · obtain ⟨a, c, rfl, _, _, _⟩ := hv
    go_enter Tryd.func3, Tryd.ntmps3
    go_wp2
    go_ret
    exact ⟨rfl, Below.refl _ _⟩
  have cz := szKnots_any v l 1048576 w (by omega) (by omega) hp hv
  by_cases hz : szKs l 1048576 < 0
  · have g1 : decide (szKs l 1048576 < 0) = true := decide_eq_true hz
    obtain ⟨a, c, rfl, _, _, _⟩ := hv
    go_enter Tryd.func3, Tryd.ntmps3
    go_wp2_with fail
    refine cz.mono ?_
    clear cz
    rintro e w1 ⟨rfl, b1⟩
    have B1 := Lib.hid b1
    clear b1
    go_wp2
    go_ret
    exact ⟨rfl, B1.out⟩
  have g1 : decide (szKs l 1048576 < 0) = false := decide_eq_false hz
  have hkend := szKs_kend (show 0 ≤ szKs l 1048576 by omega)
  obtain ⟨hlen, hall⟩ := szKs_small (by omega) (show 0 ≤ szKs l 1048576 by omega)
  have HK : KSmall l := ⟨by omega, fun x hx => by have := hall x hx; omega⟩
  have hs4 : ∀ x ∈ l, x.2.length ≤ 4000000 := fun x hx => by have := HK.2 x hx; omega
  have hl4 : l.length ≤ 4000000 := by have := HK.1; omega
  have hRk := withoutL_kend l t id
  have CT := Lib.hid (fun wx (h : KnotsAt wx v l) => toKnots_any v l wx hl4 hs4 h)
  have CS := Lib.hid (fun u wx (h : KnotsAt wx u l) => specWithout_any u l t id wx HK (by omega) h trie_paths)
  have CI := Lib.hid (fun u wx (h : KnotsAt wx u l) h2 => implWithout_any u l t id m wx HK (by omega) h h2)
  have CE := Lib.hid (fun u1 u2 wx (h1 : KnotsAt wx u1 l) (h2 : KnotsAt wx u2 l) => eqKnots_any u1 u2 l wx hl4 hs4 h1 h2)
  obtain ⟨R, hR⟩ : ∃ R, (withoutL l t id).1 = R := ⟨_, rfl⟩
  obtain ⟨b, hb⟩ : ∃ b, (withoutL l t id).2 = b := ⟨_, rfl⟩
  rw [hR] at CS CI hRk
  rw [hb] at CS CI
  have hR4 : kend R 1 ≤ 4000000 := by omega
  have CQ := Lib.hid (fun u1 u2 wx (h1 : KnotsAt wx u1 R) (h2 : KnotsAt wx u2 R) => eqKnots_any u1 u2 R wx (Nat.le_trans (kend_len R) hR4) (fun x hx => Nat.le_trans (kend_ids hx) hR4) h1 h2)
  have CM := Lib.hid (fun u us B wx (h : KOwnU wx B u R us) => markKnots_any u R us 1 B wx hR4 (Nat.le_refl _) h)
  have CH := Lib.hid (fun u wx (h : KnotsAt wx u (kmark R 1)) => heldKnots_any u R 1 wx hR4 (Nat.le_refl _) h)
  have CK := Lib.hid (fun u us B wx (h : KOwnU wx B u l us) => markKnots_any u l us 1 B wx (by omega) (Nat.le_refl _) h)
  obtain ⟨K1, hK1⟩ : ∃ K, kend l 1 = K := ⟨_, rfl⟩
  obtain ⟨N1, hN1⟩ : ∃ N, kend R 1 = N := ⟨_, rfl⟩
  rw [hK1] at CK; rw [hN1] at CM CH
  have g2 : decide ((K1 : Int) < 0) = false := decide_eq_false (by omega)
  have g3 : decide ((N1 : Int) < 0) = false := decide_eq_false (by omega)
  have g4 : ((N1 : Int) != (N1 : Int)) = false := by simp
  have g5 : (b != b) = false := by simp
  obtain ⟨z, hz2⟩ : ∃ z, szKs l 1048576 = z := ⟨_, rfl⟩
  rw [hz2] at g1 cz
  have HV := Lib.hid hv
  have HM := Lib.hid hm
  have hlt : 0 < w.heap.size := World.block_lt_of_cell? _ _ hm
  obtain ⟨a, c, rfl, _, _, _⟩ := hv
  clear hR hb hm hz hz2 hlen hall HK hs4 hl4 hp hkend hK1 hN1 hRk hR4
  go_enter Tryd.func3, Tryd.ntmps3
  go_wp2_with fail
  refine cz.mono ?_
  clear cz
  rintro e w1 ⟨rfl, b1⟩
  have B1 := Lib.hid b1
  clear b1
  go_wp2_with fail
  refine (CT.out w1 (HV.out.below B1.out)).mono ?_
  rintro e w2 ⟨u2, rfl, k2, b2⟩
  have K2 := Lib.hid (own_knots_at k2)
  have B2 := Lib.hid (below_end B1.out b2)
  clear b2 k2 B1
  go_wp2_with fail
  refine (CS.out u2 w2 K2.out).mono ?_
  rintro e w3 ⟨u3, rfl, ⟨us3, o3⟩, b3⟩
  have B3 := Lib.hid (below_end B2.out b3)
  have O3 := Lib.hid o3
  clear b3 o3 K2 B2
  go_wp2_with fail
  refine (CT.out w3 (HV.out.below B3.out)).mono ?_
  rintro e w4 ⟨u4, rfl, ⟨us, k4⟩, b4⟩
  have K4 := Lib.hid k4
  have A3 : Hid (∀ x ∈ u3 :: us3, ∀ y ∈ u4 :: us, Apart x y) := Lib.hid (elder_apart O3.out (Nat.le_refl _) k4)
  have O4 := Lib.hid (O3.out.below b4)
  have B4 := Lib.hid (below_end B3.out b4)
  have s34 := B3.out.size
  have S34 := Lib.hid b4.size
  have L4 := Lib.hid k4.lt
  clear k4 b4 O3 B3
  go_wp2_with fail
  refine (CI.out u4 w4 (own_knots_at ⟨us, K4.out⟩) ((B4.out.cell hlt).trans HM.out)).mono ?_
  rintro e w5 ⟨u5, rfl, ⟨us5, o5⟩, b5⟩
  have A5K : Hid (∀ x ∈ u5 :: us5, ∀ y ∈ u4 :: us, Apart x y) := Lib.hid (fun x hx y hy => (elder_apart K4.out (Nat.le_refl _) o5 y hy x hx).symm)
  have A5 : Hid (∀ x ∈ u3 :: us3, ∀ y ∈ u5 :: us5, Apart x y) := Lib.hid (elder_apart O4.out (Nat.le_refl _) o5)
  have K5 := Lib.hid (K4.out.below b5)
  have O5 := Lib.hid o5
  have L5 := Lib.hid o5.lt
  have s45 := B4.out.size
  have P5 := Lib.hid (O4.out.below b5)
  have B5 := Lib.hid (below_end B4.out b5)
  clear o5 b5 O4 K4 B4
  go_wp2_with fail
  refine (CQ.out u5 u3 w5 (own_knots_at ⟨us5, O5.out⟩) (own_knots_at ⟨us3, P5.out⟩)).mono ?_
  rintro e w6 ⟨rfl, b6⟩
  have K6 := Lib.hid (K5.out.below b6)
  have O6 := Lib.hid (O5.out.below b6)
  have P6 := Lib.hid (P5.out.below b6)
  have B6 := Lib.hid (below_end B5.out b6)
  clear b6 K5 O5 P5 B5
  go_wp2_with fail
  refine (CT.out w6 (HV.out.below B6.out)).mono ?_
  rintro e w7 ⟨u7, rfl, k7, b7⟩
  have E7 := Lib.hid (own_knots_at k7)
  have K7 := Lib.hid (K6.out.below b7)
  have O7 := Lib.hid (O6.out.below b7)
  have P7 := Lib.hid (P6.out.below b7)
  have B7 := Lib.hid (below_end B6.out b7)
  clear b7 k7 K6 O6 P6 B6
  go_wp2_with fail
  refine (CE.out u4 u7 w7 (own_knots_at ⟨us, K7.out⟩) E7.out).mono ?_
  rintro e w8 ⟨rfl, b8⟩
  have K8 := Lib.hid (K7.out.below b8)
  have O8 := Lib.hid (O7.out.below b8)
  have P8 := Lib.hid (P7.out.below b8)
  have B8 := Lib.hid (below_end B7.out b8)
  clear b8 E7 K7 O7 P7 B7
  go_wp2_with fail
  refine (CK.out u4 us w3.heap.size w8 K8.out).mono ?_
  rintro e w9 ⟨rfl, k9, g9⟩
  have O9 := Lib.hid (O8.out.keptL g9 A5K.out)
  have P9 := Lib.hid (P8.out.keptL g9 A3.out)
  have B9 := Lib.hid (B8.out.trans (g9.toBelow B8.out.size (fun x hx b hb => Nat.le_trans s34 (L4.out x hx b hb).1)))
  clear k9 g9 K8 O8 P8 B8 CK CE
  go_wp2_with fail
  refine (CQ.out u5 u3 w9 (own_knots_at ⟨us5, O9.out⟩) (own_knots_at ⟨us3, P9.out⟩)).mono ?_
  rintro e w10 ⟨rfl, b10⟩
  have O10 := Lib.hid (O9.out.below b10)
  have P10 := Lib.hid (P9.out.below b10)
  have B10 := Lib.hid (below_end B9.out b10)
  clear b10 O9 P9 B9
  go_wp2_with fail
  refine (CM.out u5 us5 w4.heap.size w10 O10.out).mono ?_
  rintro e w11 ⟨rfl, o11, g11⟩
  have O11 := Lib.hid (own_knots_at ⟨us5, o11⟩)
  have P11 := Lib.hid (P10.out.keptL g11 A5.out)
  have B11 := Lib.hid (B10.out.trans (g11.toBelow B10.out.size (fun x hx b hb => Nat.le_trans s45 (L5.out x hx b hb).1)))
  clear o11 g11 O10 P10 B10 CM
  go_wp2_with fail
  refine (CH.out u5 w11 O11.out).mono ?_
  rintro e w12 ⟨rfl, b12⟩
  have O12 := Lib.hid (O11.out.below b12)
  have P12 := Lib.hid (P11.out.below b12)
  have B12 := Lib.hid (below_end B11.out b12)
  clear b12 O11 P11 B11
  go_wp2_with fail
  refine (CT.out w12 (HV.out.below B12.out)).mono ?_
  rintro e w13 ⟨u13, rfl, k13, b13⟩
  have K13 := Lib.hid (own_knots_at k13)
  have O13 := Lib.hid (O12.out.below b13)
  have P13 := Lib.hid (P12.out.below b13)
  have B13 := Lib.hid (below_end B12.out b13)
  clear b13 k13 O12 P12 B12
  go_wp2_with fail
  refine (CI.out u13 w13 K13.out ((B13.out.cell hlt).trans HM.out)).mono ?_
  rintro e w14 ⟨u14, rfl, o14, b14⟩
  have Q14 := Lib.hid (own_knots_at o14)
  have O14 := Lib.hid (O13.out.below b14)
  have P14 := Lib.hid (P13.out.below b14)
  have B14 := Lib.hid (below_end B13.out b14)
  clear b14 o14 O13 P13 B13 K13
  go_wp2_with fail
  refine (CQ.out u14 u3 w14 Q14.out (own_knots_at ⟨us3, P14.out⟩)).mono ?_
  rintro e w15 ⟨rfl, b15⟩
  have O15 := Lib.hid (O14.out.below b15)
  have B15 := Lib.hid (below_end B14.out b15)
  clear b15 O14 P14 B14 Q14
  go_wp2_with fail
  refine (CH.out u5 w15 O15.out).mono ?_
  rintro e w16 ⟨rfl, b16⟩
  have B16 := Lib.hid (below_end B15.out b16)
  clear b16 O15 B15
  go_wp2
  go_ret
  exact ⟨rfl, B16.out⟩

set_option maxRecDepth 100000 in
theorem contract (H : Type) (enc : TypeId × Value → H) (W : World) (base : Nat) (args : Array Value) (ds gs : List (DataW H)) (before : List MemPlace)
    (hval : ∀ (j : Nat) t v, Tryd.f3.params[j]? = some t → args[j]? = some v → Value.okWide Tryd.prog W .any base t v)
    (hW : DataW.Whole enc Tryd.prog Tryd.f3.params.toList Rows.fnExactWithoutIdSpec.vars false W args.toList ds gs before) (hsh : W.ShapedOpen Tryd.prog) :
    Calls Tryd.prog 3 args W fun e W' => ∃ v, e = .returned v ∧ Rows.fnExactWithoutIdSpec.post enc Tryd.prog Tryd.f3 false true false false W args v W' := by
  have hW' := hW
  obtain ⟨p, q, hA0, hV, rfl, hfz, hnd⟩ := hW
  have hA : DataW.TrodAll enc Tryd.prog W 0 (fun _ => true) true Tryd.f3.params.toList args.toList ds p := hA0
  rw [Tryd.params3] at hA hval
  obtain ⟨v0, vs0, d0, ds0, p0, q0, hargs, rfl, rfl, h0, r0⟩ := trodAll_cons hA
  obtain ⟨v1, vs1, d1, ds1, p1, q1, rfl, rfl, rfl, h1, r1⟩ := trodAll_cons r0
  obtain ⟨v2, vs2, d2, ds2, p2, q2, rfl, rfl, rfl, h2, r2⟩ := trodAll_cons r1
  obtain ⟨rfl, rfl, rfl⟩ := trodAll_nil r2
  obtain rfl : args = #[v0, v1, v2] := by cases args; simp_all
  obtain ⟨rfl, rfl⟩ := trodVars_none hV
  obtain ⟨a0, len0, cap0, rfl⟩ := okWide_slice Tryd.underlying22 (hval 0 22 v0 rfl rfl)
  have k0 := h0
  have lt0 : ∀ x ∈ p0, x.block < W.heap.size := by obtain ⟨m, hm⟩ := k0; exact DataW.trod_lt m _ _ _ hm
  have w0 : ∃ l, KnotsAt W (.slice a0 len0 cap0) l ∧ ∀ y ∈ l, y.1.size ≤ maxLen := by
    obtain ⟨fuel, hf⟩ := h0
    obtain ⟨v, l, hcs, hk, hs⟩ := knots_read Tryd.underlying22 Tryd.underlying34 (by kernel_rfl) rfl rfl rfl rfl Tryd.underlying9 (by kernel_rfl) Tryd.underlying32 (by kernel_rfl) Tryd.underlying2 (by kernel_rfl) hf
    simp [Value.cells] at hcs
    subst hcs
    exact ⟨l, hk, hs⟩
  obtain ⟨l0, w0, s0⟩ := w0
  obtain ⟨a1, rfl, rfl, rfl, w1⟩ := open_string Tryd.underlying9 (hval 1 9 v1 rfl rfl) h1
  obtain ⟨a2, rfl, rfl, rfl, w2⟩ := open_int Tryd.underlying2 (hval 2 2 v2 rfl rfl) h2
  clear hA0
  simp only [List.append_nil] at hW'
  obtain ⟨m, hm⟩ := maxLen_cell hsh
  refine (law W _ l0 w0 s0 a1 w1 a2 w2 m hm).mono fun e W' ⟨he, hg⟩ => ?_
  subst he
  exact ⟨_, rfl, _, _, _, [], _, [], hW', trodAll_cons_mk (shut_bool Tryd.underlying4 _) trodAll_mk0, trodAll_cons_mk (Below.trod laidOut (by kernel_rfl) (of_decide_eq_true (by kernel_rfl)) k0 hg lt0) (trodAll_cons_mk (shut_string Tryd.underlying9 w1) (trodAll_cons_mk (shut_int Tryd.underlying2 w2) (trodAll_mk0))), rfl, hg.frame _, fun h => by cases h⟩

theorem reads (os : Os) {H : Type} (enc : TypeId × Value → H) : ∃ places, DataW.whole enc Tryd.prog ((World.laidAll Tryd.prog os Rows.fnExactWithoutIdRow.laid).forCall (fun _ _ => 0) ⟨#[], #[(.slice none 0 0 : Value), (.string ByteArray.empty : Value), (.int .i64 0 : Value)], []⟩).memory Tryd.f3.params.toList Rows.fnExactWithoutIdSpec.vars false (#[(.slice none 0 0 : Value), (.string ByteArray.empty : Value), (.int .i64 0 : Value)] : Array Value).toList 8 = some ([.nil, .lit (.string []), .lit (.int .i64 0)], [], places) :=
  ⟨[], by kernel_rfl⟩

theorem laid_met (os : Os) : laidMetH Tryd.prog Rows.fnExactWithoutIdRow.laid ((World.laidAll Tryd.prog os Rows.fnExactWithoutIdRow.laid).forCall (fun _ _ => 0) ⟨#[], #[(.slice none 0 0 : Value), (.string ByteArray.empty : Value), (.int .i64 0 : Value)], []⟩).memory := by
  rw [MakeChecks.laidMetH_plain _ _ _ (by kernel_rfl)]
  exact laidMet_laidAll _ (by kernel_rfl) (by kernel_rfl)

set_option maxRecDepth 100000 in
theorem lifted (os : Os) (started : os.Started) (H : Type) (enc : TypeId × Value → H) (F : Stop.Interp) :
    ReturnsInHanded {} Tryd.checked os 3 .any ((OpenSpec.ofChange Rows.fnExactWithoutIdSpec).preRow enc Tryd.prog Tryd.f3 Rows.fnExactWithoutIdRow.domain false Rows.fnExactWithoutIdRow.laid) (((OpenSpec.ofChange Rows.fnExactWithoutIdSpec).at F).post enc Tryd.prog Tryd.f3 false true false false) := by
  obtain ⟨places, hx⟩ := reads os enc
  refine returnsInHanded_of_row (C := Tryd.checked) (s := OpenSpec.ofChange Rows.fnExactWithoutIdSpec) own started (by kernel_rfl) Tryd.func3
    (witness_row_at (enc := enc) (C := Tryd.checked) false (World.laidAll Tryd.prog os Rows.fnExactWithoutIdRow.laid) #[(.slice none 0 0 : Value), (.string ByteArray.empty : Value), (.int .i64 0 : Value)] (World.laidAll_os _ _ _) (by kernel_rfl) (by kernel_rfl) (by kernel_rfl)
      (OpenSpec.preRow_of_cond 8 hx (by kernel_rfl) (fun k hk => by cases hk) (by kernel_rfl) (laid_met os))) ?_
  intro W base args ds gs before hval hW _ _ _ _ hsh _
  exact contract H enc W base args ds gs before hval hW hsh

theorem said : Rows.FnExactWithoutIdSaid :=
  OpenClaim.holds_of_cond 3 Tryd.f3 rfl rfl rfl rfl rfl rfl rfl ⟨rfl, rfl, rfl, rfl, rfl⟩ rfl rfl rfl rfl rfl (by kernel_rfl) Tryd.func3 (by kernel_rfl)
    (of_decide_eq_true (by kernel_rfl)) (by unfold Func.isWrapper; first | (rw [if_pos (by decide +kernel)]; kernel_rfl) | (rw [if_neg (by decide +kernel)]; exact ⟨rfl, rfl⟩))
    (fun os started H enc _ F => by rw [OpenClaim.pre_eq_preRow]; exact lifted os started H enc F)

theorem plain (f : FuncId) (fn : Func) (hf : Tryd.pinned.checked.prog.funcNamed Tryd.f3.name = some f) (hfn : Tryd.pinned.checked.prog.funcs[f]? = some fn) :
    false = Tryd.pinned.checked.prog.looks [] ∧ ∀ (j : Nat) t, fn.params[j]? = some t → Tryd.pinned.checked.prog.wantsStandIn t = false := by
  obtain rfl : f = 3 := Option.some.inj ((show Tryd.prog.funcNamed Tryd.f3.name = some 3 by kernel_rfl).symm.trans hf) |>.symm
  obtain rfl : fn = Tryd.f3 := (Option.some.inj (Tryd.func3.symm.trans hfn)).symm
  refine ⟨by kernel_rfl, fun j t ht => ?_⟩
  rw [Tryd.params3] at ht
  have hm := Array.mem_of_getElem? ht
  have hall : (Tryd.f3.params.all fun u => !Tryd.prog.wantsStandIn u) = true := by kernel_rfl
  rw [Tryd.params3] at hall
  rw [Array.all_eq_true_iff_forall_mem] at hall
  have := hall t hm
  exact (show Tryd.prog.wantsStandIn t = false by simpa using this)

theorem card : Rows.FnExactWithoutIdCardSaid :=
  Claim7.holds_tied_plain_at .later [] _ _ _ _ said (fun _ h => by cases h) (by kernel_rfl) (fun _ h => by cases h) fnExactWithoutId_row_tie rfl ⟨rfl, rfl⟩ (by kernel_rfl) rfl plain (by kernel_rfl)
end Go.Proofs.YtojifogefnjefaaDoor.lawFnExactWithoutId
