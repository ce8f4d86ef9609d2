/- The law FnTries holds at every argument: for every input it returns true and leaves the input as it was. -/
import Derived.Test.YtjbobnbbijemmaaDoorZB3
import Derived.Test.YtjbobnbbijemmaaDoorZDrawV
import Derived.Test.YtjbobnbbijemmaaDoorZB9
import Derived.Test.YtjbobnbbijemmaaDoorZB8
import Derived.Test.YtjbobnbbijemmaaDoorZSTrieR
import Derived.Test.YtjbobnbbijemmaaDoorZB4
import Derived.Test.YtjbobnbbijemmaaDoorZILinkT
import Derived.Test.YtjbobnbbijemmaaDoorZSTrie2
import Derived.Test.YtjbobnbbijemmaaDoorZSTrie8
import Derived.Test.YtjbobnbbijemmaaDoorZLikeT
set_option linter.unusedSimpArgs false
set_option linter.unusedVariables false
namespace Go.Proofs.YtjbobnbbijemmaaDoor.lawFnTries
open Go.ChangeShapes Go.WideShapes Go.ChangeAt Go.RowKit Go.WideMaps Go.WideElems
open Go.ChangeMaps (open_string shut_string)

theorem pruneL_sub : ∀ (n : Nat) (l : List KnotM) (p : ByteArray), (pruneL n l p).length ≤ l.length ∧ ∀ x ∈ pruneL n l p, x ∈ l
  | 0, l, p => ⟨Nat.le_refl _, fun x h => h⟩
  | n + 1, l, p => by
    rw [pruneL]
    split
    · exact ⟨Nat.le_refl _, fun x h => h⟩
    · split
      · exact ⟨Nat.le_refl _, fun x h => h⟩
      · obtain ⟨h1, h2⟩ := pruneL_sub n (dropK l (find l p).toNat) (above p)
        have hd : (dropK l (find l p).toNat).length ≤ l.length := by unfold dropK; simp; omega
        refine ⟨Nat.le_trans h1 hd, fun x hx => ?_⟩
        have := h2 x hx
        unfold dropK at this
        rcases List.mem_append.1 this with h | h
        · exact List.mem_of_mem_take h
        · exact List.mem_of_mem_drop h

theorem withoutL_fit {b : Nat} {l : List KnotM} {f : ByteArray} {id : Int} (h : FitT b l) : FitT b (withoutL l f id).1 := by
  unfold withoutL
  split
  · split
    · exact h
    · obtain ⟨h1, h2⟩ := pruneL_sub f.size (remK l (find l f).toNat id) f
      refine ⟨Nat.le_trans h1 (by unfold remK; rw [List.length_set]; exact h.1), fun x hx => ?_⟩
      have hx2 := h2 x hx
      unfold remK at hx2
      rcases List.mem_or_eq_of_mem_set hx2 with h3 | rfl
      · exact h.2 x h3
      · by_cases hk : (find l f).toNat < l.length
        · have e : l.getD (find l f).toNat knotZ = l[(find l f).toNat] := by rw [List.getD_eq_getElem?_getD, List.getElem?_eq_getElem hk]; rfl
          rw [e]
          have := h.2 _ (List.getElem_mem hk)
          exact ⟨this.1, Nat.le_trans (List.length_filter_le _ _) this.2⟩
        · have e : l.getD (find l f).toNat knotZ = knotZ := by rw [List.getD_eq_getElem?_getD, List.getElem?_eq_none (by omega)]; rfl
          rw [e]
          exact ⟨Nat.zero_le _, Nat.zero_le _⟩
  · exact ⟨Nat.zero_le _, fun x hx => by cases hx⟩


set_option maxRecDepth 100000 in
set_option maxHeartbeats 3200000 in
theorem law (w : World) (a : Option Addr) (len cap : Nat) (hc : CodeAt w.heap.size a len w) (m : Int) (hm : w.cell? ⟨0, 0, none⟩ = some (.int .i64 m)) :
    Calls Tryd.prog 3 #[.slice a len cap] w fun e w' => e = .returned (.bool true) ∧ Below w.heap.size w w' := by
  have HM := Lib.hid hm
  have hlt : 0 < w.heap.size := World.block_lt_of_cell? _ _ hm
  have HC := Lib.hid hc
  clear hm hc
  by_cases hb : 4096 < len
  · have cb := big_any a len cap w
    rw [decide_eq_true hb] at cb
    go_enter Tryd.func3, Tryd.ntmps3
    go_wp2_with fail
    refine cb.mono ?_
    rintro e w1 ⟨rfl, rfl⟩
    go_wp2
    go_ret
    exact ⟨rfl, Below.refl _ _⟩
  have cb := big_any a len cap w
  rw [decide_eq_false hb] at cb
  go_enter Tryd.func3, Tryd.ntmps3
  go_wp2_with fail
  refine cb.mono ?_
  rintro e w0 ⟨rfl, rfl⟩
  clear cb
  go_wp2_with fail
  refine (drawWithId_any (by omega) HC.out).mono ?_
  rintro e w1 ⟨u, l, f, id, rfl, k1, hf, hfs, b1⟩
  obtain ⟨xa, xn, xc, hxu⟩ : ∃ a n c, u = .slice a n c := by obtain ⟨a, c, e, _⟩ := k1; exact ⟨a, _, c, e⟩
  have HF := Lib.hid hf
  have K1 := Lib.hid k1
  have B1 := Lib.hid b1
  clear k1 b1 hf
  obtain ⟨R, hR⟩ : ∃ R, withL l f id = R := ⟨_, rfl⟩
  have HFR := Lib.hid (withL_fit (id := id) (HF.out) hfs)
  have HRT : Hid (R.2 = true → trieB R.1 = true ∧ withoutL R.1 f id = (l, true)) := Lib.hid (fun h => by
    subst hR
    have ht := withL_done h
    have hr := withL_right (f := f) (id := id) ht
    exact ⟨hr, with_without ht h hr⟩)
  have CI := Lib.hid (implWith_any u l f id m w1 (HF.out.small (by omega)) (by omega) K1.out ((B1.out.cell hlt).trans HM.out))
  have CS := Lib.hid (fun w2 k => specWith_any u l f id w2 (HF.out.small (by omega)) (by omega) k)
  have CB := Lib.hid (fun w2 v k h => implWithout_any v R.1 f id m w2 ((by rw [← hR]; exact HFR.out.small (by omega)) : KSmall R.1) (by omega) k h)
  have CTR := Lib.hid (fun w2 v h k => implTrieOk_any v R.1 m w2 ((by rw [← hR]; exact HFR.out.small (by omega)) : KSmall R.1) k h)
  have CTL := Lib.hid (fun w2 h k => implTrieOk_any u l m w2 (HF.out.small (by omega)) k h)
  have CSL := Lib.hid (fun w2 k => specTrieOk_any u l w2 (HF.out.small (by omega)) k)
  have CLR := Lib.hid (fun w2 v v' k k' => likeTrie_any v v' R.1 w2 (by have := (hR ▸ HFR.out).1; omega) (fun x hx => by have := ((hR ▸ HFR.out : FitT _ R.1).2 x hx).2; omega) k k')
  have CLL := Lib.hid (fun w2 v k k' => likeTrie_any v u l w2 (by have := HF.out.1; omega) (fun x hx => by have := (HF.out.2 x hx).2; omega) k k')
  rw [hR] at CI CS
  obtain ⟨R1, r⟩ := R
  dsimp only at CI CS CB CTR CLR HRT
  clear hR HFR HF
  subst hxu
  go_wp2_with fail
  refine CI.out.mono ?_
  rintro e w2 ⟨x, rfl, k2, b2⟩
  obtain ⟨ya, yn, yc, hxu⟩ : ∃ a n c, x = .slice a n c := by obtain ⟨a, c, e, _⟩ := own_knots_at k2; exact ⟨a, _, c, e⟩
  subst hxu
  have K2 := Lib.hid (own_knots_at k2)
  have KU2 := Lib.hid (K1.out.below b2)
  have B2 := Lib.hid (below_end B1.out b2)
  clear k2 b2 K1 B1 CI
  go_wp2_with fail
  refine (CS.out w2 KU2.out).mono ?_
  rintro e w3 ⟨y, rfl, k3, b3⟩
  obtain ⟨za, zn, zc, hxu⟩ : ∃ a n c, y = .slice a n c := by obtain ⟨a, c, e, _⟩ := own_knots_at k3; exact ⟨a, _, c, e⟩
  subst hxu
  have K3 := Lib.hid (own_knots_at k3)
  have KX3 := Lib.hid (K2.out.below b3)
  have KU3 := Lib.hid (KU2.out.below b3)
  have B3 := Lib.hid (below_end B2.out b3)
  clear k3 b3 K2 KU2 B2 CS
  go_wp2_with fail
  refine (drawWithoutId_any (by omega) ((HC.out.below B3.out.block).mono B3.out.size)).mono ?_
  rintro e w4 ⟨u2, l2, g, n, rfl, k4, hf2, hgs, b4⟩
  obtain ⟨pa, pn, pc, hxu⟩ : ∃ a n c, u2 = .slice a n c := by obtain ⟨a, c, e, _⟩ := k4; exact ⟨a, _, c, e⟩
  have HF2 := Lib.hid hf2
  have K4 := Lib.hid k4
  have KX4 := Lib.hid (KX3.out.below b4)
  have KY4 := Lib.hid (K3.out.below b4)
  have KU4 := Lib.hid (KU3.out.below b4)
  have B4 := Lib.hid (below_end B3.out b4)
  clear k4 b4 hf2 KX3 K3 KU3 B3 HC
  obtain ⟨S, hS⟩ : ∃ S, withoutL l2 g n = S := ⟨_, rfl⟩
  have HFS := Lib.hid (withoutL_fit (f := g) (id := n) HF2.out)
  have HSR : Hid (S.2 = true → trieB S.1 = true) := Lib.hid (fun h => by subst hS; exact withoutL_right (withoutL_done h))
  have CI := Lib.hid (implWithout_any u2 l2 g n m w4 (HF2.out.small (by omega)) (by omega) K4.out ((B4.out.cell hlt).trans HM.out))
  have CS := Lib.hid (fun w2 k => specWithout_any u2 l2 g n w2 (HF2.out.small (by omega)) (by omega) k (fun h => trie_paths h))
  have CTV := Lib.hid (fun v w2 h k => implTrieOk_any v S.1 m w2 ((by rw [← hS]; exact HFS.out.small (by omega)) : KSmall S.1) k h)
  have CLS := Lib.hid (fun w2 v v' k k' => likeTrie_any v v' S.1 w2 (by have := (hS ▸ HFS.out).1; omega) (fun x hx => by have := ((hS ▸ HFS.out : FitT _ S.1).2 x hx).2; omega) k k')
  rw [hS] at CI CS
  obtain ⟨S1, s⟩ := S
  dsimp only at CI CS CTV CLS HSR
  clear hS HFS HF2
  subst hxu
  go_wp2_with fail
  refine CI.out.mono ?_
  rintro e w5 ⟨v, rfl, k5, b5⟩
  obtain ⟨qa, qn, qc, hxu⟩ : ∃ a n c, v = .slice a n c := by obtain ⟨a, c, e, _⟩ := own_knots_at k5; exact ⟨a, _, c, e⟩
  subst hxu
  have KV5 := Lib.hid (own_knots_at k5)
  have K5 := Lib.hid (K4.out.below b5)
  have KX5 := Lib.hid (KX4.out.below b5)
  have KY5 := Lib.hid (KY4.out.below b5)
  have KU5 := Lib.hid (KU4.out.below b5)
  have B5 := Lib.hid (below_end B4.out b5)
  clear k5 b5 K4 KX4 KY4 KU4 B4 CI
  go_wp2_with fail
  refine (CS.out w5 K5.out).mono ?_
  rintro e w6 ⟨z, rfl, k6, b6⟩
  obtain ⟨ra, rn, rc, hxu⟩ : ∃ a n c, z = .slice a n c := by obtain ⟨a, c, e, _⟩ := own_knots_at k6; exact ⟨a, _, c, e⟩
  subst hxu
  have KZ6 := Lib.hid (own_knots_at k6)
  have KV6 := Lib.hid (KV5.out.below b6)
  have KX6 := Lib.hid (KX5.out.below b6)
  have KY6 := Lib.hid (KY5.out.below b6)
  have KU6 := Lib.hid (KU5.out.below b6)
  have B6 := Lib.hid (below_end B5.out b6)
  clear k6 b6 K5 KV5 KX5 KY5 KU5 B5 CS
  have e1 : (r == r) = true := by simp
  have e2 : (s == s) = true := by simp
  have e3 : (r != r) = false := by simp
  have e4 : (s != s) = false := by simp
  go_wp2_with fail
  refine (CLR.out w6 _ _ KX6.out KY6.out).mono ?_
  rintro e w7 ⟨rfl, b7⟩
  have KZ7 := Lib.hid (KZ6.out.below b7)
  have KV7 := Lib.hid (KV6.out.below b7)
  have KX7 := Lib.hid (KX6.out.below b7)
  have KU7 := Lib.hid (KU6.out.below b7)
  have B7 := Lib.hid (below_end B6.out b7)
  clear b7 KZ6 KV6 KX6 KY6 KU6 B6
  go_wp2_with fail
  refine (CLS.out w7 _ _ KV7.out KZ7.out).mono ?_
  rintro e w8 ⟨rfl, b8⟩
  have KV8 := Lib.hid (KV7.out.below b8)
  have KX8 := Lib.hid (KX7.out.below b8)
  have KU8 := Lib.hid (KU7.out.below b8)
  have B8 := Lib.hid (below_end B7.out b8)
  clear b8 KZ7 KV7 KX7 KU7 B7 CLS
  obtain ⟨t, ht⟩ : ∃ t, trieB l = t := ⟨_, rfl⟩
  have HTL := Lib.hid ht
  rw [ht] at CTL CSL
  clear ht
  have e5 : (t == t) = true := by simp
  have e6 : (t != t) = false := by simp
  go_wp2_with fail
  refine (CTL.out w8 ((B8.out.cell hlt).trans HM.out) KU8.out).mono ?_
  rintro e w9 ⟨rfl, b9⟩
  have KV9 := Lib.hid (KV8.out.below b9)
  have KX9 := Lib.hid (KX8.out.below b9)
  have KU9 := Lib.hid (KU8.out.below b9)
  have B9 := Lib.hid (below_end B8.out b9)
  clear b9 KV8 KX8 KU8 B8 CTL
  go_wp2_with fail
  refine (CSL.out w9 KU9.out).mono ?_
  rintro e w10 ⟨rfl, b10⟩
  have KV10 := Lib.hid (KV9.out.below b10)
  have KX10 := Lib.hid (KX9.out.below b10)
  have KU10 := Lib.hid (KU9.out.below b10)
  have B10 := Lib.hid (below_end B9.out b10)
  clear b10 KV9 KX9 KU9 B9 CSL
  go_wp2_with fail
  refine (implNewTrie_any w10).mono ?_
  rintro e w11 ⟨nt, rfl, k11, b11⟩
  obtain ⟨na, nn, nc, hxu⟩ : ∃ a n c, nt = .slice a n c := by obtain ⟨a, c, e, _⟩ := own_knots_at k11; exact ⟨a, _, c, e⟩
  subst hxu
  have KN11 := Lib.hid (own_knots_at k11)
  have KV11 := Lib.hid (KV10.out.below b11)
  have KX11 := Lib.hid (KX10.out.below b11)
  have KU11 := Lib.hid (KU10.out.below b11)
  have B11 := Lib.hid (below_end B10.out b11)
  clear k11 b11 KV10 KX10 KU10 B10
  go_wp2_with fail
  have CN := implTrieOk_any _ [knotZ] m w11 (by refine ⟨by simp, fun x hx => ?_⟩; rw [List.mem_singleton.1 hx]; exact ⟨Nat.zero_le _, Nat.zero_le _⟩) KN11.out ((B11.out.cell hlt).trans HM.out)
  rw [trie_knotZ] at CN
  refine CN.mono ?_
  clear CN
  rintro e w12 ⟨rfl, b12⟩
  have KV12 := Lib.hid (KV11.out.below b12)
  have KX12 := Lib.hid (KX11.out.below b12)
  have KU12 := Lib.hid (KU11.out.below b12)
  have B12 := Lib.hid (below_end B11.out b12)
  clear b12 KN11 KV11 KX11 KU11 B11
  cases r
  · have BE := B12
    have KVE := KV12
    clear B12 KV12 KX12 KU12
    cases s
    · go_wp2
      go_ret
      exact ⟨rfl, BE.out⟩
    · go_wp2_with fail
      refine (CTV.out _ _ ((BE.out.cell hlt).trans HM.out) KVE.out).mono ?_
      rintro e w20 ⟨rfl, b20⟩
      have B20 := Lib.hid (below_end BE.out b20)
      clear b20
      have ht : trieB S1 = true := HSR.out (by first | trivial | rfl)
      rw [ht]
      go_wp2
      go_ret
      exact ⟨rfl, B20.out⟩
  · obtain ⟨hrt, hww⟩ := HRT.out rfl
    go_wp2_with fail
    have cbk := CB.out w12 _ KX12.out ((B12.out.cell hlt).trans HM.out)
    rw [hww] at cbk
    refine cbk.mono ?_
    clear cbk
    rintro e w13 ⟨bk, rfl, k13, b13⟩
    dsimp only at k13
    obtain ⟨ka, kn, kc, hxu⟩ : ∃ a n c, bk = .slice a n c := by obtain ⟨a, c, e, _⟩ := own_knots_at k13; exact ⟨a, _, c, e⟩
    subst hxu
    have KB13 := Lib.hid (own_knots_at k13)
    have KV13 := Lib.hid (KV12.out.below b13)
    have KX13 := Lib.hid (KX12.out.below b13)
    have KU13 := Lib.hid (KU12.out.below b13)
    have B13 := Lib.hid (below_end B12.out b13)
    clear k13 b13 KV12 KX12 KU12 B12 CB hww
    go_wp2_with fail
    refine (CLL.out w13 _ KB13.out KU13.out).mono ?_
    rintro e w14 ⟨rfl, b14⟩
    have KV14 := Lib.hid (KV13.out.below b14)
    have KX14 := Lib.hid (KX13.out.below b14)
    have B14 := Lib.hid (below_end B13.out b14)
    clear b14 KB13 KV13 KX13 KU13 B13
    go_wp2_with fail
    have ctr := CTR.out w14 _ ((B14.out.cell hlt).trans HM.out) KX14.out
    rw [hrt] at ctr
    refine ctr.mono ?_
    clear ctr
    rintro e w15 ⟨rfl, b15⟩
    have KVE := Lib.hid (KV14.out.below b15)
    have BE := Lib.hid (below_end B14.out b15)
    clear b15 KV14 KX14 B14
    cases s
    · go_wp2
      go_ret
      exact ⟨rfl, BE.out⟩
    · go_wp2_with fail
      refine (CTV.out _ _ ((BE.out.cell hlt).trans HM.out) KVE.out).mono ?_
      rintro e w20 ⟨rfl, b20⟩
      have B20 := Lib.hid (below_end BE.out b20)
      clear b20
      have ht : trieB S1 = true := HSR.out (by first | trivial | rfl)
      rw [ht]
      go_wp2
      go_ret
      exact ⟨rfl, B20.out⟩

set_option maxRecDepth 100000 in
theorem contract (H : Type) (enc : TypeId × Value → H) (W : World) (base : Nat) (args : Array Value) (ds gs : List (DataW H)) (before : List MemPlace)
    (hval : ∀ (j : Nat) t v, Tryd.f3.params[j]? = some t → args[j]? = some v → Value.okWide Tryd.prog W .any base t v)
    (hW : DataW.Whole enc Tryd.prog Tryd.f3.params.toList Rows.fnTriesSpec.vars false W args.toList ds gs before) (hsh : W.ShapedOpen Tryd.prog) :
    Calls Tryd.prog 3 args W fun e W' => ∃ v, e = .returned v ∧ Rows.fnTriesSpec.post enc Tryd.prog Tryd.f3 false true false false W args v W' := by
  have hW' := hW
  obtain ⟨p, q, hA0, hV, rfl, hfz, hnd⟩ := hW
  have hA : DataW.TrodAll enc Tryd.prog W 0 (fun _ => true) true Tryd.f3.params.toList args.toList ds p := hA0
  rw [Tryd.params3] at hA hval
  obtain ⟨v0, vs0, d0, ds0, p0, q0, hargs, rfl, rfl, h0, r0⟩ := trodAll_cons hA
  obtain ⟨rfl, rfl, rfl⟩ := trodAll_nil r0
  obtain rfl : args = #[v0] := by cases args; simp_all
  obtain ⟨rfl, rfl⟩ := trodVars_none hV
  obtain ⟨a0, len0, cap0, rfl⟩ := okWide_slice Tryd.underlying22 (hval 0 22 v0 rfl rfl)
  have k0 := h0
  have lt0 : ∀ x ∈ p0, x.block < W.heap.size := by obtain ⟨m, hm⟩ := k0; exact DataW.trod_lt m _ _ _ hm
  have w0 : CodeAt W.heap.size a0 len0 W := by
    obtain ⟨fuel, hf⟩ := h0
    rcases open_ints Tryd.underlying22 Tryd.underlying5 (by kernel_rfl) hf with ⟨hcs, _⟩ | ⟨x, l, c, zs, hcs, _, hl, hm, hz, _, hcell, hwz⟩
    · simp [Value.cells] at hcs
      obtain ⟨rfl, rfl, rfl⟩ := hcs
      exact .inl rfl
    · simp [Value.cells] at hcs
      obtain ⟨rfl, rfl, rfl⟩ := hcs
      exact CodeAt.of_ints hl (by simpa using hz) hcell hwz
  clear hA0
  simp only [List.append_nil] at hW'
  obtain ⟨m, hm⟩ := maxLen_cell hsh
  refine (law W a0 len0 cap0 w0 m hm).mono fun e W' ⟨he, hg⟩ => ?_
  subst he
  exact ⟨_, rfl, _, _, _, [], _, [], hW', trodAll_cons_mk (shut_bool Tryd.underlying4 _) trodAll_mk0, trodAll_cons_mk (Below.trod laidOut (by kernel_rfl) (of_decide_eq_true (by kernel_rfl)) k0 hg lt0) (trodAll_mk0), rfl, hg.frame _, fun h => by cases h⟩

theorem reads (os : Os) {H : Type} (enc : TypeId × Value → H) : ∃ places, DataW.whole enc Tryd.prog ((World.laidAll Tryd.prog os Rows.fnTriesRow.laid).forCall (fun _ _ => 0) ⟨#[], #[(.slice none 0 0 : Value)], []⟩).memory Tryd.f3.params.toList Rows.fnTriesSpec.vars false (#[(.slice none 0 0 : Value)] : Array Value).toList 8 = some ([.nil], [], places) :=
  ⟨[], by kernel_rfl⟩

theorem laid_met (os : Os) : laidMetH Tryd.prog Rows.fnTriesRow.laid ((World.laidAll Tryd.prog os Rows.fnTriesRow.laid).forCall (fun _ _ => 0) ⟨#[], #[(.slice none 0 0 : Value)], []⟩).memory := by
  rw [MakeChecks.laidMetH_plain _ _ _ (by kernel_rfl)]
  exact laidMet_laidAll _ (by kernel_rfl) (by kernel_rfl)

set_option maxRecDepth 100000 in
theorem lifted (os : Os) (started : os.Started) (H : Type) (enc : TypeId × Value → H) (F : Stop.Interp) :
    ReturnsInHanded {} Tryd.checked os 3 .any ((OpenSpec.ofChange Rows.fnTriesSpec).preRow enc Tryd.prog Tryd.f3 Rows.fnTriesRow.domain false Rows.fnTriesRow.laid) (((OpenSpec.ofChange Rows.fnTriesSpec).at F).post enc Tryd.prog Tryd.f3 false true false false) := by
  obtain ⟨places, hx⟩ := reads os enc
  refine returnsInHanded_of_row (C := Tryd.checked) (s := OpenSpec.ofChange Rows.fnTriesSpec) own started (by kernel_rfl) Tryd.func3
    (witness_row_at (enc := enc) (C := Tryd.checked) false (World.laidAll Tryd.prog os Rows.fnTriesRow.laid) #[(.slice none 0 0 : Value)] (World.laidAll_os _ _ _) (by kernel_rfl) (by kernel_rfl) (by kernel_rfl)
      (OpenSpec.preRow_of_cond 8 hx (by kernel_rfl) (fun k hk => by cases hk) (by kernel_rfl) (laid_met os))) ?_
  intro W base args ds gs before hval hW _ _ _ _ hsh _
  exact contract H enc W base args ds gs before hval hW hsh

theorem said : Rows.FnTriesSaid :=
  OpenClaim.holds_of_cond 3 Tryd.f3 rfl rfl rfl rfl rfl rfl rfl ⟨rfl, rfl, rfl, rfl, rfl⟩ rfl rfl rfl rfl rfl (by kernel_rfl) Tryd.func3 (by kernel_rfl)
    (of_decide_eq_true (by kernel_rfl)) (by unfold Func.isWrapper; first | (rw [if_pos (by decide +kernel)]; kernel_rfl) | (rw [if_neg (by decide +kernel)]; exact ⟨rfl, rfl⟩))
    (fun os started H enc _ F => by rw [OpenClaim.pre_eq_preRow]; exact lifted os started H enc F)

theorem plain (f : FuncId) (fn : Func) (hf : Tryd.pinned.checked.prog.funcNamed Tryd.f3.name = some f) (hfn : Tryd.pinned.checked.prog.funcs[f]? = some fn) :
    false = Tryd.pinned.checked.prog.looks [] ∧ ∀ (j : Nat) t, fn.params[j]? = some t → Tryd.pinned.checked.prog.wantsStandIn t = false := by
  obtain rfl : f = 3 := Option.some.inj ((show Tryd.prog.funcNamed Tryd.f3.name = some 3 by kernel_rfl).symm.trans hf) |>.symm
  obtain rfl : fn = Tryd.f3 := (Option.some.inj (Tryd.func3.symm.trans hfn)).symm
  refine ⟨by kernel_rfl, fun j t ht => ?_⟩
  rw [Tryd.params3] at ht
  have hm := Array.mem_of_getElem? ht
  have hall : (Tryd.f3.params.all fun u => !Tryd.prog.wantsStandIn u) = true := by kernel_rfl
  rw [Tryd.params3] at hall
  rw [Array.all_eq_true_iff_forall_mem] at hall
  have := hall t hm
  exact (show Tryd.prog.wantsStandIn t = false by simpa using this)

theorem card : Rows.FnTriesCardSaid :=
  Claim7.holds_tied_plain_at .later [] _ _ _ _ said (fun _ h => by cases h) (by kernel_rfl) (fun _ h => by cases h) fnTries_row_tie rfl ⟨rfl, rfl⟩ (by kernel_rfl) rfl plain (by kernel_rfl)
end Go.Proofs.YtjbobnbbijemmaaDoor.lawFnTries
