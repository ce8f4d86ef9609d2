/- The law FnIds holds at every argument: for every input it returns true and leaves the input as it was. -/
import Derived.Test.YtcpoodhbakkmcaaGreatDoorZB3
import Derived.Test.YtcpoodhbakkmcaaGreatDoorZDrawI
import Derived.Test.YtcpoodhbakkmcaaGreatDoorZB9
import Derived.Test.YtcpoodhbakkmcaaGreatDoorZB8
import Derived.Test.YtcpoodhbakkmcaaGreatDoorZIIdsF
import Derived.Test.YtcpoodhbakkmcaaGreatDoorZSTrie9
import Derived.Test.YtcpoodhbakkmcaaGreatDoorZB2
import Derived.Test.YtcpoodhbakkmcaaGreatDoorZB4
import Derived.Test.YtcpoodhbakkmcaaGreatDoorZLikeT
set_option linter.unusedSimpArgs false
set_option linter.unusedVariables false
namespace Go.Proofs.YtcpoodhbakkmcaaGreatDoor.lawFnIds
open Go.ChangeShapes Go.WideShapes Go.ChangeAt Go.RowKit Go.WideMaps Go.WideElems
open Go.ChangeMaps (open_string shut_string)

theorem pruneL_sub : ∀ (n : Nat) (l : List KnotM) (p : ByteArray), (pruneL n l p).length ≤ l.length ∧ ∀ x ∈ pruneL n l p, x ∈ l
  | 0, l, p => ⟨Nat.le_refl _, fun x h => h⟩
  | n + 1, l, p => by
    rw [pruneL]
    split
    · exact ⟨Nat.le_refl _, fun x h => h⟩
    · split
      · exact ⟨Nat.le_refl _, fun x h => h⟩
      · obtain ⟨h1, h2⟩ := pruneL_sub n (dropK l (find l p).toNat) (above p)
        have hd : (dropK l (find l p).toNat).length ≤ l.length := by unfold dropK; simp; omega
        refine ⟨Nat.le_trans h1 hd, fun x hx => ?_⟩
        have := h2 x hx
        unfold dropK at this
        rcases List.mem_append.1 this with h | h
        · exact List.mem_of_mem_take h
        · exact List.mem_of_mem_drop h

theorem withoutL_fit {b : Nat} {l : List KnotM} {f : ByteArray} {id : Int} (h : FitT b l) : FitT b (withoutL l f id).1 := by
  unfold withoutL
  split
  · split
    · exact h
    · obtain ⟨h1, h2⟩ := pruneL_sub f.size (remK l (find l f).toNat id) f
      refine ⟨Nat.le_trans h1 (by unfold remK; rw [List.length_set]; exact h.1), fun x hx => ?_⟩
      have hx2 := h2 x hx
      unfold remK at hx2
      rcases List.mem_or_eq_of_mem_set hx2 with h3 | rfl
      · exact h.2 x h3
      · by_cases hk : (find l f).toNat < l.length
        · have e : l.getD (find l f).toNat knotZ = l[(find l f).toNat] := by rw [List.getD_eq_getElem?_getD, List.getElem?_eq_getElem hk]; rfl
          rw [e]
          have := h.2 _ (List.getElem_mem hk)
          exact ⟨this.1, Nat.le_trans (List.length_filter_le _ _) this.2⟩
        · have e : l.getD (find l f).toNat knotZ = knotZ := by rw [List.getD_eq_getElem?_getD, List.getElem?_eq_none (by omega)]; rfl
          rw [e]
          exact ⟨Nat.zero_le _, Nat.zero_le _⟩
  · exact ⟨Nat.zero_le _, fun x hx => by cases hx⟩

theorem str_src (w : World) (y : ByteArray) : SrcAt (w.alloc (.cells #[.string y] 9)) (.slice (some ⟨w.heap.size, 0, none⟩) 1 1) 1 [.string y] :=
  ⟨_, _, rfl, .inr ⟨_, rfl, fun j v hv => by
    rw [Addr.add_lit, Nat.zero_add]
    exact (cell_of_heap (heap_alloc_new w _) j).trans (by rw [← hv]; simp)⟩⟩
theorem Rolls.far {g : Nat} {a : Option Addr} {len cap : Nat} {w w' : World} (h : Rolls g a len cap w) (hb : Below (g + 1) w w') : Rolls g a len cap w' := by
  obtain ⟨i, x, hh, r⟩ := h.dice
  exact ⟨⟨i, x, (hb.block g (by omega)).trans hh, r⟩, h.code.below fun k hk => hb.block k (by omega)⟩

theorem grown_some {A w : World} {o : Option Nat} {n : Nat} (hg : A.grownBy w o) (hn : 0 < n) (h : ∀ b, o = some b → b < n) : ∃ b, b < n ∧ A.grownBy w (some b) := by
  cases o with
  | none => exact ⟨0, hn, hg.os, hg.tape, hg.output, hg.size, fun k hk _ => hg.block k hk (by simp)⟩
  | some b => exact ⟨b, h b rfl, hg⟩

theorem idsL_few (l : List KnotM) (t : ByteArray) : (idsL l t).length ≤ 4000000 := Nat.le_trans (rises_short idsL_rises) (by omega)

theorem fit_one : FitT 10 [knotZ] := ⟨by simp, fun x hx => by rw [List.mem_singleton.1 hx]; exact ⟨Nat.zero_le _, Nat.zero_le _⟩⟩

set_option maxRecDepth 100000 in
set_option maxHeartbeats 12800000 in
theorem law (w : World) (a : Option Addr) (len cap : Nat) (hc : CodeAt w.heap.size a len w) (m : Int) (hm : w.cell? ⟨0, 0, none⟩ = some (.int .i64 m)) :
    Calls Tryz.prog 3 #[.slice a len cap] w fun e w' => e = .returned (.bool true) ∧ Below w.heap.size w w' := by
  have HM := Lib.hid hm
  have hlt : 0 < w.heap.size := World.block_lt_of_cell? _ _ hm
  have HC := Lib.hid hc
  clear hm hc
  have cb := big_any a len cap w
  by_cases hb : 4096 < len
  · rw [decide_eq_true hb] at cb
    go_enter Tryz.func3, Tryz.ntmps3
    go_wp2_with fail
    refine cb.mono ?_
    rintro e w1 ⟨rfl, rfl⟩
    go_wp2
    go_ret
    exact ⟨rfl, Below.refl _ _⟩
  rw [decide_eq_false hb] at cb
  obtain ⟨is, his, hzs, hys, hqs⟩ := info_parts (P := Tryz.prog) (e := 9) (z := .string ByteArray.empty) (size := 1) (bytes := 16) (by kernel_rfl)
  obtain ⟨ii, hii, hzi, hyi, hqi⟩ := info_parts (P := Tryz.prog) (e := 2) (z := .int .i64 0) (size := 1) (bytes := 8) (by kernel_rfl)
  go_enter Tryz.func3, Tryz.ntmps3
  go_wp2_with fail
  refine cb.mono ?_
  rintro e w0 ⟨rfl, rfl⟩
  clear cb
  go_wp2_with fail
  refine (roll_any a len cap 4 w (by omega) (by omega) HC.out).mono ?_
  rintro e w1 ⟨rfl, d1, b1, hs1⟩
  have R1 := Lib.hid (show Rolls w.heap.size a len cap w1 from ⟨d1, HC.out.below b1.block⟩)
  have B1 := Lib.hid b1
  obtain ⟨g, hgg⟩ : ∃ g, w.heap.size = g := ⟨_, rfl⟩
  rw [hgg] at R1 hs1 ⊢
  have hgw : w.heap.size ≤ g := by omega
  clear d1 b1 hgg
  go_wp2_with fail
  refine (implNewTrie_any w1).mono ?_
  rintro e w2 ⟨tv, rfl, k2, b2⟩
  have K2 := Lib.hid (k2.mono (A := g + 1) (by omega))
  have R2 := Lib.hid (R1.out.after b2)
  have B2 := Lib.hid (below_end B1.out b2)
  have hs2 : g < w2.heap.size := R2.out.lt
  clear k2 b2 R1 B1
  go_wp2_with fail
  have e0 := (Below.refl w2.heap.size w2).alloc (Nat.le_refl _) (.cells #[] 9)
  have O3 : Hid ((w2.alloc (.cells #[] 9)).ownsRow (g + 1) 9 1 (.slice (some ⟨w2.heap.size, 0, none⟩) 0 0) 0 (texts [])) := Lib.hid (World.ownsRow_lit (base := g + 1) (e := 9) (size := 1) w2 #[] 0 (by omega) (by unfold maxLen; omega) rfl)
  have K3 := Lib.hid (K2.out.below e0)
  have R3 := Lib.hid (R2.out.after e0)
  have B3 := Lib.hid (below_end B2.out e0)
  clear e0 K2 R2 B2
  generalize w2.alloc (.cells #[] 9) = w3 at O3 K3 R3 B3 ⊢
  generalize (Value.slice (some ⟨w2.heap.size, 0, none⟩) 0 0) = fv at O3 ⊢
  clear hs2
  go_loopw [4, 5, 6] (fun s4 s5 s6 wr => ∃ (k : Nat) (tv fv : Value) (fs : List ByteArray) (l : List KnotM), k ≤ 8 ∧ s6 = .int .i64 k ∧ s4 = tv ∧ s5 = fv ∧ Hid (fs.length = k) ∧ Hid (InvW fs 0 l) ∧ Hid (FitT (10 + 11 * k) l) ∧ Hid (KOwn wr (g + 1) tv l) ∧ Hid (wr.ownsRow (g + 1) 9 1 fv k (texts fs)) ∧ Hid (∀ f ∈ fs, DiceFilter f) ∧ Hid (Rolls g a len cap wr) ∧ Hid (Below w.heap.size w wr)) (fun _ _ i _ => 9 - (intOf i).toNat)
  case atStart => exact ⟨0, _, _, [], [knotZ], by omega, rfl, rfl, rfl, rfl, invW_start, fit_one, K3, O3, Lib.hid (fun f hf => by cases hf), R3, B3⟩
  case round =>
    obtain ⟨k, _, _, fs, l, hk, rfl, rfl, rfl, HN, HI, HF, HK, HO, HG, HRo, HB⟩ := hrel
    clear O3 K3 R3 B3
    have hgr := HRo.out.lt
    by_cases hk8 : k < 8
    · have g1 : decide ((k : Int) < 8) = true := decide_eq_true (by omega)
      go_wp2_with fail
      refine (filter_any HRo.out).mono ?_
      rintro e w4 ⟨s, rfl, hs, r4, g4⟩
      have HS := Lib.hid hs
      have hs10 : s.size ≤ 10 := hs.2
      have K4 := Lib.hid (HK.out.thrown (Nat.lt_succ_self g) g4)
      have O4 := Lib.hid (own_thrown HO.out (Nat.lt_succ_self g) g4)
      have B4 := Lib.hid (HB.out.grown g4 HB.out.size (fun j e => by cases e; exact hgw))
      have R4 := Lib.hid r4
      have hg4 : g < w4.heap.size := r4.lt
      clear hs r4 g4 HK HO HB HRo hgr
      have hput := invW_put HI.out HS.out.1 (by have h := HN.out; omega)
      rw [HN.out] at hput
      have hfit := withL_fit (id := (k : Int)) HF.out (show s.size ≤ 10 + 11 * k by omega)
      have ci := implWith_any u4 l s (k : Int) m w4 (HF.out.small (by omega)) (by omega) (own_knots_at K4.out) ((B4.out.cell hlt).trans HM.out)
      rw [hput.1] at ci
      obtain ⟨L, hL⟩ : ∃ L, (withL l s (k : Int)).1 = L := ⟨_, rfl⟩
      rw [hL] at ci hput hfit
      have HP := Lib.hid hput.2
      have HFL := Lib.hid (hfit.mono (show 10 + 11 * k + s.size + 1 ≤ 10 + 11 * (k + 1) by omega))
      have CI := Lib.hid ci
      clear ci hput hfit hL HI HF K4
      go_wp2_with fail
      refine CI.out.mono ?_
      rintro e w5 ⟨tu, rfl, k5, b5⟩
      have K5 := Lib.hid k5
      have O5 := Lib.hid (row_below O4.out b5)
      have R5 := Lib.hid (R4.out.after b5)
      have B5 := Lib.hid (below_end B4.out b5)
      have hg5 : g < w5.heap.size := R5.out.lt
      have hb45 : w4.heap.size ≤ w5.heap.size := b5.size
      have e0 := (Below.refl w5.heap.size w5).alloc (Nat.le_refl _) (.cells #[.string s] 9)
      have K6 := Lib.hid (K5.out.below e0)
      have O6 := Lib.hid (row_below O5.out e0)
      have R6 := Lib.hid (R5.out.after e0)
      have B6 := Lib.hid (below_end B5.out e0)
      have HSS := Lib.hid (str_src w5 s)
      have hs6 : g + 1 ≤ (w5.alloc (.cells #[.string s] 9)).heap.size := by simp; omega
      have HOB := Lib.hid (fun b (e : u5.ownBlock = some b) => (O4.out.lt b e).2)
      clear k5 b5 e0 O4 R4 B4 K5 R5 B5 CI O5
      go_wp2_with (at_builtin; refine wpList_append_src rfl _ _ 29 rfl (g + 1) 9 is (.string ByteArray.empty) 1 16 Tryz.underlying29 his hzs hys hqs rfl (by decide) u5 (.slice (some ⟨w5.heap.size, 0, none⟩) 1 1) k 1 (texts fs) [.string s] rfl O6.out rfl HSS.out rfl (one_string _) (by unfold maxLen; omega) (by omega) hs6 ?_; intro v' w7 hown hgr _)
      have O7 : Hid (w7.ownsRow (g + 1) 9 1 v' (k + 1) (texts (fs ++ [s]))) := Lib.hid (by rw [← texts_snoc]; exact hown)
      have hbg := (Below.refl (g + 1) (w5.alloc (.cells #[.string s] 9))).grown hgr hs6 (fun j e => (O6.out.lt j e).1)
      obtain ⟨bb, hbb, hgb⟩ := grown_some (n := w4.heap.size) hgr (by omega) HOB.out
      have K7 := Lib.hid ((K6.out.thrown hbb hgb).mono (A := g + 1) (by omega))
      have R7 := Lib.hid (Rolls.far R6.out hbg)
      have B7 := Lib.hid (B6.out.trans (hbg.mono (by omega)))
      have HN7 : Hid ((fs ++ [s]).length = k + 1) := Lib.hid (by rw [List.length_append, HN.out]; rfl)
      have HG7 : Hid (∀ f ∈ fs ++ [s], DiceFilter f) := Lib.hid (fun f hf => by
        rcases List.mem_append.1 hf with h | h
        · exact HG.out f h
        · rw [List.mem_singleton.1 h]; exact HS.out)
      clear hown hgr hbg hgb K6 O6 R6 B6 HSS HOB
      go_roundw
      case rel => exact ⟨k + 1, _, _, fs ++ [s], L, by omega, by go_num, rfl, rfl, HN7, HP, HFL, K7, O7, HG7, R7, B7⟩
      case measure => simp [intOf]; omega
    · obtain rfl : k = 8 := by omega
      have g1 : decide (((8 : Nat) : Int) < 8) = false := decide_eq_false (by omega)
      go_wp2_with fail
      refine (topic_any HRo.out).mono ?_
      rintro e w4 ⟨t, n4, rfl, hn4, _, ht8, r4, g4⟩
      have K4 := Lib.hid (HK.out.thrown (Nat.lt_succ_self g) g4)
      have O4 := Lib.hid (own_thrown HO.out (Nat.lt_succ_self g) g4)
      have B4 := Lib.hid (HB.out.grown g4 HB.out.size (fun j e => by cases e; exact hgw))
      have hg4 : g < w4.heap.size := r4.lt
      clear r4 g4 HK HO HB HRo hgr hn4
      obtain ⟨gf, cf, hfv⟩ := Joins.ownsRow_form O4.out (by omega)
      subst hfv
      have HT := Lib.hid (fun j (hj : j < 8) => show w4.cell? ⟨gf, j, none⟩ = some (.string (fs[j]'(by have h := HN.out; omega))) from by
        have h := O4.out.cellAt j (by omega)
        rw [h]; unfold texts; rw [List.getElem?_map, List.getElem?_eq_getElem (by have h := HN.out; omega)]; rfl)
      have hf8 : (8 : Nat) ≤ cf := own_cap O4.out
      clear O4
      have HIDS := Lib.hid (invW_ids HI.out (fun f hf => (HG.out f hf).1) (by have h := HN.out; omega) t)
      have HW0 : Hid (wantTo fs t 0 = []) := Lib.hid rfl
      have e0 := (Below.refl w4.heap.size w4).alloc (Nat.le_refl _) (.cells #[] 2)
      go_wp2_with fail
      have P5 : Hid ((w4.alloc (.cells #[] 2)).ownsRow w4.heap.size 2 1 (.slice (some ⟨w4.heap.size, 0, none⟩) 0 0) (wantTo fs t 0).length (ints (wantTo fs t 0))) := Lib.hid (by rw [HW0.out]; exact World.ownsRow_lit (base := w4.heap.size) (e := 2) (size := 1) w4 #[] 0 (Nat.le_refl _) (by unfold maxLen; omega) rfl)
      have E5 := Lib.hid e0
      clear e0 HW0
      generalize w4.alloc (.cells #[] 2) = w5 at P5 E5 ⊢
      generalize (Value.slice (some ⟨w4.heap.size, 0, none⟩) 0 0) = wv at P5 ⊢
      go_loopw [11, 12] (fun s11 s12 wr => ∃ (k : Nat) (wv : Value) (n : Nat), k ≤ 8 ∧ s12 = .int .i64 k ∧ s11 = wv ∧ Hid ((wantTo fs t k).length = n) ∧ n ≤ k ∧ Hid (wr.ownsRow w4.heap.size 2 1 wv n (ints (wantTo fs t k))) ∧ Hid (Below w4.heap.size w4 wr)) (fun _ i _ => 9 - (intOf i).toNat)
      case atStart => exact ⟨0, _, 0, by omega, rfl, rfl, rfl, Nat.le_refl _, P5, E5⟩
      case round =>
        obtain ⟨k, _, n, hk, rfl, rfl, HWN, hnk, HP, HE⟩ := hrel
        clear P5 E5
        by_cases hk8 : k < 8
        · have g1 : decide ((k : Int) < 8) = true := decide_eq_true (by omega)
          have g2 : (k : Int) < 8 := by omega
          have c0 := (HE.out.cell (World.block_lt_of_cell? _ _ (HT.out k hk8))).trans (HT.out k hk8)
          have hfk := (HG.out (fs[k]'(by have h := HN.out; omega)) (List.getElem_mem _)).2
          have CM := Lib.hid (fun wx => specMatches_any (fs[k]'(by have h := HN.out; omega)) t wx (by omega) (by omega))
          have HNX := Lib.hid (want_next fs t k (by have h := HN.out; omega))
          generalize fs[k]'(by have h := HN.out; omega) = f at c0 hfk CM HNX
          generalize matchB f t = b at CM HNX
          cases b
          · have hnx : wantTo fs t (k + 1) = wantTo fs t k := by rw [HNX.out]; rfl
            go_wp2_with fail
            refine (CM.out _).mono ?_
            rintro e w6 ⟨rfl, b6⟩
            have HP2 : Hid (w6.ownsRow w4.heap.size 2 1 u11 n (ints (wantTo fs t (k + 1)))) := Lib.hid (by rw [hnx]; exact row_below HP.out b6)
            have HWN2 : Hid ((wantTo fs t (k + 1)).length = n) := Lib.hid (by rw [hnx]; exact HWN.out)
            have HE2 := Lib.hid (below_end HE.out b6)
            clear b6 HP HE c0 CM HNX hnx
            go_wp2
            go_roundw
            case rel => exact ⟨k + 1, _, n, by omega, by go_num, rfl, HWN2, by omega, HP2, HE2⟩
            case measure => simp [intOf]; omega
          · have hnx : wantTo fs t (k + 1) = wantTo fs t k ++ [(k : Int)] := by rw [HNX.out]; rfl
            go_wp2_with fail
            refine (CM.out _).mono ?_
            rintro e w6 ⟨rfl, b6⟩
            have e0 := (Below.refl w6.heap.size w6).alloc (Nat.le_refl _) (.cells #[.int .i64 (k : Int)] 2)
            have P7 := Lib.hid (row_below (row_below HP.out b6) e0)
            have E7 := Lib.hid (below_end (below_end HE.out b6) e0)
            have HSS := Lib.hid (int_src w6 (k : Int))
            have hb7 : w4.heap.size ≤ (w6.alloc (.cells #[.int .i64 (k : Int)] 2)).heap.size := E7.out.size
            clear b6 e0 HP HE c0 CM HNX
            go_wp2_with (at_builtin; refine wpList_append_src rfl _ _ 33 rfl w4.heap.size 2 ii (.int .i64 0) 1 8 Tryz.underlying33 hii hzi hyi hqi rfl (by decide) u11 (.slice (some ⟨w6.heap.size, 0, none⟩) 1 1) n 1 (ints (wantTo fs t k)) [.int .i64 (k : Int)] rfl P7.out rfl HSS.out rfl (by intro u hu; rw [List.mem_singleton.1 hu]; rfl) (by unfold maxLen; omega) (by omega) hb7 ?_; intro v' w8 hown hgr _)
            have HP2 : Hid (w8.ownsRow w4.heap.size 2 1 v' (n + 1) (ints (wantTo fs t (k + 1)))) := Lib.hid (by rw [hnx]; unfold ints; rw [List.map_append]; exact hown)
            have HWN2 : Hid ((wantTo fs t (k + 1)).length = n + 1) := Lib.hid (by rw [hnx, List.length_append, HWN.out]; rfl)
            have HE2 := Lib.hid (E7.out.grown hgr E7.out.size (fun j e => (P7.out.lt j e).1))
            clear hown hgr P7 E7 HSS hnx
            go_roundw
            case rel => exact ⟨k + 1, _, n + 1, by omega, by go_num, rfl, HWN2, by omega, HP2, HE2⟩
            case measure => simp [intOf]; omega
        · obtain rfl : k = 8 := by omega
          have g1 : decide (((8 : Nat) : Int) < 8) = false := decide_eq_false (by omega)
          have HWV := Lib.hid (own_ints_at HP.out)
          have KW := Lib.hid (own_knots_at (K4.out.below HE.out))
          have BW := Lib.hid (below_end B4.out HE.out)
          have HTW := Lib.hid (fun j (hj : j < 8) => show wr.cell? ⟨gf, j, none⟩ = some (.string (fs[j]'(by have h := HN.out; omega))) from (HE.out.cell (World.block_lt_of_cell? _ _ (HT.out j hj))).trans (HT.out j hj))
          clear HP HE K4 B4 HT
          have HLW : Hid ((wantTo fs t 8).length ≤ 4000000 ∧ idsL l t = wantTo fs t 8) := Lib.hid ⟨by rw [HWN.out]; omega, by rw [HIDS.out, HN.out]⟩
          clear HWN HIDS
          go_wp2_with fail
          refine (drawIdsFor_any (by omega) ((HC.out.below BW.out.block).mono BW.out.size)).mono ?_
          rintro e w9 ⟨dv, l2, s2, rfl, k9, hf2, hs2, b9⟩
          have KD9 := Lib.hid k9
          have KT9 := Lib.hid (KW.out.below b9)
          have HV9 := Lib.hid (HWV.out.below b9)
          have B9 := Lib.hid (below_end BW.out b9)
          have E9 := Lib.hid b9
          have HF2 := Lib.hid hf2
          clear k9 b9 hf2 KW HWV
          have ci := implIds_any u4 l t m w9 (HF.out.small (by omega)) (by omega) KT9.out ((B9.out.cell hlt).trans HM.out)
          rw [HLW.out.2] at ci
          have CI := Lib.hid ci
          clear ci
          go_wp2_with fail
          refine CI.out.mono ?_
          rintro e w10 ⟨iv, rfl, ho, b10⟩
          have HI10 := Lib.hid (own_ints_at ho)
          have KD10 := Lib.hid (KD9.out.below b10)
          have KT10 := Lib.hid (KT9.out.below b10)
          have HV10 := Lib.hid (HV9.out.below b10)
          have B10 := Lib.hid (below_end B9.out b10)
          have E10 := Lib.hid (below_end E9.out b10)
          clear ho b10 KD9 KT9 HV9 B9 E9 CI
          go_wp2_with fail
          refine (likeInts_any _ _ (wantTo fs t 8) w10 HLW.out.1 HI10.out HV10.out).mono ?_
          rintro e w11 ⟨rfl, b11⟩
          have KD11 := Lib.hid (KD10.out.below b11)
          have KT11 := Lib.hid (KT10.out.below b11)
          have B11 := Lib.hid (below_end B10.out b11)
          have E11 := Lib.hid (below_end E10.out b11)
          clear b11 KD10 KT10 HV10 HI10 B10 E10 HLW
          go_wp2_with fail
          refine (implIds_any dv l2 s2 m w11 (HF2.out.small (by omega)) (by omega) KD11.out ((B11.out.cell hlt).trans HM.out)).mono ?_
          rintro e w12 ⟨iv, rfl, ho, b12⟩
          have HI12 := Lib.hid (own_ints_at ho)
          have KD12 := Lib.hid (KD11.out.below b12)
          have KT12 := Lib.hid (KT11.out.below b12)
          have B12 := Lib.hid (below_end B11.out b12)
          have E12 := Lib.hid (below_end E11.out b12)
          clear ho b12 KD11 KT11 B11 E11
          go_wp2_with fail
          refine (specIds_any dv l2 s2 w12 (HF2.out.small (by omega)) (by omega) KD12.out).mono ?_
          rintro e w13 ⟨jv, rfl, ho, b13⟩
          have HJ13 := Lib.hid (own_ints_at ho)
          have HI13 := Lib.hid (HI12.out.below b13)
          have KT13 := Lib.hid (KT12.out.below b13)
          have B13 := Lib.hid (below_end B12.out b13)
          have E13 := Lib.hid (below_end E12.out b13)
          clear ho b13 KD12 KT12 B12 E12 HI12
          go_wp2_with fail
          refine (likeInts_any _ _ (idsL l2 s2) w13 (idsL_few l2 s2) HI13.out HJ13.out).mono ?_
          rintro e w14 ⟨rfl, b14⟩
          have KT14 := Lib.hid (KT13.out.below b14)
          have E14 := Lib.hid (below_end E13.out b14)
          clear b14 KT13 B13 E13 HI13 HJ13 HF2 hs2
          have HF3 := Lib.hid (HF.out.mono (show 10 + 11 * 8 ≤ 98 by omega))
          have HGG := HG
          clear HF HG
          go_wp2_with fail
          go_loopw [4, 15] (fun s4 s15 wx => ∃ (k : Nat) (tv : Value) (l : List KnotM), k ≤ 8 ∧ s15 = .int .i64 k ∧ s4 = tv ∧ Hid (InvW fs k l) ∧ Hid (FitT 98 l) ∧ Hid (KnotsAt wx tv l) ∧ Hid (Below wr.heap.size wr wx)) (fun _ i _ => 9 - (intOf i).toNat)
          case atStart => exact ⟨0, _, l, by omega, rfl, rfl, HI, HF3, KT14, E14⟩
          case round =>
            obtain ⟨k, _, l, hk, rfl, rfl, HI, HF, HK, HE⟩ := hrel
            clear KT14 E14 HF3
            by_cases hk8 : k < 8
            · have g1 : decide ((k : Int) < 8) = true := decide_eq_true (by omega)
              have g2 : (k : Int) < 8 := by omega
              have c0 := (HE.out.cell (World.block_lt_of_cell? _ _ (HTW.out k hk8))).trans (HTW.out k hk8)
              have hfk := (HGG.out (fs[k]'(by have h := HN.out; omega)) (List.getElem_mem _)).2
              have HI2 := Lib.hid (invW_take HI.out (show k < fs.length by have h := HN.out; omega))
              have HF2 := Lib.hid (withoutL_fit (f := fs[k]'(by have h := HN.out; omega)) (id := (k : Int)) HF.out)
              have CI := Lib.hid (implWithout_any u4 l (fs[k]'(by have h := HN.out; omega)) (k : Int) m _ (HF.out.small (by omega)) (by omega) HK.out (((below_end BW.out HE.out).cell hlt).trans HM.out))
              generalize fs[k]'(by have h := HN.out; omega) = f at c0 hfk HI2 HF2 CI
              obtain ⟨L, hL⟩ : ∃ L, (withoutL l f (k : Int)).1 = L := ⟨_, rfl⟩
              obtain ⟨bb, hbb⟩ : ∃ bb, (withoutL l f (k : Int)).2 = bb := ⟨_, rfl⟩
              rw [hL] at HI2 HF2
              rw [hL, hbb] at CI
              clear hL hbb
              go_wp2_with fail
              refine CI.out.mono ?_
              rintro e w16 ⟨tu, rfl, k16, b16⟩
              have HK2 := Lib.hid (own_knots_at k16)
              have HE2 := Lib.hid (below_end HE.out b16)
              clear k16 b16 CI c0 HI HF HK HE
              go_wp2
              go_roundw
              case rel => exact ⟨k + 1, _, L, by omega, by go_num, rfl, HI2, HF2, HK2, HE2⟩
              case measure => simp [intOf]; omega
            · obtain rfl : k = 8 := by omega
              have g1 : decide (((8 : Nat) : Int) < 8) = false := decide_eq_false (by omega)
              have hl0 := invW_end (by rw [HN.out]; exact HI.out)
              subst hl0
              have BE := Lib.hid (below_end BW.out HE.out)
              clear HI HF HE BW HTW
              go_wp2_with fail
              refine (implNewTrie_any _).mono ?_
              rintro e w16 ⟨nt, rfl, k16, b16⟩
              have KN := Lib.hid (own_knots_at k16)
              have KT := Lib.hid (HK.out.below b16)
              have B16 := Lib.hid (below_end BE.out b16)
              clear k16 b16 HK BE
              go_wp2_with fail
              refine (likeTrie_any _ _ [knotZ] w16 (by simp) (fun x hx => by rw [List.mem_singleton.1 hx]; exact Nat.zero_le _) KT.out KN.out).mono ?_
              rintro e w17 ⟨rfl, b17⟩
              have B17 := Lib.hid (below_end B16.out b17)
              clear b17 KT KN B16
              go_wp2
              go_ret
              exact ⟨rfl, B17.out⟩

set_option maxRecDepth 100000 in
theorem contract (H : Type) (enc : TypeId × Value → H) (W : World) (base : Nat) (args : Array Value) (ds gs : List (DataW H)) (before : List MemPlace)
    (hval : ∀ (j : Nat) t v, Tryz.f3.params[j]? = some t → args[j]? = some v → Value.okWide Tryz.prog W .any base t v)
    (hW : DataW.Whole enc Tryz.prog Tryz.f3.params.toList Rows.fnIdsSpec.vars false W args.toList ds gs before) (hsh : W.ShapedOpen Tryz.prog) :
    Calls Tryz.prog 3 args W fun e W' => ∃ v, e = .returned v ∧ Rows.fnIdsSpec.post enc Tryz.prog Tryz.f3 false true false false W args v W' := by
  have hW' := hW
  obtain ⟨p, q, hA0, hV, rfl, hfz, hnd⟩ := hW
  have hA : DataW.TrodAll enc Tryz.prog W 0 (fun _ => true) true Tryz.f3.params.toList args.toList ds p := hA0
  rw [Tryz.params3] at hA hval
  obtain ⟨v0, vs0, d0, ds0, p0, q0, hargs, rfl, rfl, h0, r0⟩ := trodAll_cons hA
  obtain ⟨rfl, rfl, rfl⟩ := trodAll_nil r0
  obtain rfl : args = #[v0] := by cases args; simp_all
  obtain ⟨rfl, rfl⟩ := trodVars_none hV
  obtain ⟨a0, len0, cap0, rfl⟩ := okWide_slice Tryz.underlying22 (hval 0 22 v0 rfl rfl)
  have k0 := h0
  have lt0 : ∀ x ∈ p0, x.block < W.heap.size := by obtain ⟨m, hm⟩ := k0; exact DataW.trod_lt m _ _ _ hm
  have w0 : CodeAt W.heap.size a0 len0 W := by
    obtain ⟨fuel, hf⟩ := h0
    rcases open_ints Tryz.underlying22 Tryz.underlying5 (by kernel_rfl) hf with ⟨hcs, _⟩ | ⟨x, l, c, zs, hcs, _, hl, hm, hz, _, hcell, hwz⟩
    · simp [Value.cells] at hcs
      obtain ⟨rfl, rfl, rfl⟩ := hcs
      exact .inl rfl
    · simp [Value.cells] at hcs
      obtain ⟨rfl, rfl, rfl⟩ := hcs
      exact CodeAt.of_ints hl (by simpa using hz) hcell hwz
  clear hA0
  simp only [List.append_nil] at hW'
  obtain ⟨m, hm⟩ := maxLen_cell hsh
  refine (law W a0 len0 cap0 w0 m hm).mono fun e W' ⟨he, hg⟩ => ?_
  subst he
  exact ⟨_, rfl, _, _, _, [], _, [], hW', trodAll_cons_mk (shut_bool Tryz.underlying4 _) trodAll_mk0, trodAll_cons_mk (Below.trod laidOut (by kernel_rfl) (of_decide_eq_true (by kernel_rfl)) k0 hg lt0) (trodAll_mk0), rfl, hg.frame _, fun h => by cases h⟩

theorem reads (os : Os) {H : Type} (enc : TypeId × Value → H) : ∃ places, DataW.whole enc Tryz.prog ((World.laidAll Tryz.prog os Rows.fnIdsRow.laid).forCall (fun _ _ => 0) ⟨#[], #[(.slice none 0 0 : Value)], []⟩).memory Tryz.f3.params.toList Rows.fnIdsSpec.vars false (#[(.slice none 0 0 : Value)] : Array Value).toList 8 = some ([.nil], [], places) :=
  ⟨[], by kernel_rfl⟩

theorem laid_met (os : Os) : laidMetH Tryz.prog Rows.fnIdsRow.laid ((World.laidAll Tryz.prog os Rows.fnIdsRow.laid).forCall (fun _ _ => 0) ⟨#[], #[(.slice none 0 0 : Value)], []⟩).memory := by
  rw [MakeChecks.laidMetH_plain _ _ _ (by kernel_rfl)]
  exact laidMet_laidAll _ (by kernel_rfl) (by kernel_rfl)

set_option maxRecDepth 100000 in
theorem lifted (os : Os) (started : os.Started) (H : Type) (enc : TypeId × Value → H) (F : Stop.Interp) :
    ReturnsInHanded {} Tryz.checked os 3 .any ((OpenSpec.ofChange Rows.fnIdsSpec).preRow enc Tryz.prog Tryz.f3 Rows.fnIdsRow.domain false Rows.fnIdsRow.laid) (((OpenSpec.ofChange Rows.fnIdsSpec).at F).post enc Tryz.prog Tryz.f3 false true false false) := by
  obtain ⟨places, hx⟩ := reads os enc
  refine returnsInHanded_of_row (C := Tryz.checked) (s := OpenSpec.ofChange Rows.fnIdsSpec) own started (by kernel_rfl) Tryz.func3
    (witness_row_at (enc := enc) (C := Tryz.checked) false (World.laidAll Tryz.prog os Rows.fnIdsRow.laid) #[(.slice none 0 0 : Value)] (World.laidAll_os _ _ _) (by kernel_rfl) (by kernel_rfl) (by kernel_rfl)
      (OpenSpec.preRow_of_cond 8 hx (by kernel_rfl) (fun k hk => by cases hk) (by kernel_rfl) (laid_met os))) ?_
  intro W base args ds gs before hval hW _ _ _ _ hsh _
  exact contract H enc W base args ds gs before hval hW hsh

theorem said : Rows.FnIdsSaid :=
  OpenClaim.holds_of_cond 3 Tryz.f3 rfl rfl rfl rfl rfl rfl rfl ⟨rfl, rfl, rfl, rfl, rfl⟩ rfl rfl rfl rfl rfl (by kernel_rfl) Tryz.func3 (by kernel_rfl)
    (of_decide_eq_true (by kernel_rfl)) (by unfold Func.isWrapper; first | (rw [if_pos (by decide +kernel)]; kernel_rfl) | (rw [if_neg (by decide +kernel)]; exact ⟨rfl, rfl⟩))
    (fun os started H enc _ F => by rw [OpenClaim.pre_eq_preRow]; exact lifted os started H enc F)

theorem plain (f : FuncId) (fn : Func) (hf : Tryz.pinned.checked.prog.funcNamed Tryz.f3.name = some f) (hfn : Tryz.pinned.checked.prog.funcs[f]? = some fn) :
    false = Tryz.pinned.checked.prog.looks [] ∧ ∀ (j : Nat) t, fn.params[j]? = some t → Tryz.pinned.checked.prog.wantsStandIn t = false := by
  obtain rfl : f = 3 := Option.some.inj ((show Tryz.prog.funcNamed Tryz.f3.name = some 3 by kernel_rfl).symm.trans hf) |>.symm
  obtain rfl : fn = Tryz.f3 := (Option.some.inj (Tryz.func3.symm.trans hfn)).symm
  refine ⟨by kernel_rfl, fun j t ht => ?_⟩
  rw [Tryz.params3] at ht
  have hm := Array.mem_of_getElem? ht
  have hall : (Tryz.f3.params.all fun u => !Tryz.prog.wantsStandIn u) = true := by kernel_rfl
  rw [Tryz.params3] at hall
  rw [Array.all_eq_true_iff_forall_mem] at hall
  have := hall t hm
  exact (show Tryz.prog.wantsStandIn t = false by simpa using this)

theorem card : Rows.FnIdsCardSaid :=
  Claim7.holds_tied_plain_at .later [] _ _ _ _ said (fun _ h => by cases h) (by kernel_rfl) (fun _ h => by cases h) fnIds_row_tie rfl ⟨rfl, rfl⟩ (by kernel_rfl) rfl plain (by kernel_rfl)
end Go.Proofs.YtcpoodhbakkmcaaGreatDoor.lawFnIds
