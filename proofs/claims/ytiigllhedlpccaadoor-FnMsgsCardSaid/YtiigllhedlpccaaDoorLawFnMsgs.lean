/- The law FnMsgs holds at every argument: for every input it returns true and leaves the input as it was. -/
import Derived.Test.YtiigllhedlpccaaDoorCode
import Derived.Test.YtiigllhedlpccaaDoorIMsg
import Derived.Test.YtiigllhedlpccaaDoorDraw6
namespace Go.Proofs.YtiigllhedlpccaaDoor.lawFnMsgs
open Go.ChangeShapes Go.WideShapes Go.ChangeAt Go.RowKit Go.WideMaps Go.WideElems
open Go.ChangeMaps (open_string shut_string)

theorem msgsB_at {l : List MsgM} (h : msgsB l = true) (k : Nat) (hk : k < l.length) : msgB l[k] = true := by
  unfold msgsB msgsTo at h
  rw [List.all_eq_true] at h
  have := h k (List.mem_range.2 hk)
  rw [dif_pos hk] at this
  unfold nextM at this
  rw [Bool.and_eq_true] at this
  exact this.1

theorem good_one {s : ByteArray} (h : topicP (parts s 47) = true) : msgB (1, 0, s, 0) = true := by
  unfold msgB inB; simp [h]
theorem good_two {s : ByteArray} : msgsB [(1, 0, s, 0), (1, 0, s, 0)] = false := by
  refine msgsTo_bad (k := 1) (by simp) ?_
  unfold nextM; simp
theorem good_list {s : ByteArray} (h : topicP (parts s 47) = true) : msgsB [(1, 0, s, 0)] = true := by
  unfold msgsB
  rw [List.length_singleton, msgsTo_succ _ 0 (by simp)]
  unfold nextM
  simp [msgsTo, good_one h]

theorem lit_msgs (w : World) (l : List MsgM) (cs : Array Value) (h : cs.toList = mcells l) (n : Nat) (hn : n = l.length) (hl : l.length ≤ 100) : MsgsAt (w.alloc (.cells cs 25)) (.slice (some ⟨w.heap.size, 0, none⟩) n n) l := by
  subst hn
  refine own_msgs_at (B := w.heap.size) ?_
  have := World.ownsRow_lit (base := w.heap.size) (e := 25) (size := 4) w cs l.length (Nat.le_refl _) (by unfold maxLen; omega) (by rw [← Array.length_toList, h, mcells_length])
  rw [h] at this
  exact this

set_option maxRecDepth 100000 in
set_option maxHeartbeats 3200000 in
theorem law (w : World) (a : Option Addr) (len cap : Nat) (hc : CodeAt w.heap.size a len w) (m : Int) (hm : w.cell? ⟨0, 0, none⟩ = some (.int .i64 m)) :
    Calls Tryd.prog 3 #[.slice a len cap] w fun e w' => e = .returned (.bool true) ∧ Below w.heap.size w w' := by
  have HM := Lib.hid hm
  have hlt : 0 < w.heap.size := World.block_lt_of_cell? _ _ hm
  have HC := Lib.hid hc
  clear hm hc
  by_cases hb : 4096 < len
  · have cb := big_any a len cap w
    rw [decide_eq_true hb] at cb
    go_enter Tryd.func3, Tryd.ntmps3
    go_wp2_with fail
    refine cb.mono ?_
    rintro e w1 ⟨rfl, rfl⟩
    go_wp2
    go_ret
    exact ⟨rfl, Below.refl _ _⟩
  have cb := big_any a len cap w
  rw [decide_eq_false hb] at cb
  go_enter Tryd.func3, Tryd.ntmps3
  go_wp2_with fail
  refine cb.mono ?_
  rintro e w0 ⟨rfl, rfl⟩
  clear cb
  go_wp2_with fail
  refine (drawMsgOk_any (by omega) HC.out).mono ?_
  rintro e w1 ⟨x, rfl, hx, b1⟩
  have B1 := Lib.hid b1
  clear b1
  go_wp2_with fail
  have X2 := Lib.hid (MBox.new w1 25 x)
  have B2 := Lib.hid (below_end B1.out ((Below.refl _ w1).alloc (Nat.le_refl _) (.cells #[.int .i64 x.1, .int .i64 x.2.1, .string x.2.2.1, .int .i64 x.2.2.2] 25)))
  clear B1
  generalize w1.alloc (.cells #[.int .i64 x.1, .int .i64 x.2.1, .string x.2.2.1, .int .i64 x.2.2.2] 25) = w2 at X2 B2 ⊢
  obtain ⟨M, hM⟩ : ∃ M, w1.heap.size = M := ⟨_, rfl⟩
  rw [hM] at X2 ⊢
  clear hM
  refine (drawMsgsOk_any (by omega) ((HC.out.below B2.out.block).mono B2.out.size)).mono ?_
  rintro e w3 ⟨u, l, rfl, ho, hs, b3⟩
  have K3 := Lib.hid (own_msgs_at ho)
  have B3 := Lib.hid (below_end B2.out b3)
  have X3 := Lib.hid (X2.out.below b3)
  obtain ⟨ua, uc, hu⟩ := own_slice ho
  subst hu
  have hl8 := hs.1
  have HS := Lib.hid hs.2
  clear ho b3 B2 X2 hs
  have CM := Lib.hid (fun wx h => implMsgOk_any x m wx (by unfold ShortM at hx; omega) h)
  have CN := Lib.hid (fun wx => specMsgOk_any x wx (by unfold ShortM at hx; omega))
  have CI := Lib.hid (fun wx (h : MsgsAt wx (.slice ua l.length uc) l) h2 => implMsgsOk_any _ l m wx (by omega) (fun y hy => by have := HS.out y hy; unfold ShortM at this; omega) h h2)
  have CS := Lib.hid (fun wx (h : MsgsAt wx (.slice ua l.length uc) l) => specMsgsOk_any _ l wx (by omega) (fun y hy => by have := HS.out y hy; unfold ShortM at this; omega) h)
  obtain ⟨mb, hmb⟩ : ∃ b, msgB x = b := ⟨_, rfl⟩
  obtain ⟨lb, hlb⟩ : ∃ b, msgsB l = b := ⟨_, rfl⟩
  rw [hmb] at CM CN
  rw [hlb] at CI CS
  have HLB := Lib.hid hlb
  have e1 : (mb != mb) = false := by simp
  have e2 : (lb != lb) = false := by simp
  clear hmb hlb hx
  go_wp2_with fail
  refine (CI.out w3 K3.out ((B3.out.cell hlt).trans HM.out)).mono ?_
  rintro e w4 ⟨rfl, b4⟩
  have K4 := Lib.hid (K3.out.below b4)
  have B4 := Lib.hid (below_end B3.out b4)
  have X4 := Lib.hid (X3.out.below b4)
  clear b4 K3 B3 X3
  go_wp2_with fail
  have SX := X4.out.cells
  refine wp_region_held_drew (S := fun wx => wx.cell? ⟨M, 0, none⟩ = some (.int .i64 x.1) ∧ wx.cell? ⟨M, 1, none⟩ = some (.int .i64 x.2.1) ∧ wx.cell? ⟨M, 2, none⟩ = some (.string x.2.2.1) ∧ wx.cell? ⟨M, 3, none⟩ = some (.int .i64 x.2.2.2) ∧ Hid (Below w4.heap.size w4 wx)) (by kernel_rfl) ?_ (fun hHeld => ?_)
  · exact ⟨SX.1, SX.2.1, SX.2.2.1, SX.2.2.2, Lib.hid (Below.refl _ _).drew⟩
  change wpAnyH _ _ _ _ _ 11 #[false, false, false, false, false, false, false, false, false, false, false] _ _
  clear SX
  refine wpAnyH_take (i := 0) (v := ?_) rfl (by kernel_rfl) (by kernel_rfl) (by kernel_rfl) (fun _ _ _ h => h) (Or.inl ⟨by rfl, ?_⟩) (by assumption) ?_
  rotate_left
  · intro w hSw; (try dsimp only at hSw); go_simp; try with_reducible rfl
  try simp only [Act.put, List.getElem_toArray, List.getElem_cons_succ, List.getElem_cons_zero, List.setIfInBounds_toArray, List.set_cons_zero, List.set_cons_succ]
  refine wpAnyH_take (i := 2) (v := ?_) rfl (by kernel_rfl) (by kernel_rfl) (by kernel_rfl) (fun _ _ _ h => h) (Or.inl ⟨by rfl, ?_⟩) (by assumption) ?_
  rotate_left
  · intro w hSw; (try dsimp only at hSw); go_simp; try with_reducible rfl
  try simp only [Act.put, List.getElem_toArray, List.getElem_cons_succ, List.getElem_cons_zero, List.setIfInBounds_toArray, List.set_cons_zero, List.set_cons_succ]
  refine wpAnyH_ready (rs := [1]) (by kernel_rfl) (by simp) (AllReadyH.cons rfl (fun K hK => ?_) AllReadyH.nil)
  rw [if_pos (by rfl)]
  go_simp; go_at_call 10; refine (CM.out _ (((below_end B4.out hHeld.2.2.2.2.out).cell hlt).trans HM.out)).mono ?_; rintro e wa ⟨rfl, hb5⟩; go_wp2_with fail
  refine hK.out _ _ ?_ (fun hHeld => ?_)
  · exact mbox_keep hHeld hb5
  clear hK K
  try simp only [Act.put, List.getElem_toArray, List.getElem_cons_succ, List.getElem_cons_zero, List.setIfInBounds_toArray, List.set_cons_zero, List.set_cons_succ]
  clear hb5
  refine wpAnyH_ready (rs := [3]) (by kernel_rfl) (by simp) (AllReadyH.cons rfl (fun K hK => ?_) AllReadyH.nil)
  rw [if_pos (by rfl)]
  go_simp; go_at_call 11; refine (CN.out _).mono ?_; rintro e wb ⟨rfl, hb6⟩; go_wp2_with fail
  refine hK.out _ _ ?_ (fun hHeld => ?_)
  · exact mbox_keep hHeld hb6
  clear hK K
  try simp only [Act.put, List.getElem_toArray, List.getElem_cons_succ, List.getElem_cons_zero, List.setIfInBounds_toArray, List.set_cons_zero, List.set_cons_succ]
  clear hb6
  refine wpAnyH_take (i := 4) (v := ?_) rfl (by kernel_rfl) (by kernel_rfl) (by kernel_rfl) (fun _ _ _ h => h) (Or.inl ⟨by rfl, ?_⟩) (by assumption) ?_
  rotate_left
  · intro w hSw; (try dsimp only at hSw); go_simp; try with_reducible rfl
  try simp only [Act.put, List.getElem_toArray, List.getElem_cons_succ, List.getElem_cons_zero, List.setIfInBounds_toArray, List.set_cons_zero, List.set_cons_succ]
  refine wpAnyH_take (i := 5) (v := ?_) rfl (by kernel_rfl) (by kernel_rfl) (by kernel_rfl) (fun _ _ _ h => h) (Or.inl ⟨by rfl, ?_⟩) (by assumption) ?_
  rotate_left
  · intro w hSw; (try dsimp only at hSw); go_simp; try with_reducible rfl
  try simp only [Act.put, List.getElem_toArray, List.getElem_cons_succ, List.getElem_cons_zero, List.setIfInBounds_toArray, List.set_cons_zero, List.set_cons_succ]
  refine wpAnyH_take (i := 6) (v := ?_) rfl (by kernel_rfl) (by kernel_rfl) (by kernel_rfl) (fun _ _ _ h => h) (Or.inl ⟨by rfl, ?_⟩) (by assumption) ?_
  rotate_left
  · intro w hSw; (try dsimp only at hSw); go_simp; try with_reducible rfl
  try simp only [Act.put, List.getElem_toArray, List.getElem_cons_succ, List.getElem_cons_zero, List.setIfInBounds_toArray, List.set_cons_zero, List.set_cons_succ]
  refine wpAnyH_take (i := 7) (v := ?_) rfl (by kernel_rfl) (by kernel_rfl) (by kernel_rfl) (fun _ _ _ h => h) (Or.inl ⟨by rfl, ?_⟩) (by assumption) ?_
  rotate_left
  · intro w hSw; (try dsimp only at hSw); go_simp; try with_reducible rfl
  try simp only [Act.put, List.getElem_toArray, List.getElem_cons_succ, List.getElem_cons_zero, List.setIfInBounds_toArray, List.set_cons_zero, List.set_cons_succ]
  refine wpAnyH_ready (rs := [8]) (by kernel_rfl) (by simp) (AllReadyH.cons rfl (fun K hK => ?_) AllReadyH.nil)
  rw [if_pos (by rfl)]
  go_simp; go_at_call 12; refine (CS.out _ (K4.out.below hHeld.2.2.2.2.out)).mono ?_; rintro e wc ⟨rfl, hb7⟩; go_wp2_with fail
  refine hK.out _ _ ?_ (fun hHeld => ?_)
  · exact mbox_keep hHeld hb7
  clear hK K
  try simp only [Act.put, List.getElem_toArray, List.getElem_cons_succ, List.getElem_cons_zero, List.setIfInBounds_toArray, List.set_cons_zero, List.set_cons_succ]
  clear hb7
  refine wpAnyH_take (i := 9) (v := ?_) rfl (by kernel_rfl) (by kernel_rfl) (by kernel_rfl) (fun _ _ _ h => h) (Or.inl ⟨by rfl, ?_⟩) (by assumption) ?_
  rotate_left
  · intro w hSw; (try dsimp only at hSw); go_simp; try with_reducible rfl
  try simp only [Act.put, List.getElem_toArray, List.getElem_cons_succ, List.getElem_cons_zero, List.setIfInBounds_toArray, List.set_cons_zero, List.set_cons_succ]
  refine wpAnyH_take (i := 10) (v := ?_) rfl (by kernel_rfl) (by kernel_rfl) (by kernel_rfl) (fun _ _ _ h => h) (Or.inl ⟨by rfl, ?_⟩) (by assumption) ?_
  rotate_left
  · intro w hSw; (try dsimp only at hSw); go_simp; try with_reducible rfl
  try simp only [Act.put, List.getElem_toArray, List.getElem_cons_succ, List.getElem_cons_zero, List.setIfInBounds_toArray, List.set_cons_zero, List.set_cons_succ]
  refine wpAnyH_done (by kernel_rfl) ?_ _
  have K5 := Lib.hid (K4.out.below hHeld.2.2.2.2.out)
  have B5 := Lib.hid (below_end B4.out hHeld.2.2.2.2.out)
  clear hHeld K4 B4 X4 CM CN CS CI
  go_wp2_with fail
  go_loopw [6] (fun i wr => ∃ k : Nat, k ≤ l.length ∧ i = .int .i64 k ∧ Hid (MsgsAt wr (.slice ua l.length uc) l) ∧ Hid (Below w.heap.size w wr)) (fun i _ => l.length - (intOf i).toNat)
  case atStart => exact ⟨0, Nat.zero_le _, rfl, K5, B5⟩
  case round =>
    obtain ⟨k, hk, rfl, HK, HB⟩ := hrel
    clear K5 B5
    by_cases hkl : k < l.length
    · cases lb
      · obtain ⟨ga, ca, he, _, _, hin⟩ := HK.out
        cases he
        obtain ⟨b, o, rfl, hin2⟩ : ∃ b o, ua = some ⟨b, o, none⟩ ∧ MsgsIn wr b o l := by
          rcases hin with h | h
          · subst h; simp at hkl
          · exact h
        obtain ⟨p0, p1, p2, p3⟩ := hin2 k hkl
        clear hin hin2
        go_wp2
        go_roundw
        case rel => exact ⟨k + 1, by omega, by go_num, HK, HB⟩
        case measure => simp [intOf]; omega
      · have hgood := msgsB_at HLB.out k hkl
        have CM := Lib.hid (implMsgOk_any l[k] m wr (by have := HS.out _ (List.getElem_mem hkl); unfold ShortM at this; omega) ((HB.out.cell hlt).trans HM.out))
        rw [hgood] at CM
        obtain ⟨ga, ca, he, _, _, hin⟩ := HK.out
        cases he
        obtain ⟨b, o, rfl, hin2⟩ : ∃ b o, ua = some ⟨b, o, none⟩ ∧ MsgsIn wr b o l := by
          rcases hin with h | h
          · subst h; simp at hkl
          · exact h
        obtain ⟨p0, p1, p2, p3⟩ := hin2 k hkl
        obtain ⟨y, hy⟩ : ∃ y, l[k] = y := ⟨_, rfl⟩
        rw [hy] at p0 p1 p2 p3 CM
        clear hin hin2 hy hgood
        go_wp2_with fail
        refine CM.out.mono ?_
        rintro e wd ⟨rfl, hb8⟩
        have HK2 := Lib.hid (HK.out.below hb8)
        have HB2 := Lib.hid (below_end HB.out hb8)
        clear hb8 HK HB CM
        go_wp2
        go_roundw
        case rel => exact ⟨k + 1, by omega, by go_num, HK2, HB2⟩
        case measure => simp [intOf]; omega
    · obtain rfl : k = l.length := by omega
      go_wp2_with fail
      refine (roll_any a len cap 5 wr (by omega) (by omega) ((HC.out.below HB.out.block).mono HB.out.size)).mono ?_
      rintro e w7 ⟨rfl, d7, b7, hs7⟩
      have R7 := Lib.hid (show Rolls wr.heap.size a len cap w7 from ⟨d7, ((HC.out.below HB.out.block).mono HB.out.size).below b7.block⟩)
      have B7 := Lib.hid (below_end HB.out b7)
      have hw6 : w.heap.size ≤ wr.heap.size := HB.out.size
      clear d7 b7 hs7 HB HK
      generalize wr.heap.size = g at R7 hw6 ⊢
      go_wp2_with fail
      refine (topic_any R7.out).mono ?_
      rintro e w8 ⟨s, n, rfl, hn, hN, hs8, r8, g8⟩
      have HTP := Lib.hid (hN.topic (by omega))
      have B8 := Lib.hid (B7.out.grown g8 B7.out.size (fun k hk => by cases hk; exact hw6))
      clear r8 g8 R7 B7 hN
      go_wp2_with fail
      have X9 := Lib.hid (MBox.new w8 25 (1, 0, s, 0))
      have B9 := Lib.hid (below_end B8.out ((Below.refl _ w8).alloc (Nat.le_refl _) (.cells #[.int .i64 1, .int .i64 0, .string s, .int .i64 0] 25)))
      clear B8
      dsimp only at X9
      generalize w8.alloc (.cells #[.int .i64 1, .int .i64 0, .string s, .int .i64 0] 25) = w9 at X9 B9 ⊢
      obtain ⟨N, hNN⟩ : ∃ N, w8.heap.size = N := ⟨_, rfl⟩
      rw [hNN] at X9 ⊢
      clear hNN
      have cm := implMsgOk_any (1, 0, s, 0) m w9 (show s.size ≤ 1048576 by omega) ((B9.out.cell hlt).trans HM.out)
      rw [good_one HTP.out] at cm
      refine cm.mono ?_
      clear cm
      rintro e w10 ⟨rfl, b10⟩
      have X10 := Lib.hid (X9.out.below b10)
      have B10 := Lib.hid (below_end B9.out b10)
      clear b10 X9 B9
      obtain ⟨d0, d1, d2, d3⟩ := X10.out.cells
      dsimp only at d0 d1 d2 d3
      go_wp2_with fail
      have ha := (Below.refl w10.heap.size w10).alloc (Nat.le_refl _) (.cells #[.int .i64 1, .int .i64 0, .string s, .int .i64 0, .int .i64 1, .int .i64 0, .string s, .int .i64 0] 25)
      have cl := implMsgsOk_any (.slice (some ⟨w10.heap.size, 0, none⟩) 2 2) [(1, 0, s, 0), (1, 0, s, 0)] m _ (by simp) (by intro y hy; simp at hy; subst hy; show s.size ≤ 1048576; omega) (lit_msgs w10 _ #[.int .i64 1, .int .i64 0, .string s, .int .i64 0, .int .i64 1, .int .i64 0, .string s, .int .i64 0] rfl 2 rfl (by simp)) (((below_end B10.out ha).cell hlt).trans HM.out)
      rw [good_two] at cl
      refine cl.mono ?_
      clear cl
      rintro e w11 ⟨rfl, b11⟩
      have X11 := Lib.hid ((X10.out.below ha).below b11)
      have B11 := Lib.hid (below_end (below_end B10.out ha) b11)
      clear ha b11 X10 B10 d0 d1 d2 d3
      obtain ⟨d0, d1, d2, d3⟩ := X11.out.cells
      dsimp only at d0 d1 d2 d3
      go_wp2_with fail
      have ha := (Below.refl w11.heap.size w11).alloc (Nat.le_refl _) (.cells #[.int .i64 1, .int .i64 0, .string s, .int .i64 0] 25)
      have cl := implMsgsOk_any (.slice (some ⟨w11.heap.size, 0, none⟩) 1 1) [(1, 0, s, 0)] m _ (by simp) (by intro y hy; simp at hy; subst hy; show s.size ≤ 1048576; omega) (lit_msgs w11 _ #[.int .i64 1, .int .i64 0, .string s, .int .i64 0] rfl 1 rfl (by simp)) (((below_end B11.out ha).cell hlt).trans HM.out)
      rw [good_list HTP.out] at cl
      refine cl.mono ?_
      clear cl
      rintro e w12 ⟨rfl, b12⟩
      have B12 := Lib.hid (below_end (below_end B11.out ha) b12)
      clear ha b12 X11 B11
      go_wp2
      go_ret
      exact ⟨rfl, B12.out⟩

set_option maxRecDepth 100000 in
theorem contract (H : Type) (enc : TypeId × Value → H) (W : World) (base : Nat) (args : Array Value) (ds gs : List (DataW H)) (before : List MemPlace)
    (hval : ∀ (j : Nat) t v, Tryd.f3.params[j]? = some t → args[j]? = some v → Value.okWide Tryd.prog W .any base t v)
    (hW : DataW.Whole enc Tryd.prog Tryd.f3.params.toList Rows.fnMsgsSpec.vars false W args.toList ds gs before) (hsh : W.ShapedOpen Tryd.prog) :
    Calls Tryd.prog 3 args W fun e W' => ∃ v, e = .returned v ∧ Rows.fnMsgsSpec.post enc Tryd.prog Tryd.f3 false true false false W args v W' := by
  have hW' := hW
  obtain ⟨p, q, hA0, hV, rfl, hfz, hnd⟩ := hW
  have hA : DataW.TrodAll enc Tryd.prog W 0 (fun _ => true) true Tryd.f3.params.toList args.toList ds p := hA0
  rw [Tryd.params3] at hA hval
  obtain ⟨v0, vs0, d0, ds0, p0, q0, hargs, rfl, rfl, h0, r0⟩ := trodAll_cons hA
  obtain ⟨rfl, rfl, rfl⟩ := trodAll_nil r0
  obtain rfl : args = #[v0] := by cases args; simp_all
  obtain ⟨rfl, rfl⟩ := trodVars_none hV
  obtain ⟨a0, len0, cap0, rfl⟩ := okWide_slice Tryd.underlying22 (hval 0 22 v0 rfl rfl)
  have k0 := h0
  have lt0 : ∀ x ∈ p0, x.block < W.heap.size := by obtain ⟨m, hm⟩ := k0; exact DataW.trod_lt m _ _ _ hm
  have w0 : CodeAt W.heap.size a0 len0 W := by
    obtain ⟨fuel, hf⟩ := h0
    rcases open_ints Tryd.underlying22 Tryd.underlying5 (by kernel_rfl) hf with ⟨hcs, _⟩ | ⟨x, l, c, zs, hcs, _, hl, hm, hz, _, hcell, hwz⟩
    · simp [Value.cells] at hcs
      obtain ⟨rfl, rfl, rfl⟩ := hcs
      exact .inl rfl
    · simp [Value.cells] at hcs
      obtain ⟨rfl, rfl, rfl⟩ := hcs
      exact CodeAt.of_ints hl (by simpa using hz) hcell hwz
  clear hA0
  simp only [List.append_nil] at hW'
  obtain ⟨m, hm⟩ := maxLen_cell hsh
  refine (law W a0 len0 cap0 w0 m hm).mono fun e W' ⟨he, hg⟩ => ?_
  subst he
  exact ⟨_, rfl, _, _, _, [], _, [], hW', trodAll_cons_mk (shut_bool Tryd.underlying4 _) trodAll_mk0, trodAll_cons_mk (Below.trod laidOut (by kernel_rfl) (of_decide_eq_true (by kernel_rfl)) k0 hg lt0) (trodAll_mk0), rfl, hg.frame _, fun h => by cases h⟩

theorem reads (os : Os) {H : Type} (enc : TypeId × Value → H) : ∃ places, DataW.whole enc Tryd.prog ((World.laidAll Tryd.prog os Rows.fnMsgsRow.laid).forCall (fun _ _ => 0) ⟨#[], #[(.slice none 0 0 : Value)], []⟩).memory Tryd.f3.params.toList Rows.fnMsgsSpec.vars false (#[(.slice none 0 0 : Value)] : Array Value).toList 8 = some ([.nil], [], places) :=
  ⟨[], by kernel_rfl⟩

theorem laid_met (os : Os) : laidMetH Tryd.prog Rows.fnMsgsRow.laid ((World.laidAll Tryd.prog os Rows.fnMsgsRow.laid).forCall (fun _ _ => 0) ⟨#[], #[(.slice none 0 0 : Value)], []⟩).memory := by
  rw [MakeChecks.laidMetH_plain _ _ _ (by kernel_rfl)]
  exact laidMet_laidAll _ (by kernel_rfl) (by kernel_rfl)

set_option maxRecDepth 100000 in
theorem lifted (os : Os) (started : os.Started) (H : Type) (enc : TypeId × Value → H) (F : Stop.Interp) :
    ReturnsInHanded {} Tryd.checked os 3 .any ((OpenSpec.ofChange Rows.fnMsgsSpec).preRow enc Tryd.prog Tryd.f3 Rows.fnMsgsRow.domain false Rows.fnMsgsRow.laid) (((OpenSpec.ofChange Rows.fnMsgsSpec).at F).post enc Tryd.prog Tryd.f3 false true false false) := by
  obtain ⟨places, hx⟩ := reads os enc
  refine returnsInHanded_of_row (C := Tryd.checked) (s := OpenSpec.ofChange Rows.fnMsgsSpec) own started (by kernel_rfl) Tryd.func3
    (witness_row_at (enc := enc) (C := Tryd.checked) false (World.laidAll Tryd.prog os Rows.fnMsgsRow.laid) #[(.slice none 0 0 : Value)] (World.laidAll_os _ _ _) (by kernel_rfl) (by kernel_rfl) (by kernel_rfl)
      (OpenSpec.preRow_of_cond 8 hx (by kernel_rfl) (fun k hk => by cases hk) (by kernel_rfl) (laid_met os))) ?_
  intro W base args ds gs before hval hW _ _ _ _ hsh _
  exact contract H enc W base args ds gs before hval hW hsh

theorem said : Rows.FnMsgsSaid :=
  OpenClaim.holds_of_cond 3 Tryd.f3 rfl rfl rfl rfl rfl rfl rfl ⟨rfl, rfl, rfl, rfl, rfl⟩ rfl rfl rfl rfl rfl (by kernel_rfl) Tryd.func3 (by kernel_rfl)
    (of_decide_eq_true (by kernel_rfl)) (by unfold Func.isWrapper; first | (rw [if_pos (by decide +kernel)]; kernel_rfl) | (rw [if_neg (by decide +kernel)]; exact ⟨rfl, rfl⟩))
    (fun os started H enc _ F => by rw [OpenClaim.pre_eq_preRow]; exact lifted os started H enc F)

theorem plain (f : FuncId) (fn : Func) (hf : Tryd.pinned.checked.prog.funcNamed Tryd.f3.name = some f) (hfn : Tryd.pinned.checked.prog.funcs[f]? = some fn) :
    false = Tryd.pinned.checked.prog.looks [] ∧ ∀ (j : Nat) t, fn.params[j]? = some t → Tryd.pinned.checked.prog.wantsStandIn t = false := by
  obtain rfl : f = 3 := Option.some.inj ((show Tryd.prog.funcNamed Tryd.f3.name = some 3 by kernel_rfl).symm.trans hf) |>.symm
  obtain rfl : fn = Tryd.f3 := (Option.some.inj (Tryd.func3.symm.trans hfn)).symm
  refine ⟨by kernel_rfl, fun j t ht => ?_⟩
  rw [Tryd.params3] at ht
  have hm := Array.mem_of_getElem? ht
  have hall : (Tryd.f3.params.all fun u => !Tryd.prog.wantsStandIn u) = true := by kernel_rfl
  rw [Tryd.params3] at hall
  rw [Array.all_eq_true_iff_forall_mem] at hall
  have := hall t hm
  exact (show Tryd.prog.wantsStandIn t = false by simpa using this)

theorem card : Rows.FnMsgsCardSaid :=
  Claim7.holds_tied_plain_at .later [] _ _ _ _ said (fun _ h => by cases h) (by kernel_rfl) (fun _ h => by cases h) fnMsgs_row_tie rfl ⟨rfl, rfl⟩ (by kernel_rfl) rfl plain (by kernel_rfl)
end Go.Proofs.YtiigllhedlpccaaDoor.lawFnMsgs
