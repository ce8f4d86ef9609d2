/- The law FnBoxes holds at every argument: for every input it returns true and leaves the input as it was. -/
import Derived.Test.YtgmbjnobpkdjkaaDoorZB4
import Derived.Test.YtgmbjnobpkdjkaaDoorZB1
import Derived.Test.YtgmbjnobpkdjkaaDoorZDrawBD
import Derived.Test.YtgmbjnobpkdjkaaDoorZB3
import Derived.Test.YtgmbjnobpkdjkaaDoorZIOff
import Derived.Test.YtgmbjnobpkdjkaaDoorZB5
import Derived.Test.YtgmbjnobpkdjkaaDoorZB2
set_option linter.unusedSimpArgs false
set_option linter.unusedVariables false
namespace Go.Proofs.YtgmbjnobpkdjkaaDoor.lawFnBoxes
open Go.ChangeShapes Go.WideShapes Go.ChangeAt Go.RowKit Go.WideMaps Go.WideElems
open Go.ChangeMaps (open_string shut_string)

theorem Rolls.farB {g : Nat} {a : Option Addr} {len cap : Nat} {w w' : World} (h : Rolls g a len cap w) (hb : Below (g + 1) w w') : Rolls g a len cap w' := by
  obtain ⟨i, x, hh, r⟩ := h.dice
  exact ⟨⟨i, x, (hb.block g (by omega)).trans hh, r⟩, h.code.below fun k hk => hb.block k (by omega)⟩
theorem RowP.offB {w : World} {B M : Nat} {u : Value} {l : List MsgM} {cs ds : Array Value} (h : RowP w B u l) (hx : w.heap[M]? = some (.cells cs 30 (0, 0))) : RowP (w.setRow M ds) B u l := by
  obtain ⟨V, pre, post, h1, h2⟩ := h
  exact ⟨V, pre, post, own_kept1 h1 (grown_setRow _ _ _) (own_off h1 hx), h2⟩

/-- The law's own box, in block M, and its dice, in block g. -/
structure BxW (w wx : World) (g : Nat) (a : Option Addr) (len cap : Nat) (M : Nat) (b : BoxM) (u : Value) : Prop where
  box : BBox wx M 30 b u
  row : RowP wx (g + 1) u b.q
  rolls : Rolls g a len cap wx
  since : Below w.heap.size w wx
  low : g < M
  base : w.heap.size ≤ g
section
variable {w wx wy : World} {g : Nat} {a : Option Addr} {len cap M : Nat} {b b' : BoxM} {u u' : Value}
theorem BxW.below (h : BxW w wx g a len cap M b u) (hb : Below wx.heap.size wx wy) : BxW w wy g a len cap M b u :=
  ⟨h.box.below hb, h.row.below hb, h.rolls.after hb, below_end h.since hb, h.low, h.base⟩
theorem BxW.turn (h : BxW w wx g a len cap M b u) (hr : Rolls g a len cap wy) (hg : wx.grownBy wy (some g)) : BxW w wy g a len cap M b u :=
  have h1 := h.low
  ⟨h.box.grown hg (by omega), h.row.thrown (Nat.lt_succ_self g) hg, hr, h.since.grown hg h.since.size (fun k e => by cases e; exact h.base), h.low, h.base⟩
theorem BxW.put (h : BxW w wx g a len cap M b u) (hr : RowP wx (g + 1) u' b'.q) : BxW w (wx.setRow M (bcells b' u')) g a len cap M b' u' :=
  have h1 := h.low
  have h2 := h.base
  have hg := grown_setRow wx M (bcells b' u')
  have hb : Below (g + 1) wx (wx.setRow M (bcells b' u')) := below_of_grown hg h1 (by have := h.box.lt; omega)
  ⟨setRow_heap _ h.box, RowP.offB hr h.box, Rolls.farB h.rolls hb, h.since.trans (hb.mono (by omega)), h.low, h.base⟩
end

set_option maxRecDepth 100000 in
set_option maxHeartbeats 12800000 in
theorem law (w : World) (a : Option Addr) (len cap : Nat) (hc : CodeAt w.heap.size a len w) (m : Int) (hm : w.cell? ⟨0, 0, none⟩ = some (.int .i64 m)) :
    Calls Tryd.prog 3 #[.slice a len cap] w fun e w' => e = .returned (.bool true) ∧ Below w.heap.size w w' := by
  have HM := Lib.hid hm
  have hlt : 0 < w.heap.size := World.block_lt_of_cell? _ _ hm
  have HC := Lib.hid hc
  have HMX := Lib.hid (fun wx (h : Below w.heap.size w wx) => (h.cell hlt).trans HM.out)
  clear hm hc
  have cb := big_any a len cap w
  by_cases hb : 4096 < len
  · rw [decide_eq_true hb] at cb
    go_enter Tryd.func3, Tryd.ntmps3
    go_wp2_with fail
    refine cb.mono ?_
    rintro e w1 ⟨rfl, rfl⟩
    go_wp2
    go_ret
    exact ⟨rfl, Below.refl _ _⟩
  rw [decide_eq_false hb] at cb
  have hlen : len ≤ 4096 := by omega
  go_enter Tryd.func3, Tryd.ntmps3
  go_wp2_with fail
  refine cb.mono ?_
  rintro e w0 ⟨rfl, rfl⟩
  clear cb hb
  go_wp2_with fail
  refine (roll_any a len cap 8 w (by omega) (by omega) HC.out).mono ?_
  rintro e w1 ⟨rfl, d1, b1, hs1⟩
  have R1 : Rolls w.heap.size a len cap w1 := ⟨d1, HC.out.below b1.block⟩
  obtain ⟨g, hgg⟩ : ∃ g, w.heap.size = g := ⟨_, rfl⟩
  have hwg : w.heap.size ≤ g := by omega
  have B1 : Below w.heap.size w w1 := b1
  rw [hgg] at R1 ⊢
  clear d1 b1 hs1 hgg
  go_wp2_with fail
  refine (roll_below 4 (by omega) (by omega) R1).mono ?_
  rintro e w2 ⟨r, hr, rfl, R2, g2⟩
  have B2 := B1.grown g2 B1.size (fun k e => by cases e; exact hwg)
  obtain ⟨p, hp⟩ : ∃ p : Int, 1 + (r : Int) = p := ⟨_, rfl⟩
  have ep : IntKind.i64.wrap (1 + (r : Int)) = p := by rw [IntKind.wrap_i64]; omega
  have HP : Hid (1 ≤ p ∧ p ≤ 4) := Lib.hid (by omega)
  clear R1 B1 g2 hp hr
  go_wp2_with fail
  refine (roll_below 4 (by omega) (by omega) R2).mono ?_
  rintro e w3 ⟨q, hq, rfl, R3, g3⟩
  have B3 := B2.grown g3 B2.size (fun k e => by cases e; exact hwg)
  obtain ⟨c, hcc⟩ : ∃ c : Int, 1 + (q : Int) = c := ⟨_, rfl⟩
  have ec : IntKind.i64.wrap (1 + (q : Int)) = c := by rw [IntKind.wrap_i64]; omega
  have HCP : Hid (1 ≤ c ∧ c ≤ 16) := Lib.hid (by omega)
  clear R2 B2 g3 hcc hq ep
  go_wp2_with fail
  have CN := implNewBox_any c p m w3 (HMX.out _ B3)
  obtain ⟨b0, hb0⟩ : ∃ b0, (newB c p).1 = b0 := ⟨_, rfl⟩
  have hok : (newB c p).2 = true := by rw [newB_good HP.out HCP.out]
  have HI0 : Hid (BInv p c 0 b0) := Lib.hid (by rw [← hb0, newB_good HP.out HCP.out]; exact BInv.start HP.out HCP.out)
  have HS0 : Hid (ShortQ 0 b0.q) := Lib.hid (by rw [← hb0, newB_q]; exact ShortQ.nil 0)
  simp only [hb0, hok] at CN
  clear hb0 hok
  refine CN.mono ?_
  rintro e w4 ⟨u0, rfl, ho, b4⟩
  have R4 := R3.after b4
  have B4 := below_end B3 b4
  have hg4 : g < w4.heap.size := R4.lt
  have hg3 : g < w3.heap.size := R3.lt
  have O4 := own_mono ho (A := g + 1) (by omega)
  obtain ⟨ua, uc, hu⟩ := own_slice ho
  subst hu
  go_upto_region 6 with (fail)
  have hb5 : Below w4.heap.size w4 (w4.alloc (.cells (bcells b0 (.slice ua b0.q.length uc)) 30)) := (Below.refl _ _).alloc (Nat.le_refl _) _
  have D5 : BxW w (w4.alloc (.cells (bcells b0 (.slice ua b0.q.length uc)) 30)) g a len cap w4.heap.size b0 (.slice ua b0.q.length uc) := ⟨BBox.new _ _ _ _, (RowP.of (pre := []) (post := []) (by rw [List.nil_append, List.append_nil]; exact O4) (PartOf.whole O4) (Nat.le_refl _)).below hb5, R4.after hb5, below_end B4 hb5, hg4, hwg⟩
  generalize w4.alloc (.cells (bcells b0 (.slice ua b0.q.length uc)) 30) = w5 at D5 ⊢
  obtain ⟨M, hM⟩ : ∃ M, w4.heap.size = M := ⟨_, rfl⟩
  rw [hM] at D5 ⊢
  have D5 := Lib.hid D5
  clear hM R4 B4 R3 B3 O4 ho hg3 hg4 hb5 b4 ec
  go_wp2
  go_loopw [7] (fun i wr => ∃ (k : Nat) (b : BoxM) (u : Value), k ≤ 25 ∧ i = .int .i64 ((k : Int) + 1) ∧ Hid (BInv p c k b) ∧ Hid (ShortQ k b.q) ∧ Hid (BxW w wr g a len cap M b u)) (fun i _ => 27 - (intOf i).toNat)
  case atStart => exact ⟨0, b0, _, by omega, rfl, HI0, HS0, D5⟩
  case round =>
    obtain ⟨k, b, u, hk, rfl, HI, HS, HD⟩ := hrel
    clear HI0 HS0 D5
    obtain ⟨ua, uc, hu⟩ := HD.out.row.slice
    subst hu
    by_cases hk25 : k < 25
    · have g0 : decide ((k : Int) + 1 ≤ 25) = true := decide_eq_true (by omega)
      have g0' : IntKind.i64.wrap ((k : Int) + 1 + 1) = (k : Int) + 1 + 1 := by rw [IntKind.wrap_i64]; omega
      go_wp2_with fail
      refine (topic_any HD.out.rolls).mono ?_
      rintro e w6 ⟨s, n6, rfl, _, hN, hs8, R6, g6⟩
      have D6 := HD.out.turn R6 g6
      clear HD R6 g6
      go_upto_region 12 with (fail)
      have hb7 : Below w6.heap.size w6 (w6.alloc (.cells #[.int .i64 ((k : Int) + 1), .int .i64 0, .string s, .int .i64 0] 35)) := (Below.refl _ _).alloc (Nat.le_refl _) _
      have D7 := D6.below hb7
      have F7 : (w6.alloc (.cells #[.int .i64 ((k : Int) + 1), .int .i64 0, .string s, .int .i64 0] 35)).heap[w6.heap.size]? = some (.cells #[.int .i64 ((k : Int) + 1), .int .i64 0, .string s, .int .i64 0] 35 (0, 0)) := heap_alloc_new _ _
      generalize w6.alloc (.cells #[.int .i64 ((k : Int) + 1), .int .i64 0, .string s, .int .i64 0] 35) = w7 at D7 F7 ⊢
      obtain ⟨F, hF⟩ : ∃ F, w6.heap.size = F := ⟨_, rfl⟩
      rw [hF] at F7 ⊢
      clear hF hb7 D6
      have hmx : msgB ((k : Int) + 1, 0, s, 0) = true := by unfold msgB inB; simp [hN.topic (by omega)]; omega
      obtain ⟨hs1, hs2⟩ := ShortQ.small HS.out (by omega)
      have co := fun wx (h : MsgsAt wx (.slice ua b.q.length uc) b.q) hm => implOffered_any b (.slice ua b.q.length uc) ((k : Int) + 1, 0, s, 0) m wx hs1 hs2 (show s.size ≤ 1048576 by omega) h hm
      have cs := fun wx (h : MsgsAt wx (.slice ua b.q.length uc) b.q) => specOffered_any b (.slice ua b.q.length uc) ((k : Int) + 1, 0, s, 0) wx hs1 hs2 (show s.size ≤ 1048576 by omega) h
      have hinv := HI.out.offer (by omega) hmx
      have hsq := HS.out.offer (show ShortM ((k : Int) + 1, 0, s, 0) from Nat.le_trans hs8 (by decide))
      obtain ⟨B1, hB1⟩ : ∃ B1, (offerM b ((k : Int) + 1, 0, s, 0)).1 = B1 := ⟨_, rfl⟩
      obtain ⟨K, hK⟩ : ∃ K, (offerM b ((k : Int) + 1, 0, s, 0)).2 = K := ⟨_, rfl⟩
      simp only [hB1, hK] at co cs hinv hsq
      have CO := Lib.hid co
      have CS := Lib.hid cs
      have HI1 := Lib.hid hinv.1
      have HK := Lib.hid hinv.2
      have HS1 := Lib.hid hsq
      clear co cs hinv hsq hB1 hK hs1 hs2 hmx hN hs8 HI HS
      obtain ⟨ht1, ht2⟩ := ShortQ.small HS1.out (by omega)
      go_wp2_with (first
        | refine wpList_load_row rfl 30 (.tmp 5) rfl M rfl 30 (bcells (b) (.slice ua b.q.length uc)) (0, 0) _ D7.box Tryd.underlying30 rfl (by kernel_rfl) ?_
        | refine wpList_load_row rfl 35 (.tmp 8) rfl F rfl 35 #[.int .i64 ((k : Int) + 1), .int .i64 0, .string s, .int .i64 0] (0, 0) _ F7 Tryd.underlying35 rfl (by kernel_rfl) ?_)
      refine (CO.out _ D7.row.reads (HMX.out _ D7.since)).mono ?_
      rintro e w8 ⟨V, ux, pre, post, rfl, ho, hp, hb⟩
      have P8 := RowP.of ho hp (B := g + 1) (by have := D7.rolls.lt; omega)
      obtain ⟨xa, xc, hxu⟩ := hp.slice
      subst hxu
      have D8 := D7.below hb
      have F8 := (hb.block F (Array.getElem?_eq_some_iff.1 F7).1).trans F7
      clear D7 F7 ho hp hb CO
      go_upto_region 13 with (fail)
      have hb9 : Below w8.heap.size w8 (w8.alloc (.cells (bcells B1 (.slice xa B1.q.length xc)) 30)) := (Below.refl _ _).alloc (Nat.le_refl _) _
      have X9 := BBox.new w8 30 B1 (.slice xa B1.q.length xc)
      have D9 := D8.below hb9
      have P9 := P8.below hb9
      have F9 := (hb9.block F (Array.getElem?_eq_some_iff.1 F8).1).trans F8
      generalize w8.alloc (.cells (bcells B1 (.slice xa B1.q.length xc)) 30) = w9 at X9 D9 P9 F9 ⊢
      obtain ⟨XB, hXB⟩ : ∃ XB, w8.heap.size = XB := ⟨_, rfl⟩
      rw [hXB] at X9 ⊢
      clear hXB D8 P8 F8 hb9
      go_wp2_with (first
        | refine wpList_load_row rfl 30 (.tmp 5) rfl M rfl 30 (bcells (b) (.slice ua b.q.length uc)) (0, 0) _ D9.box Tryd.underlying30 rfl (by kernel_rfl) ?_
        | refine wpList_load_row rfl 35 (.tmp 8) rfl F rfl 35 #[.int .i64 ((k : Int) + 1), .int .i64 0, .string s, .int .i64 0] (0, 0) _ F9 Tryd.underlying35 rfl (by kernel_rfl) ?_)
      refine (CS.out _ D9.row.reads).mono ?_
      rintro e w10 ⟨uy, rfl, ho, hb⟩
      have Q10 := own_msgs_at ho
      obtain ⟨ya, yc, hyu⟩ := own_slice ho
      subst hyu
      have D10 := D9.below hb
      have X10 := X9.below hb
      have P10 := P9.below hb
      clear D9 X9 P9 F9 ho hb CS
      go_upto_region 14 with (fail)
      have hb11 : Below w10.heap.size w10 (w10.alloc (.cells (bcells B1 (.slice ya B1.q.length yc)) 30)) := (Below.refl _ _).alloc (Nat.le_refl _) _
      have Y11 := BBox.new w10 30 B1 (.slice ya B1.q.length yc)
      have D11 := D10.below hb11
      have X11 := X10.below hb11
      have P11 := P10.below hb11
      have Q11 := Q10.below hb11
      generalize w10.alloc (.cells (bcells B1 (.slice ya B1.q.length yc)) 30) = w11 at Y11 D11 X11 P11 Q11 ⊢
      obtain ⟨YB, hYB⟩ : ∃ YB, w10.heap.size = YB := ⟨_, rfl⟩
      rw [hYB] at Y11 ⊢
      clear hYB D10 X10 P10 Q10 hb11
      have gk : (K != K) = false := by simp
      obtain ⟨x0, x1, x2, x3, x4, x5, x6, x7⟩ := X11.cells
      obtain ⟨y0, y1, y2, y3, y4, y5, y6, y7⟩ := Y11.cells
      go_wp2_with fail
      refine (likeBox_any B1 (.slice xa B1.q.length xc) (.slice ya B1.q.length yc) w11 (by omega) P11.reads Q11).mono ?_
      rintro e w12 ⟨rfl, hb⟩
      have D12 := D11.below hb
      have X12 := X11.below hb
      have P12 := P11.below hb
      clear x0 x1 x2 x3 x4 x5 x6 x7 y0 y1 y2 y3 y4 y5 y6 y7 D11 X11 P11 Q11 Y11 hb
      obtain ⟨x0, x1, x2, x3, x4, x5, x6, x7⟩ := X12.cells
      have CB := implBoxOk_any B1 (.slice xa B1.q.length xc) m w12 ht1 ht2 P12.reads (HMX.out _ D12.since)
      rw [HI1.out.ok] at CB
      go_wp2_with fail
      refine CB.mono ?_
      rintro e w13 ⟨rfl, hb⟩
      have D13 := D12.below hb
      have X13 := X12.below hb
      have P13 := P12.below hb
      clear x0 x1 x2 x3 x4 x5 x6 x7 D12 X12 P12 hb CB
      obtain ⟨x0, x1, x2, x3, x4, x5, x6, x7⟩ := X13.cells
      obtain ⟨i1, i2, i3, i4, i5, i6, i7, _, i9⟩ := (boxB_iff B1).1 HI1.out.ok
      have z1 : decide (B1.cap < (B1.q.length : Int)) = false := decide_eq_false (by omega)
      have z2 : IntKind.i64.wrap (B1.rcv + (B1.q.length : Int)) = B1.rcv + (B1.q.length : Int) := by rw [IntKind.wrap_i64]; omega
      have z3 : IntKind.i64.wrap (B1.rcv + (B1.q.length : Int) + B1.drp) = B1.rcv + (B1.q.length : Int) + B1.drp := by rw [IntKind.wrap_i64]; omega
      have z4 : IntKind.i64.wrap (B1.rcv + (B1.q.length : Int) + B1.drp + B1.mrg) = B1.rcv + (B1.q.length : Int) + B1.drp + B1.mrg := by rw [IntKind.wrap_i64]; omega
      have z5 : (B1.ofr != B1.rcv + (B1.q.length : Int) + B1.drp + B1.mrg) = false := by rw [← i9]; simp
      have HCALM : Hid (p = 1 → IntKind.i64.wrap (B1.drp + B1.mrg) = 0) := Lib.hid (fun e => by have h := HI1.out.calm e; rw [h.1, h.2]; rfl)
      clear i1 i2 i3 i4 i5 i6 i7 i9
      by_cases hp1 : p = 1
      · have gp : (p == 1) = true := by simp [hp1]
        have z6 := HCALM.out hp1
        clear hp1
        go_upto_region 16 with (fail)
        clear z6 gp
        clear z1 z2 z3 z4 z5 x0 x1 x3 x4 x5 x6 x7 gk
        rcases HK.out with hk3 | hk4 | hq
        · have k3 : (K != 3) = false := by simp [hk3]
          clear hk3
          go_upto_region 18 with (fail)
          clear x2
          go_upto_region 19 with (first
            | refine wpList_load_row rfl 30 (.tmp 9) rfl XB rfl 30 (bcells (B1) (.slice xa B1.q.length xc)) (0, 0) _ X13 Tryd.underlying30 rfl (by kernel_rfl) ?_
            | refine wpList_store_rowTo rfl 30 (.tmp 5) _ rfl rfl M (bcells (B1) (.slice xa B1.q.length xc)) rfl rfl 30 _ D13.box (by kernel_rfl) rfl (bcells_one _ _ _ _) ?_)
          have D14 := D13.put (b' := B1) (u' := .slice xa B1.q.length xc) P13
          generalize w13.setRow M (bcells B1 (.slice xa B1.q.length xc)) = w14 at D14 ⊢
          clear D13 X13 P13
          go_wp2_with fail
          refine (roll_below 3 (by omega) (by omega) D14.rolls).mono ?_
          rintro e w15 ⟨r3, hr3, rfl, R15, g15⟩
          have D15 := D14.turn R15 g15
          clear D14 R15 g15
          by_cases hr0 : r3 = 0
          · have gr : ((r3 : Int) == 0) = true := by simp; omega
            have gr' : (r3 == 0) = true := by simp; omega
            have CT := specTaken_any B1 (.slice xa B1.q.length xc) w15 ht1 ht2 D15.row.reads
            obtain ⟨bt, hbt⟩ : ∃ bt, (takeM B1).1 = bt := ⟨_, rfl⟩
            obtain ⟨xt, hxt⟩ : ∃ xt, (takeM B1).2.1 = xt := ⟨_, rfl⟩
            obtain ⟨ot, hot⟩ : ∃ ot, (takeM B1).2.2 = ot := ⟨_, rfl⟩
            have HIT : Hid (BInv p c (k + 1) bt) := Lib.hid (by rw [← hbt]; exact HI1.out.take)
            have HST : Hid (ShortQ (k + 1) bt.q) := Lib.hid (by rw [← hbt]; exact HS1.out.take)
            simp only [hbt, hxt, hot] at CT
            clear hbt hxt hot hr0 hr3
            go_wp2_with (first
              | refine wpList_load_row rfl 30 (.tmp 5) rfl M rfl 30 (bcells (B1) (.slice xa B1.q.length xc)) (0, 0) _ D15.box Tryd.underlying30 rfl (by kernel_rfl) ?_)
            refine CT.mono ?_
            rintro e w16 ⟨ut, rfl, ho, hb⟩
            have P16 : RowP w16 (g + 1) ut bt.q := RowP.of (pre := []) (post := []) (by rw [List.nil_append, List.append_nil]; exact ho) (PartOf.whole ho) (by have := D15.rolls.lt; omega)
            have D16 := D15.below hb
            obtain ⟨ta, tc, htu⟩ := own_slice ho
            subst htu
            clear D15 ho hb CT
            go_upto_region 10 with (first
              | refine wpList_store_rowTo rfl 30 (.tmp 5) _ rfl rfl M (bcells (bt) (.slice ta bt.q.length tc)) rfl rfl 30 _ D16.box (by kernel_rfl) rfl (bcells_one _ _ _ _) ?_)
            have D17 := Lib.hid (D16.put (b' := bt) (u' := .slice ta bt.q.length tc) P16)
            generalize w16.setRow M (bcells bt (.slice ta bt.q.length tc)) = w17 at D17 ⊢
            clear D16 P16
            go_wp2
            go_roundw
            case rel => exact ⟨k + 1, bt, _, by omega, by go_num, HIT, HST, D17⟩
            case measure => simp [intOf]; omega
          · have gr : ((r3 : Int) == 0) = false := by simp; omega
            have gr' : (r3 == 0) = false := by simp; omega
            have D17 := Lib.hid D15
            clear D15 hr0 hr3
            go_wp2
            go_roundw
            case rel => exact ⟨k + 1, B1, _, by omega, by go_num, HI1, HS1, D17⟩
            case measure => simp [intOf]; omega
        · have k3 : (K != 3) = true := by simp [hk4]
          have k4 : (K != 4) = false := by simp [hk4]
          clear hk4
          go_upto_region 18 with (fail)
          clear x2
          go_upto_region 19 with (first
            | refine wpList_load_row rfl 30 (.tmp 9) rfl XB rfl 30 (bcells (B1) (.slice xa B1.q.length xc)) (0, 0) _ X13 Tryd.underlying30 rfl (by kernel_rfl) ?_
            | refine wpList_store_rowTo rfl 30 (.tmp 5) _ rfl rfl M (bcells (B1) (.slice xa B1.q.length xc)) rfl rfl 30 _ D13.box (by kernel_rfl) rfl (bcells_one _ _ _ _) ?_)
          have D14 := D13.put (b' := B1) (u' := .slice xa B1.q.length xc) P13
          generalize w13.setRow M (bcells B1 (.slice xa B1.q.length xc)) = w14 at D14 ⊢
          clear D13 X13 P13
          go_wp2_with fail
          refine (roll_below 3 (by omega) (by omega) D14.rolls).mono ?_
          rintro e w15 ⟨r3, hr3, rfl, R15, g15⟩
          have D15 := D14.turn R15 g15
          clear D14 R15 g15
          by_cases hr0 : r3 = 0
          · have gr : ((r3 : Int) == 0) = true := by simp; omega
            have gr' : (r3 == 0) = true := by simp; omega
            have CT := specTaken_any B1 (.slice xa B1.q.length xc) w15 ht1 ht2 D15.row.reads
            obtain ⟨bt, hbt⟩ : ∃ bt, (takeM B1).1 = bt := ⟨_, rfl⟩
            obtain ⟨xt, hxt⟩ : ∃ xt, (takeM B1).2.1 = xt := ⟨_, rfl⟩
            obtain ⟨ot, hot⟩ : ∃ ot, (takeM B1).2.2 = ot := ⟨_, rfl⟩
            have HIT : Hid (BInv p c (k + 1) bt) := Lib.hid (by rw [← hbt]; exact HI1.out.take)
            have HST : Hid (ShortQ (k + 1) bt.q) := Lib.hid (by rw [← hbt]; exact HS1.out.take)
            simp only [hbt, hxt, hot] at CT
            clear hbt hxt hot hr0 hr3
            go_wp2_with (first
              | refine wpList_load_row rfl 30 (.tmp 5) rfl M rfl 30 (bcells (B1) (.slice xa B1.q.length xc)) (0, 0) _ D15.box Tryd.underlying30 rfl (by kernel_rfl) ?_)
            refine CT.mono ?_
            rintro e w16 ⟨ut, rfl, ho, hb⟩
            have P16 : RowP w16 (g + 1) ut bt.q := RowP.of (pre := []) (post := []) (by rw [List.nil_append, List.append_nil]; exact ho) (PartOf.whole ho) (by have := D15.rolls.lt; omega)
            have D16 := D15.below hb
            obtain ⟨ta, tc, htu⟩ := own_slice ho
            subst htu
            clear D15 ho hb CT
            go_upto_region 10 with (first
              | refine wpList_store_rowTo rfl 30 (.tmp 5) _ rfl rfl M (bcells (bt) (.slice ta bt.q.length tc)) rfl rfl 30 _ D16.box (by kernel_rfl) rfl (bcells_one _ _ _ _) ?_)
            have D17 := Lib.hid (D16.put (b' := bt) (u' := .slice ta bt.q.length tc) P16)
            generalize w16.setRow M (bcells bt (.slice ta bt.q.length tc)) = w17 at D17 ⊢
            clear D16 P16
            go_wp2
            go_roundw
            case rel => exact ⟨k + 1, bt, _, by omega, by go_num, HIT, HST, D17⟩
            case measure => simp [intOf]; omega
          · have gr : ((r3 : Int) == 0) = false := by simp; omega
            have gr' : (r3 == 0) = false := by simp; omega
            have D17 := Lib.hid D15
            clear D15 hr0 hr3
            go_wp2
            go_roundw
            case rel => exact ⟨k + 1, B1, _, by omega, by go_num, HI1, HS1, D17⟩
            case measure => simp [intOf]; omega
        · have q0 : ((B1.q.length : Int) == 0) = false := beq_eq_false_iff_ne.2 (by omega)
          have q0' : (B1.q.length == 0) = false := beq_eq_false_iff_ne.2 (by omega)
          by_cases hk3 : K = 3
          · have k3 : (K != 3) = false := by simp [hk3]
            clear hk3 hq
            go_upto_region 18 with (fail)
            clear x2
            go_upto_region 19 with (first
              | refine wpList_load_row rfl 30 (.tmp 9) rfl XB rfl 30 (bcells (B1) (.slice xa B1.q.length xc)) (0, 0) _ X13 Tryd.underlying30 rfl (by kernel_rfl) ?_
              | refine wpList_store_rowTo rfl 30 (.tmp 5) _ rfl rfl M (bcells (B1) (.slice xa B1.q.length xc)) rfl rfl 30 _ D13.box (by kernel_rfl) rfl (bcells_one _ _ _ _) ?_)
            have D14 := D13.put (b' := B1) (u' := .slice xa B1.q.length xc) P13
            generalize w13.setRow M (bcells B1 (.slice xa B1.q.length xc)) = w14 at D14 ⊢
            clear D13 X13 P13
            go_wp2_with fail
            refine (roll_below 3 (by omega) (by omega) D14.rolls).mono ?_
            rintro e w15 ⟨r3, hr3, rfl, R15, g15⟩
            have D15 := D14.turn R15 g15
            clear D14 R15 g15
            by_cases hr0 : r3 = 0
            · have gr : ((r3 : Int) == 0) = true := by simp; omega
              have gr' : (r3 == 0) = true := by simp; omega
              have CT := specTaken_any B1 (.slice xa B1.q.length xc) w15 ht1 ht2 D15.row.reads
              obtain ⟨bt, hbt⟩ : ∃ bt, (takeM B1).1 = bt := ⟨_, rfl⟩
              obtain ⟨xt, hxt⟩ : ∃ xt, (takeM B1).2.1 = xt := ⟨_, rfl⟩
              obtain ⟨ot, hot⟩ : ∃ ot, (takeM B1).2.2 = ot := ⟨_, rfl⟩
              have HIT : Hid (BInv p c (k + 1) bt) := Lib.hid (by rw [← hbt]; exact HI1.out.take)
              have HST : Hid (ShortQ (k + 1) bt.q) := Lib.hid (by rw [← hbt]; exact HS1.out.take)
              simp only [hbt, hxt, hot] at CT
              clear hbt hxt hot hr0 hr3
              go_wp2_with (first
                | refine wpList_load_row rfl 30 (.tmp 5) rfl M rfl 30 (bcells (B1) (.slice xa B1.q.length xc)) (0, 0) _ D15.box Tryd.underlying30 rfl (by kernel_rfl) ?_)
              refine CT.mono ?_
              rintro e w16 ⟨ut, rfl, ho, hb⟩
              have P16 : RowP w16 (g + 1) ut bt.q := RowP.of (pre := []) (post := []) (by rw [List.nil_append, List.append_nil]; exact ho) (PartOf.whole ho) (by have := D15.rolls.lt; omega)
              have D16 := D15.below hb
              obtain ⟨ta, tc, htu⟩ := own_slice ho
              subst htu
              clear D15 ho hb CT
              go_upto_region 10 with (first
                | refine wpList_store_rowTo rfl 30 (.tmp 5) _ rfl rfl M (bcells (bt) (.slice ta bt.q.length tc)) rfl rfl 30 _ D16.box (by kernel_rfl) rfl (bcells_one _ _ _ _) ?_)
              have D17 := Lib.hid (D16.put (b' := bt) (u' := .slice ta bt.q.length tc) P16)
              generalize w16.setRow M (bcells bt (.slice ta bt.q.length tc)) = w17 at D17 ⊢
              clear D16 P16
              go_wp2
              go_roundw
              case rel => exact ⟨k + 1, bt, _, by omega, by go_num, HIT, HST, D17⟩
              case measure => simp [intOf]; omega
            · have gr : ((r3 : Int) == 0) = false := by simp; omega
              have gr' : (r3 == 0) = false := by simp; omega
              have D17 := Lib.hid D15
              clear D15 hr0 hr3
              go_wp2
              go_roundw
              case rel => exact ⟨k + 1, B1, _, by omega, by go_num, HI1, HS1, D17⟩
              case measure => simp [intOf]; omega
          · have k3 : (K != 3) = true := by simp [hk3]
            by_cases hk4 : K = 4
            · have k4 : (K != 4) = false := by simp [hk4]
              clear hk3 hk4 hq
              go_upto_region 18 with (fail)
              clear x2
              go_upto_region 19 with (first
                | refine wpList_load_row rfl 30 (.tmp 9) rfl XB rfl 30 (bcells (B1) (.slice xa B1.q.length xc)) (0, 0) _ X13 Tryd.underlying30 rfl (by kernel_rfl) ?_
                | refine wpList_store_rowTo rfl 30 (.tmp 5) _ rfl rfl M (bcells (B1) (.slice xa B1.q.length xc)) rfl rfl 30 _ D13.box (by kernel_rfl) rfl (bcells_one _ _ _ _) ?_)
              have D14 := D13.put (b' := B1) (u' := .slice xa B1.q.length xc) P13
              generalize w13.setRow M (bcells B1 (.slice xa B1.q.length xc)) = w14 at D14 ⊢
              clear D13 X13 P13
              go_wp2_with fail
              refine (roll_below 3 (by omega) (by omega) D14.rolls).mono ?_
              rintro e w15 ⟨r3, hr3, rfl, R15, g15⟩
              have D15 := D14.turn R15 g15
              clear D14 R15 g15
              by_cases hr0 : r3 = 0
              · have gr : ((r3 : Int) == 0) = true := by simp; omega
                have gr' : (r3 == 0) = true := by simp; omega
                have CT := specTaken_any B1 (.slice xa B1.q.length xc) w15 ht1 ht2 D15.row.reads
                obtain ⟨bt, hbt⟩ : ∃ bt, (takeM B1).1 = bt := ⟨_, rfl⟩
                obtain ⟨xt, hxt⟩ : ∃ xt, (takeM B1).2.1 = xt := ⟨_, rfl⟩
                obtain ⟨ot, hot⟩ : ∃ ot, (takeM B1).2.2 = ot := ⟨_, rfl⟩
                have HIT : Hid (BInv p c (k + 1) bt) := Lib.hid (by rw [← hbt]; exact HI1.out.take)
                have HST : Hid (ShortQ (k + 1) bt.q) := Lib.hid (by rw [← hbt]; exact HS1.out.take)
                simp only [hbt, hxt, hot] at CT
                clear hbt hxt hot hr0 hr3
                go_wp2_with (first
                  | refine wpList_load_row rfl 30 (.tmp 5) rfl M rfl 30 (bcells (B1) (.slice xa B1.q.length xc)) (0, 0) _ D15.box Tryd.underlying30 rfl (by kernel_rfl) ?_)
                refine CT.mono ?_
                rintro e w16 ⟨ut, rfl, ho, hb⟩
                have P16 : RowP w16 (g + 1) ut bt.q := RowP.of (pre := []) (post := []) (by rw [List.nil_append, List.append_nil]; exact ho) (PartOf.whole ho) (by have := D15.rolls.lt; omega)
                have D16 := D15.below hb
                obtain ⟨ta, tc, htu⟩ := own_slice ho
                subst htu
                clear D15 ho hb CT
                go_upto_region 10 with (first
                  | refine wpList_store_rowTo rfl 30 (.tmp 5) _ rfl rfl M (bcells (bt) (.slice ta bt.q.length tc)) rfl rfl 30 _ D16.box (by kernel_rfl) rfl (bcells_one _ _ _ _) ?_)
                have D17 := Lib.hid (D16.put (b' := bt) (u' := .slice ta bt.q.length tc) P16)
                generalize w16.setRow M (bcells bt (.slice ta bt.q.length tc)) = w17 at D17 ⊢
                clear D16 P16
                go_wp2
                go_roundw
                case rel => exact ⟨k + 1, bt, _, by omega, by go_num, HIT, HST, D17⟩
                case measure => simp [intOf]; omega
              · have gr : ((r3 : Int) == 0) = false := by simp; omega
                have gr' : (r3 == 0) = false := by simp; omega
                have D17 := Lib.hid D15
                clear D15 hr0 hr3
                go_wp2
                go_roundw
                case rel => exact ⟨k + 1, B1, _, by omega, by go_num, HI1, HS1, D17⟩
                case measure => simp [intOf]; omega
            · have k4 : (K != 4) = true := by simp [hk4]
              clear hk3 hk4
              go_upto_region 18 with (fail)
              clear x2 hq
              go_upto_region 19 with (first
                | refine wpList_load_row rfl 30 (.tmp 9) rfl XB rfl 30 (bcells (B1) (.slice xa B1.q.length xc)) (0, 0) _ X13 Tryd.underlying30 rfl (by kernel_rfl) ?_
                | refine wpList_store_rowTo rfl 30 (.tmp 5) _ rfl rfl M (bcells (B1) (.slice xa B1.q.length xc)) rfl rfl 30 _ D13.box (by kernel_rfl) rfl (bcells_one _ _ _ _) ?_)
              have D14 := D13.put (b' := B1) (u' := .slice xa B1.q.length xc) P13
              generalize w13.setRow M (bcells B1 (.slice xa B1.q.length xc)) = w14 at D14 ⊢
              clear D13 X13 P13
              go_wp2_with fail
              refine (roll_below 3 (by omega) (by omega) D14.rolls).mono ?_
              rintro e w15 ⟨r3, hr3, rfl, R15, g15⟩
              have D15 := D14.turn R15 g15
              clear D14 R15 g15
              by_cases hr0 : r3 = 0
              · have gr : ((r3 : Int) == 0) = true := by simp; omega
                have gr' : (r3 == 0) = true := by simp; omega
                have CT := specTaken_any B1 (.slice xa B1.q.length xc) w15 ht1 ht2 D15.row.reads
                obtain ⟨bt, hbt⟩ : ∃ bt, (takeM B1).1 = bt := ⟨_, rfl⟩
                obtain ⟨xt, hxt⟩ : ∃ xt, (takeM B1).2.1 = xt := ⟨_, rfl⟩
                obtain ⟨ot, hot⟩ : ∃ ot, (takeM B1).2.2 = ot := ⟨_, rfl⟩
                have HIT : Hid (BInv p c (k + 1) bt) := Lib.hid (by rw [← hbt]; exact HI1.out.take)
                have HST : Hid (ShortQ (k + 1) bt.q) := Lib.hid (by rw [← hbt]; exact HS1.out.take)
                simp only [hbt, hxt, hot] at CT
                clear hbt hxt hot hr0 hr3
                go_wp2_with (first
                  | refine wpList_load_row rfl 30 (.tmp 5) rfl M rfl 30 (bcells (B1) (.slice xa B1.q.length xc)) (0, 0) _ D15.box Tryd.underlying30 rfl (by kernel_rfl) ?_)
                refine CT.mono ?_
                rintro e w16 ⟨ut, rfl, ho, hb⟩
                have P16 : RowP w16 (g + 1) ut bt.q := RowP.of (pre := []) (post := []) (by rw [List.nil_append, List.append_nil]; exact ho) (PartOf.whole ho) (by have := D15.rolls.lt; omega)
                have D16 := D15.below hb
                obtain ⟨ta, tc, htu⟩ := own_slice ho
                subst htu
                clear D15 ho hb CT
                go_upto_region 10 with (first
                  | refine wpList_store_rowTo rfl 30 (.tmp 5) _ rfl rfl M (bcells (bt) (.slice ta bt.q.length tc)) rfl rfl 30 _ D16.box (by kernel_rfl) rfl (bcells_one _ _ _ _) ?_)
                have D17 := Lib.hid (D16.put (b' := bt) (u' := .slice ta bt.q.length tc) P16)
                generalize w16.setRow M (bcells bt (.slice ta bt.q.length tc)) = w17 at D17 ⊢
                clear D16 P16
                go_wp2
                go_roundw
                case rel => exact ⟨k + 1, bt, _, by omega, by go_num, HIT, HST, D17⟩
                case measure => simp [intOf]; omega
              · have gr : ((r3 : Int) == 0) = false := by simp; omega
                have gr' : (r3 == 0) = false := by simp; omega
                have D17 := Lib.hid D15
                clear D15 hr0 hr3
                go_wp2
                go_roundw
                case rel => exact ⟨k + 1, B1, _, by omega, by go_num, HI1, HS1, D17⟩
                case measure => simp [intOf]; omega
      · have gp : (p == 1) = false := by simp [hp1]
        clear hp1
        go_upto_region 16 with (fail)
        clear gp
        clear z1 z2 z3 z4 z5 x0 x1 x3 x4 x5 x6 x7 gk
        rcases HK.out with hk3 | hk4 | hq
        · have k3 : (K != 3) = false := by simp [hk3]
          clear hk3
          go_upto_region 18 with (fail)
          clear x2
          go_upto_region 19 with (first
            | refine wpList_load_row rfl 30 (.tmp 9) rfl XB rfl 30 (bcells (B1) (.slice xa B1.q.length xc)) (0, 0) _ X13 Tryd.underlying30 rfl (by kernel_rfl) ?_
            | refine wpList_store_rowTo rfl 30 (.tmp 5) _ rfl rfl M (bcells (B1) (.slice xa B1.q.length xc)) rfl rfl 30 _ D13.box (by kernel_rfl) rfl (bcells_one _ _ _ _) ?_)
          have D14 := D13.put (b' := B1) (u' := .slice xa B1.q.length xc) P13
          generalize w13.setRow M (bcells B1 (.slice xa B1.q.length xc)) = w14 at D14 ⊢
          clear D13 X13 P13
          go_wp2_with fail
          refine (roll_below 3 (by omega) (by omega) D14.rolls).mono ?_
          rintro e w15 ⟨r3, hr3, rfl, R15, g15⟩
          have D15 := D14.turn R15 g15
          clear D14 R15 g15
          by_cases hr0 : r3 = 0
          · have gr : ((r3 : Int) == 0) = true := by simp; omega
            have gr' : (r3 == 0) = true := by simp; omega
            have CT := specTaken_any B1 (.slice xa B1.q.length xc) w15 ht1 ht2 D15.row.reads
            obtain ⟨bt, hbt⟩ : ∃ bt, (takeM B1).1 = bt := ⟨_, rfl⟩
            obtain ⟨xt, hxt⟩ : ∃ xt, (takeM B1).2.1 = xt := ⟨_, rfl⟩
            obtain ⟨ot, hot⟩ : ∃ ot, (takeM B1).2.2 = ot := ⟨_, rfl⟩
            have HIT : Hid (BInv p c (k + 1) bt) := Lib.hid (by rw [← hbt]; exact HI1.out.take)
            have HST : Hid (ShortQ (k + 1) bt.q) := Lib.hid (by rw [← hbt]; exact HS1.out.take)
            simp only [hbt, hxt, hot] at CT
            clear hbt hxt hot hr0 hr3
            go_wp2_with (first
              | refine wpList_load_row rfl 30 (.tmp 5) rfl M rfl 30 (bcells (B1) (.slice xa B1.q.length xc)) (0, 0) _ D15.box Tryd.underlying30 rfl (by kernel_rfl) ?_)
            refine CT.mono ?_
            rintro e w16 ⟨ut, rfl, ho, hb⟩
            have P16 : RowP w16 (g + 1) ut bt.q := RowP.of (pre := []) (post := []) (by rw [List.nil_append, List.append_nil]; exact ho) (PartOf.whole ho) (by have := D15.rolls.lt; omega)
            have D16 := D15.below hb
            obtain ⟨ta, tc, htu⟩ := own_slice ho
            subst htu
            clear D15 ho hb CT
            go_upto_region 10 with (first
              | refine wpList_store_rowTo rfl 30 (.tmp 5) _ rfl rfl M (bcells (bt) (.slice ta bt.q.length tc)) rfl rfl 30 _ D16.box (by kernel_rfl) rfl (bcells_one _ _ _ _) ?_)
            have D17 := Lib.hid (D16.put (b' := bt) (u' := .slice ta bt.q.length tc) P16)
            generalize w16.setRow M (bcells bt (.slice ta bt.q.length tc)) = w17 at D17 ⊢
            clear D16 P16
            go_wp2
            go_roundw
            case rel => exact ⟨k + 1, bt, _, by omega, by go_num, HIT, HST, D17⟩
            case measure => simp [intOf]; omega
          · have gr : ((r3 : Int) == 0) = false := by simp; omega
            have gr' : (r3 == 0) = false := by simp; omega
            have D17 := Lib.hid D15
            clear D15 hr0 hr3
            go_wp2
            go_roundw
            case rel => exact ⟨k + 1, B1, _, by omega, by go_num, HI1, HS1, D17⟩
            case measure => simp [intOf]; omega
        · have k3 : (K != 3) = true := by simp [hk4]
          have k4 : (K != 4) = false := by simp [hk4]
          clear hk4
          go_upto_region 18 with (fail)
          clear x2
          go_upto_region 19 with (first
            | refine wpList_load_row rfl 30 (.tmp 9) rfl XB rfl 30 (bcells (B1) (.slice xa B1.q.length xc)) (0, 0) _ X13 Tryd.underlying30 rfl (by kernel_rfl) ?_
            | refine wpList_store_rowTo rfl 30 (.tmp 5) _ rfl rfl M (bcells (B1) (.slice xa B1.q.length xc)) rfl rfl 30 _ D13.box (by kernel_rfl) rfl (bcells_one _ _ _ _) ?_)
          have D14 := D13.put (b' := B1) (u' := .slice xa B1.q.length xc) P13
          generalize w13.setRow M (bcells B1 (.slice xa B1.q.length xc)) = w14 at D14 ⊢
          clear D13 X13 P13
          go_wp2_with fail
          refine (roll_below 3 (by omega) (by omega) D14.rolls).mono ?_
          rintro e w15 ⟨r3, hr3, rfl, R15, g15⟩
          have D15 := D14.turn R15 g15
          clear D14 R15 g15
          by_cases hr0 : r3 = 0
          · have gr : ((r3 : Int) == 0) = true := by simp; omega
            have gr' : (r3 == 0) = true := by simp; omega
            have CT := specTaken_any B1 (.slice xa B1.q.length xc) w15 ht1 ht2 D15.row.reads
            obtain ⟨bt, hbt⟩ : ∃ bt, (takeM B1).1 = bt := ⟨_, rfl⟩
            obtain ⟨xt, hxt⟩ : ∃ xt, (takeM B1).2.1 = xt := ⟨_, rfl⟩
            obtain ⟨ot, hot⟩ : ∃ ot, (takeM B1).2.2 = ot := ⟨_, rfl⟩
            have HIT : Hid (BInv p c (k + 1) bt) := Lib.hid (by rw [← hbt]; exact HI1.out.take)
            have HST : Hid (ShortQ (k + 1) bt.q) := Lib.hid (by rw [← hbt]; exact HS1.out.take)
            simp only [hbt, hxt, hot] at CT
            clear hbt hxt hot hr0 hr3
            go_wp2_with (first
              | refine wpList_load_row rfl 30 (.tmp 5) rfl M rfl 30 (bcells (B1) (.slice xa B1.q.length xc)) (0, 0) _ D15.box Tryd.underlying30 rfl (by kernel_rfl) ?_)
            refine CT.mono ?_
            rintro e w16 ⟨ut, rfl, ho, hb⟩
            have P16 : RowP w16 (g + 1) ut bt.q := RowP.of (pre := []) (post := []) (by rw [List.nil_append, List.append_nil]; exact ho) (PartOf.whole ho) (by have := D15.rolls.lt; omega)
            have D16 := D15.below hb
            obtain ⟨ta, tc, htu⟩ := own_slice ho
            subst htu
            clear D15 ho hb CT
            go_upto_region 10 with (first
              | refine wpList_store_rowTo rfl 30 (.tmp 5) _ rfl rfl M (bcells (bt) (.slice ta bt.q.length tc)) rfl rfl 30 _ D16.box (by kernel_rfl) rfl (bcells_one _ _ _ _) ?_)
            have D17 := Lib.hid (D16.put (b' := bt) (u' := .slice ta bt.q.length tc) P16)
            generalize w16.setRow M (bcells bt (.slice ta bt.q.length tc)) = w17 at D17 ⊢
            clear D16 P16
            go_wp2
            go_roundw
            case rel => exact ⟨k + 1, bt, _, by omega, by go_num, HIT, HST, D17⟩
            case measure => simp [intOf]; omega
          · have gr : ((r3 : Int) == 0) = false := by simp; omega
            have gr' : (r3 == 0) = false := by simp; omega
            have D17 := Lib.hid D15
            clear D15 hr0 hr3
            go_wp2
            go_roundw
            case rel => exact ⟨k + 1, B1, _, by omega, by go_num, HI1, HS1, D17⟩
            case measure => simp [intOf]; omega
        · have q0 : ((B1.q.length : Int) == 0) = false := beq_eq_false_iff_ne.2 (by omega)
          have q0' : (B1.q.length == 0) = false := beq_eq_false_iff_ne.2 (by omega)
          by_cases hk3 : K = 3
          · have k3 : (K != 3) = false := by simp [hk3]
            clear hk3 hq
            go_upto_region 18 with (fail)
            clear x2
            go_upto_region 19 with (first
              | refine wpList_load_row rfl 30 (.tmp 9) rfl XB rfl 30 (bcells (B1) (.slice xa B1.q.length xc)) (0, 0) _ X13 Tryd.underlying30 rfl (by kernel_rfl) ?_
              | refine wpList_store_rowTo rfl 30 (.tmp 5) _ rfl rfl M (bcells (B1) (.slice xa B1.q.length xc)) rfl rfl 30 _ D13.box (by kernel_rfl) rfl (bcells_one _ _ _ _) ?_)
            have D14 := D13.put (b' := B1) (u' := .slice xa B1.q.length xc) P13
            generalize w13.setRow M (bcells B1 (.slice xa B1.q.length xc)) = w14 at D14 ⊢
            clear D13 X13 P13
            go_wp2_with fail
            refine (roll_below 3 (by omega) (by omega) D14.rolls).mono ?_
            rintro e w15 ⟨r3, hr3, rfl, R15, g15⟩
            have D15 := D14.turn R15 g15
            clear D14 R15 g15
            by_cases hr0 : r3 = 0
            · have gr : ((r3 : Int) == 0) = true := by simp; omega
              have gr' : (r3 == 0) = true := by simp; omega
              have CT := specTaken_any B1 (.slice xa B1.q.length xc) w15 ht1 ht2 D15.row.reads
              obtain ⟨bt, hbt⟩ : ∃ bt, (takeM B1).1 = bt := ⟨_, rfl⟩
              obtain ⟨xt, hxt⟩ : ∃ xt, (takeM B1).2.1 = xt := ⟨_, rfl⟩
              obtain ⟨ot, hot⟩ : ∃ ot, (takeM B1).2.2 = ot := ⟨_, rfl⟩
              have HIT : Hid (BInv p c (k + 1) bt) := Lib.hid (by rw [← hbt]; exact HI1.out.take)
              have HST : Hid (ShortQ (k + 1) bt.q) := Lib.hid (by rw [← hbt]; exact HS1.out.take)
              simp only [hbt, hxt, hot] at CT
              clear hbt hxt hot hr0 hr3
              go_wp2_with (first
                | refine wpList_load_row rfl 30 (.tmp 5) rfl M rfl 30 (bcells (B1) (.slice xa B1.q.length xc)) (0, 0) _ D15.box Tryd.underlying30 rfl (by kernel_rfl) ?_)
              refine CT.mono ?_
              rintro e w16 ⟨ut, rfl, ho, hb⟩
              have P16 : RowP w16 (g + 1) ut bt.q := RowP.of (pre := []) (post := []) (by rw [List.nil_append, List.append_nil]; exact ho) (PartOf.whole ho) (by have := D15.rolls.lt; omega)
              have D16 := D15.below hb
              obtain ⟨ta, tc, htu⟩ := own_slice ho
              subst htu
              clear D15 ho hb CT
              go_upto_region 10 with (first
                | refine wpList_store_rowTo rfl 30 (.tmp 5) _ rfl rfl M (bcells (bt) (.slice ta bt.q.length tc)) rfl rfl 30 _ D16.box (by kernel_rfl) rfl (bcells_one _ _ _ _) ?_)
              have D17 := Lib.hid (D16.put (b' := bt) (u' := .slice ta bt.q.length tc) P16)
              generalize w16.setRow M (bcells bt (.slice ta bt.q.length tc)) = w17 at D17 ⊢
              clear D16 P16
              go_wp2
              go_roundw
              case rel => exact ⟨k + 1, bt, _, by omega, by go_num, HIT, HST, D17⟩
              case measure => simp [intOf]; omega
            · have gr : ((r3 : Int) == 0) = false := by simp; omega
              have gr' : (r3 == 0) = false := by simp; omega
              have D17 := Lib.hid D15
              clear D15 hr0 hr3
              go_wp2
              go_roundw
              case rel => exact ⟨k + 1, B1, _, by omega, by go_num, HI1, HS1, D17⟩
              case measure => simp [intOf]; omega
          · have k3 : (K != 3) = true := by simp [hk3]
            by_cases hk4 : K = 4
            · have k4 : (K != 4) = false := by simp [hk4]
              clear hk3 hk4 hq
              go_upto_region 18 with (fail)
              clear x2
              go_upto_region 19 with (first
                | refine wpList_load_row rfl 30 (.tmp 9) rfl XB rfl 30 (bcells (B1) (.slice xa B1.q.length xc)) (0, 0) _ X13 Tryd.underlying30 rfl (by kernel_rfl) ?_
                | refine wpList_store_rowTo rfl 30 (.tmp 5) _ rfl rfl M (bcells (B1) (.slice xa B1.q.length xc)) rfl rfl 30 _ D13.box (by kernel_rfl) rfl (bcells_one _ _ _ _) ?_)
              have D14 := D13.put (b' := B1) (u' := .slice xa B1.q.length xc) P13
              generalize w13.setRow M (bcells B1 (.slice xa B1.q.length xc)) = w14 at D14 ⊢
              clear D13 X13 P13
              go_wp2_with fail
              refine (roll_below 3 (by omega) (by omega) D14.rolls).mono ?_
              rintro e w15 ⟨r3, hr3, rfl, R15, g15⟩
              have D15 := D14.turn R15 g15
              clear D14 R15 g15
              by_cases hr0 : r3 = 0
              · have gr : ((r3 : Int) == 0) = true := by simp; omega
                have gr' : (r3 == 0) = true := by simp; omega
                have CT := specTaken_any B1 (.slice xa B1.q.length xc) w15 ht1 ht2 D15.row.reads
                obtain ⟨bt, hbt⟩ : ∃ bt, (takeM B1).1 = bt := ⟨_, rfl⟩
                obtain ⟨xt, hxt⟩ : ∃ xt, (takeM B1).2.1 = xt := ⟨_, rfl⟩
                obtain ⟨ot, hot⟩ : ∃ ot, (takeM B1).2.2 = ot := ⟨_, rfl⟩
                have HIT : Hid (BInv p c (k + 1) bt) := Lib.hid (by rw [← hbt]; exact HI1.out.take)
                have HST : Hid (ShortQ (k + 1) bt.q) := Lib.hid (by rw [← hbt]; exact HS1.out.take)
                simp only [hbt, hxt, hot] at CT
                clear hbt hxt hot hr0 hr3
                go_wp2_with (first
                  | refine wpList_load_row rfl 30 (.tmp 5) rfl M rfl 30 (bcells (B1) (.slice xa B1.q.length xc)) (0, 0) _ D15.box Tryd.underlying30 rfl (by kernel_rfl) ?_)
                refine CT.mono ?_
                rintro e w16 ⟨ut, rfl, ho, hb⟩
                have P16 : RowP w16 (g + 1) ut bt.q := RowP.of (pre := []) (post := []) (by rw [List.nil_append, List.append_nil]; exact ho) (PartOf.whole ho) (by have := D15.rolls.lt; omega)
                have D16 := D15.below hb
                obtain ⟨ta, tc, htu⟩ := own_slice ho
                subst htu
                clear D15 ho hb CT
                go_upto_region 10 with (first
                  | refine wpList_store_rowTo rfl 30 (.tmp 5) _ rfl rfl M (bcells (bt) (.slice ta bt.q.length tc)) rfl rfl 30 _ D16.box (by kernel_rfl) rfl (bcells_one _ _ _ _) ?_)
                have D17 := Lib.hid (D16.put (b' := bt) (u' := .slice ta bt.q.length tc) P16)
                generalize w16.setRow M (bcells bt (.slice ta bt.q.length tc)) = w17 at D17 ⊢
                clear D16 P16
                go_wp2
                go_roundw
                case rel => exact ⟨k + 1, bt, _, by omega, by go_num, HIT, HST, D17⟩
                case measure => simp [intOf]; omega
              · have gr : ((r3 : Int) == 0) = false := by simp; omega
                have gr' : (r3 == 0) = false := by simp; omega
                have D17 := Lib.hid D15
                clear D15 hr0 hr3
                go_wp2
                go_roundw
                case rel => exact ⟨k + 1, B1, _, by omega, by go_num, HI1, HS1, D17⟩
                case measure => simp [intOf]; omega
            · have k4 : (K != 4) = true := by simp [hk4]
              clear hk3 hk4
              go_upto_region 18 with (fail)
              clear x2 hq
              go_upto_region 19 with (first
                | refine wpList_load_row rfl 30 (.tmp 9) rfl XB rfl 30 (bcells (B1) (.slice xa B1.q.length xc)) (0, 0) _ X13 Tryd.underlying30 rfl (by kernel_rfl) ?_
                | refine wpList_store_rowTo rfl 30 (.tmp 5) _ rfl rfl M (bcells (B1) (.slice xa B1.q.length xc)) rfl rfl 30 _ D13.box (by kernel_rfl) rfl (bcells_one _ _ _ _) ?_)
              have D14 := D13.put (b' := B1) (u' := .slice xa B1.q.length xc) P13
              generalize w13.setRow M (bcells B1 (.slice xa B1.q.length xc)) = w14 at D14 ⊢
              clear D13 X13 P13
              go_wp2_with fail
              refine (roll_below 3 (by omega) (by omega) D14.rolls).mono ?_
              rintro e w15 ⟨r3, hr3, rfl, R15, g15⟩
              have D15 := D14.turn R15 g15
              clear D14 R15 g15
              by_cases hr0 : r3 = 0
              · have gr : ((r3 : Int) == 0) = true := by simp; omega
                have gr' : (r3 == 0) = true := by simp; omega
                have CT := specTaken_any B1 (.slice xa B1.q.length xc) w15 ht1 ht2 D15.row.reads
                obtain ⟨bt, hbt⟩ : ∃ bt, (takeM B1).1 = bt := ⟨_, rfl⟩
                obtain ⟨xt, hxt⟩ : ∃ xt, (takeM B1).2.1 = xt := ⟨_, rfl⟩
                obtain ⟨ot, hot⟩ : ∃ ot, (takeM B1).2.2 = ot := ⟨_, rfl⟩
                have HIT : Hid (BInv p c (k + 1) bt) := Lib.hid (by rw [← hbt]; exact HI1.out.take)
                have HST : Hid (ShortQ (k + 1) bt.q) := Lib.hid (by rw [← hbt]; exact HS1.out.take)
                simp only [hbt, hxt, hot] at CT
                clear hbt hxt hot hr0 hr3
                go_wp2_with (first
                  | refine wpList_load_row rfl 30 (.tmp 5) rfl M rfl 30 (bcells (B1) (.slice xa B1.q.length xc)) (0, 0) _ D15.box Tryd.underlying30 rfl (by kernel_rfl) ?_)
                refine CT.mono ?_
                rintro e w16 ⟨ut, rfl, ho, hb⟩
                have P16 : RowP w16 (g + 1) ut bt.q := RowP.of (pre := []) (post := []) (by rw [List.nil_append, List.append_nil]; exact ho) (PartOf.whole ho) (by have := D15.rolls.lt; omega)
                have D16 := D15.below hb
                obtain ⟨ta, tc, htu⟩ := own_slice ho
                subst htu
                clear D15 ho hb CT
                go_upto_region 10 with (first
                  | refine wpList_store_rowTo rfl 30 (.tmp 5) _ rfl rfl M (bcells (bt) (.slice ta bt.q.length tc)) rfl rfl 30 _ D16.box (by kernel_rfl) rfl (bcells_one _ _ _ _) ?_)
                have D17 := Lib.hid (D16.put (b' := bt) (u' := .slice ta bt.q.length tc) P16)
                generalize w16.setRow M (bcells bt (.slice ta bt.q.length tc)) = w17 at D17 ⊢
                clear D16 P16
                go_wp2
                go_roundw
                case rel => exact ⟨k + 1, bt, _, by omega, by go_num, HIT, HST, D17⟩
                case measure => simp [intOf]; omega
              · have gr : ((r3 : Int) == 0) = false := by simp; omega
                have gr' : (r3 == 0) = false := by simp; omega
                have D17 := Lib.hid D15
                clear D15 hr0 hr3
                go_wp2
                go_roundw
                case rel => exact ⟨k + 1, B1, _, by omega, by go_num, HI1, HS1, D17⟩
                case measure => simp [intOf]; omega
    · obtain rfl : k = 25 := by omega
      have B9 := HD.out.since
      clear HI HS HD
      go_wp2_with fail
      refine (drawOffered_any hlen ((HC.out.below B9.block).mono B9.size)).mono ?_
      rintro e v1 ⟨bq, uq, xq, rfl, ho, hs, hx, hb⟩
      have QB := own_msgs_at ho
      obtain ⟨qa, qc, hqu⟩ := own_slice ho
      subst hqu
      have B10 := below_end B9 hb
      clear ho hb B9
      go_upto_region 22 with (fail)
      have s1 : (v1.alloc (.cells (bcells bq (.slice qa bq.q.length qc)) 30)).heap.size = v1.heap.size + 1 := by simp
      have hb2 : Below v1.heap.size v1 ((v1.alloc (.cells (bcells bq (.slice qa bq.q.length qc)) 30)).alloc (.cells #[.int .i64 xq.1, .int .i64 xq.2.1, .string xq.2.2.1, .int .i64 xq.2.2.2] 35)) := ((Below.refl _ _).alloc (Nat.le_refl _) _).alloc (by simp) _
      have U2 : BBox ((v1.alloc (.cells (bcells bq (.slice qa bq.q.length qc)) 30)).alloc (.cells #[.int .i64 xq.1, .int .i64 xq.2.1, .string xq.2.2.1, .int .i64 xq.2.2.2] 35)) v1.heap.size 30 bq (.slice qa bq.q.length qc) := (BBox.new v1 30 bq (.slice qa bq.q.length qc)).below ((Below.refl _ _).alloc (Nat.le_refl _) _)
      have F2 : ((v1.alloc (.cells (bcells bq (.slice qa bq.q.length qc)) 30)).alloc (.cells #[.int .i64 xq.1, .int .i64 xq.2.1, .string xq.2.2.1, .int .i64 xq.2.2.2] 35)).heap[v1.heap.size + 1]? = some (.cells #[.int .i64 xq.1, .int .i64 xq.2.1, .string xq.2.2.1, .int .i64 xq.2.2.2] 35 (0, 0)) := by rw [← s1]; exact heap_alloc_new _ _
      have Q2 := QB.below hb2
      have B2 := below_end B10 hb2
      change Code.wp _ _ _ _ ((v1.alloc (.cells (bcells bq (.slice qa bq.q.length qc)) 30)).alloc (.cells #[.int .i64 xq.1, .int .i64 xq.2.1, .string xq.2.2.1, .int .i64 xq.2.2.2] 35))
      generalize ((v1.alloc (.cells (bcells bq (.slice qa bq.q.length qc)) 30)).alloc (.cells #[.int .i64 xq.1, .int .i64 xq.2.1, .string xq.2.2.1, .int .i64 xq.2.2.2] 35)) = v2 at U2 F2 Q2 B2 ⊢
      obtain ⟨UB, hUB⟩ : ∃ UB, v1.heap.size = UB := ⟨_, rfl⟩
      rw [hUB] at U2 F2 ⊢
      clear hUB s1 hb2 QB B10
      obtain ⟨hs1, hs2⟩ := ShortQ.small hs (by omega)
      have hx1 : xq.2.2.1.size ≤ 1048576 := Nat.le_trans hx (by decide)
      have co := fun wx (h : MsgsAt wx (.slice qa bq.q.length qc) bq.q) hm => implOffered_any bq (.slice qa bq.q.length qc) xq m wx hs1 hs2 hx1 h hm
      have cs := fun wx (h : MsgsAt wx (.slice qa bq.q.length qc) bq.q) => specOffered_any bq (.slice qa bq.q.length qc) xq wx hs1 hs2 hx1 h
      have hl1 := (hs.offer hx).1
      obtain ⟨B1, hB1⟩ : ∃ B1, (offerM bq xq).1 = B1 := ⟨_, rfl⟩
      obtain ⟨K, hK⟩ : ∃ K, (offerM bq xq).2 = K := ⟨_, rfl⟩
      simp only [hB1, hK] at co cs hl1
      have CO := Lib.hid co
      have CS := Lib.hid cs
      clear co cs hB1 hK hs1 hs2 hx1 hs hx
      go_wp2_with (first
        | refine wpList_load_row rfl 30 (.tmp 13) rfl UB rfl 30 (bcells (bq) (.slice qa bq.q.length qc)) (0, 0) _ U2 Tryd.underlying30 rfl (by kernel_rfl) ?_
        | refine wpList_load_row rfl 35 (.tmp 14) rfl (UB + 1) rfl 35 #[.int .i64 xq.1, .int .i64 xq.2.1, .string xq.2.2.1, .int .i64 xq.2.2.2] (0, 0) _ F2 Tryd.underlying35 rfl (by kernel_rfl) ?_)
      refine (CO.out _ Q2 (HMX.out _ B2)).mono ?_
      rintro e v3 ⟨V, ux, pre, post, rfl, ho, hp, hb⟩
      have P3 := part_at ho hp
      obtain ⟨xa, xc, hxu⟩ := hp.slice
      subst hxu
      have U3 := U2.below hb
      have F3 := (hb.block _ (Array.getElem?_eq_some_iff.1 F2).1).trans F2
      have Q3 := Q2.below hb
      have B3 := below_end B2 hb
      clear U2 F2 Q2 B2 ho hp hb CO
      go_upto_region 23 with (fail)
      have hb4 : Below v3.heap.size v3 (v3.alloc (.cells (bcells B1 (.slice xa B1.q.length xc)) 30)) := (Below.refl _ _).alloc (Nat.le_refl _) _
      have X4 := BBox.new v3 30 B1 (.slice xa B1.q.length xc)
      have U4 := U3.below hb4
      have F4 := (hb4.block _ (Array.getElem?_eq_some_iff.1 F3).1).trans F3
      have Q4 := Q3.below hb4
      have P4 := P3.below hb4
      have B4 := below_end B3 hb4
      generalize v3.alloc (.cells (bcells B1 (.slice xa B1.q.length xc)) 30) = v4 at X4 U4 F4 Q4 P4 B4 ⊢
      obtain ⟨XB, hXB⟩ : ∃ XB, v3.heap.size = XB := ⟨_, rfl⟩
      rw [hXB] at X4 ⊢
      clear hXB U3 F3 Q3 P3 B3 hb4
      go_wp2_with (first
        | refine wpList_load_row rfl 30 (.tmp 13) rfl UB rfl 30 (bcells (bq) (.slice qa bq.q.length qc)) (0, 0) _ U4 Tryd.underlying30 rfl (by kernel_rfl) ?_
        | refine wpList_load_row rfl 35 (.tmp 14) rfl (UB + 1) rfl 35 #[.int .i64 xq.1, .int .i64 xq.2.1, .string xq.2.2.1, .int .i64 xq.2.2.2] (0, 0) _ F4 Tryd.underlying35 rfl (by kernel_rfl) ?_)
      refine (CS.out _ Q4).mono ?_
      rintro e v5 ⟨uy, rfl, ho, hb⟩
      have R5 := own_msgs_at ho
      obtain ⟨ya, yc, hyu⟩ := own_slice ho
      subst hyu
      have X5 := X4.below hb
      have P5 := P4.below hb
      have B5 := below_end B4 hb
      clear X4 U4 F4 Q4 P4 B4 ho hb CS
      go_upto_region 24 with (fail)
      have hb6 : Below v5.heap.size v5 (v5.alloc (.cells (bcells B1 (.slice ya B1.q.length yc)) 30)) := (Below.refl _ _).alloc (Nat.le_refl _) _
      have Y6 := BBox.new v5 30 B1 (.slice ya B1.q.length yc)
      have X6 := X5.below hb6
      have P6 := P5.below hb6
      have R6 := R5.below hb6
      have B6 := below_end B5 hb6
      generalize v5.alloc (.cells (bcells B1 (.slice ya B1.q.length yc)) 30) = v6 at Y6 X6 P6 R6 B6 ⊢
      obtain ⟨YB, hYB⟩ : ∃ YB, v5.heap.size = YB := ⟨_, rfl⟩
      rw [hYB] at Y6 ⊢
      clear hYB X5 P5 R5 B5 hb6
      go_wp2_with fail
      refine (drawBoxOk_any hlen ((HC.out.below B6.block).mono B6.size)).mono ?_
      rintro e v7 ⟨be, ue, rfl, ho, hs, hb⟩
      have E7 := own_msgs_at ho
      obtain ⟨ea, ec, heu⟩ := own_slice ho
      subst heu
      have Y7 := Y6.below hb
      have X7 := X6.below hb
      have P7 := P6.below hb
      have R7 := R6.below hb
      have B7 := below_end B6 hb
      obtain ⟨hs1, hs2⟩ := ShortQ.small hs (by omega)
      clear Y6 X6 P6 R6 B6 ho hb hs
      go_upto_region 25 with (fail)
      have hb8 : Below v7.heap.size v7 (v7.alloc (.cells (bcells be (.slice ea be.q.length ec)) 30)) := (Below.refl _ _).alloc (Nat.le_refl _) _
      have Z8 := BBox.new v7 30 be (.slice ea be.q.length ec)
      have Y8 := Y7.below hb8
      have X8 := X7.below hb8
      have P8 := Lib.hid (P7.below hb8)
      have R8 := Lib.hid (R7.below hb8)
      have E8 := Lib.hid (E7.below hb8)
      have B8 := Lib.hid (below_end B7 hb8)
      generalize v7.alloc (.cells (bcells be (.slice ea be.q.length ec)) 30) = v8 at Z8 Y8 X8 P8 R8 E8 B8 ⊢
      obtain ⟨EB, hEB⟩ : ∃ EB, v7.heap.size = EB := ⟨_, rfl⟩
      rw [hEB] at Z8 ⊢
      clear hEB Y7 X7 P7 R7 E7 B7 hb8
      have CI := Lib.hid (fun wx (h : MsgsAt wx (.slice ea be.q.length ec) be.q) hm => implBoxOk_any be (.slice ea be.q.length ec) m wx hs1 hs2 h hm)
      have CZ := Lib.hid (fun wx (h : MsgsAt wx (.slice ea be.q.length ec) be.q) => specBoxOk_any be (.slice ea be.q.length ec) wx hs2 h)
      have CL := Lib.hid (fun wx (h1 : MsgsAt wx (.slice xa B1.q.length xc) B1.q) (h2 : MsgsAt wx (.slice ya B1.q.length yc) B1.q) => likeBox_any B1 (.slice xa B1.q.length xc) (.slice ya B1.q.length yc) wx (by omega) h1 h2)
      obtain ⟨eb, heb⟩ : ∃ eb, boxB be = eb := ⟨_, rfl⟩
      rw [heb] at CI CZ
      clear heb hs1 hs2
      have gk : (K == K) = true := by simp
      have ge : (eb == eb) = true := by simp
      have hbd : Below v8.heap.size v8 v8.drew := (Below.refl _ _).drew
      refine wp_region_held_drew (S := fun wx => (BBox wx XB 30 B1 (.slice xa B1.q.length xc) ∧ BBox wx YB 30 B1 (.slice ya B1.q.length yc)) ∧ BBox wx EB 30 be (.slice ea be.q.length ec) ∧ Hid (Below v8.heap.size v8 wx)) (by kernel_rfl) ?_ (fun hHeld => ?_)
      · exact ⟨⟨X8.below hbd, Y8.below hbd⟩, Z8.below hbd, Lib.hid hbd⟩
      change wpAnyH _ _ _ _ _ 16 #[false, false, false, false, false, false, false, false, false, false, false, false, false, false, false, false] _ _
      clear X8 Y8 Z8 hbd
      refine wpAnyH_take (i := 0) (v := ?_) rfl (by kernel_rfl) (by kernel_rfl) (by kernel_rfl) (fun _ _ _ h => h) (Or.inl ⟨by rfl, ?_⟩) (by assumption) ?_
      rotate_left
      · intro w hSw; (try dsimp only at hSw); go_simp; try with_reducible rfl
      try simp only [Act.put, List.getElem_toArray, List.getElem_cons_succ, List.getElem_cons_zero, List.setIfInBounds_toArray, List.set_cons_zero, List.set_cons_succ]
      refine wpAnyH_take (i := 1) (v := ?_) rfl (by kernel_rfl) (by kernel_rfl) (by kernel_rfl) (fun _ _ _ h => h) (Or.inl ⟨by rfl, ?_⟩) (by assumption) ?_
      rotate_left
      · intro w hSw; (try dsimp only at hSw); go_simp; try with_reducible rfl
      try simp only [Act.put, List.getElem_toArray, List.getElem_cons_succ, List.getElem_cons_zero, List.setIfInBounds_toArray, List.set_cons_zero, List.set_cons_succ]
      refine wpAnyH_take (i := 2) (v := ?_) rfl (by kernel_rfl) (by kernel_rfl) (by kernel_rfl) (fun _ _ _ h => h) (Or.inl ⟨by rfl, ?_⟩) (by assumption) ?_
      rotate_left
      · intro w hSw; (try dsimp only at hSw); go_simp; try with_reducible rfl
      try simp only [Act.put, List.getElem_toArray, List.getElem_cons_succ, List.getElem_cons_zero, List.setIfInBounds_toArray, List.set_cons_zero, List.set_cons_succ]
      refine wpAnyH_take (i := 3) (v := ?_) rfl (by kernel_rfl) (by kernel_rfl) (by kernel_rfl) (fun _ _ _ h => h) (Or.inl ⟨by rfl, ?_⟩) (by assumption) ?_
      rotate_left
      · intro w hSw; (try dsimp only at hSw); go_simp; try with_reducible rfl
      try simp only [Act.put, List.getElem_toArray, List.getElem_cons_succ, List.getElem_cons_zero, List.setIfInBounds_toArray, List.set_cons_zero, List.set_cons_succ]
      refine wpAnyH_take (i := 4) (v := bagg B1 (.slice xa B1.q.length xc)) rfl (by kernel_rfl) (by kernel_rfl) (by kernel_rfl) (fun _ _ _ h => h) (yieldsIf_load_mid rfl 30 (.tmp 15) rfl XB 0 rfl [.int .i64 B1.cap, .int .i64 B1.pol, (.slice xa B1.q.length xc), .int .i64 B1.ofr, .int .i64 B1.rcv, .int .i64 B1.drp, .int .i64 B1.mrg, .bool B1.shut] _ (fun wx h => range_of_heap h.1.1) Tryd.underlying30 rfl (by kernel_rfl)) (by assumption) ?_
      try simp only [Act.put, List.getElem_toArray, List.getElem_cons_succ, List.getElem_cons_zero, List.setIfInBounds_toArray, List.set_cons_zero, List.set_cons_succ]
      refine wpAnyH_take (i := 5) (v := bagg B1 (.slice ya B1.q.length yc)) rfl (by kernel_rfl) (by kernel_rfl) (by kernel_rfl) (fun _ _ _ h => h) (yieldsIf_load_mid rfl 30 (.tmp 17) rfl YB 0 rfl [.int .i64 B1.cap, .int .i64 B1.pol, (.slice ya B1.q.length yc), .int .i64 B1.ofr, .int .i64 B1.rcv, .int .i64 B1.drp, .int .i64 B1.mrg, .bool B1.shut] _ (fun wx h => range_of_heap h.1.2) Tryd.underlying30 rfl (by kernel_rfl)) (by assumption) ?_
      try simp only [Act.put, List.getElem_toArray, List.getElem_cons_succ, List.getElem_cons_zero, List.setIfInBounds_toArray, List.set_cons_zero, List.set_cons_succ]
      refine wpAnyH_ready (rs := [6]) (by kernel_rfl) (by simp) (AllReadyH.cons rfl (fun K hK => ?_) AllReadyH.nil)
      rw [if_pos (by rfl)]
      go_simp; go_at_call 11; refine (CL.out _ (P8.out.below hHeld.2.2.out) (R8.out.below hHeld.2.2.out)).mono ?_; rintro e wa ⟨rfl, hb⟩; go_wp2_with fail
      refine hK.out _ _ ?_ (fun hHeld => ?_)
      · exact ⟨⟨hHeld.1.1.below hb, hHeld.1.2.below hb⟩, hHeld.2.1.below hb, Lib.hid (below_end hHeld.2.2.out hb)⟩
      clear hK K
      try simp only [Act.put, List.getElem_toArray, List.getElem_cons_succ, List.getElem_cons_zero, List.setIfInBounds_toArray, List.set_cons_zero, List.set_cons_succ]
      clear hb
      refine wpAnyH_take (i := 7) (v := ?_) rfl (by kernel_rfl) (by kernel_rfl) (by kernel_rfl) (fun _ _ _ h => h) (Or.inl ⟨by rfl, ?_⟩) (by assumption) ?_
      rotate_left
      · intro w hSw; (try dsimp only at hSw); go_simp; try with_reducible rfl
      try simp only [Act.put, List.getElem_toArray, List.getElem_cons_succ, List.getElem_cons_zero, List.setIfInBounds_toArray, List.set_cons_zero, List.set_cons_succ]
      refine wpAnyH_take (i := 8) (v := ?_) rfl (by kernel_rfl) (by kernel_rfl) (by kernel_rfl) (fun _ _ _ h => h) (Or.inl ⟨by rfl, ?_⟩) (by assumption) ?_
      rotate_left
      · intro w hSw; (try dsimp only at hSw); go_simp; try with_reducible rfl
      try simp only [Act.put, List.getElem_toArray, List.getElem_cons_succ, List.getElem_cons_zero, List.setIfInBounds_toArray, List.set_cons_zero, List.set_cons_succ]
      refine wpAnyH_take (i := 9) (v := bagg be (.slice ea be.q.length ec)) rfl (by kernel_rfl) (by kernel_rfl) (by kernel_rfl) (fun _ _ _ h => h) (yieldsIf_load_mid rfl 30 (.tmp 19) rfl EB 0 rfl [.int .i64 be.cap, .int .i64 be.pol, (.slice ea be.q.length ec), .int .i64 be.ofr, .int .i64 be.rcv, .int .i64 be.drp, .int .i64 be.mrg, .bool be.shut] _ (fun wx h => range_of_heap h.2.1) Tryd.underlying30 rfl (by kernel_rfl)) (by assumption) ?_
      try simp only [Act.put, List.getElem_toArray, List.getElem_cons_succ, List.getElem_cons_zero, List.setIfInBounds_toArray, List.set_cons_zero, List.set_cons_succ]
      refine wpAnyH_take (i := 11) (v := bagg be (.slice ea be.q.length ec)) rfl (by kernel_rfl) (by kernel_rfl) (by kernel_rfl) (fun _ _ _ h => h) (yieldsIf_load_mid rfl 30 (.tmp 19) rfl EB 0 rfl [.int .i64 be.cap, .int .i64 be.pol, (.slice ea be.q.length ec), .int .i64 be.ofr, .int .i64 be.rcv, .int .i64 be.drp, .int .i64 be.mrg, .bool be.shut] _ (fun wx h => range_of_heap h.2.1) Tryd.underlying30 rfl (by kernel_rfl)) (by assumption) ?_
      try simp only [Act.put, List.getElem_toArray, List.getElem_cons_succ, List.getElem_cons_zero, List.setIfInBounds_toArray, List.set_cons_zero, List.set_cons_succ]
      refine wpAnyH_ready (rs := [10]) (by kernel_rfl) (by simp) (AllReadyH.cons rfl (fun K hK => ?_) AllReadyH.nil)
      rw [if_pos (by rfl)]
      go_simp; go_at_call 12; refine (CI.out _ (E8.out.below hHeld.2.2.out) (HMX.out _ (below_end B8.out hHeld.2.2.out))).mono ?_; rintro e wb ⟨rfl, hb⟩; go_wp2_with fail
      refine hK.out _ _ ?_ (fun hHeld => ?_)
      · exact ⟨⟨hHeld.1.1.below hb, hHeld.1.2.below hb⟩, hHeld.2.1.below hb, Lib.hid (below_end hHeld.2.2.out hb)⟩
      clear hK K
      try simp only [Act.put, List.getElem_toArray, List.getElem_cons_succ, List.getElem_cons_zero, List.setIfInBounds_toArray, List.set_cons_zero, List.set_cons_succ]
      clear hb
      refine wpAnyH_ready (rs := [12]) (by kernel_rfl) (by simp) (AllReadyH.cons rfl (fun K hK => ?_) AllReadyH.nil)
      rw [if_pos (by rfl)]
      go_simp; go_at_call 16; refine (CZ.out _ (E8.out.below hHeld.2.2.out)).mono ?_; rintro e wc ⟨rfl, hb⟩; go_wp2_with fail
      refine hK.out _ _ ?_ (fun hHeld => ?_)
      · exact ⟨⟨hHeld.1.1.below hb, hHeld.1.2.below hb⟩, hHeld.2.1.below hb, Lib.hid (below_end hHeld.2.2.out hb)⟩
      clear hK K
      try simp only [Act.put, List.getElem_toArray, List.getElem_cons_succ, List.getElem_cons_zero, List.setIfInBounds_toArray, List.set_cons_zero, List.set_cons_succ]
      clear hb
      refine wpAnyH_take (i := 13) (v := ?_) rfl (by kernel_rfl) (by kernel_rfl) (by kernel_rfl) (fun _ _ _ h => h) (Or.inl ⟨by rfl, ?_⟩) (by assumption) ?_
      rotate_left
      · intro w hSw; (try dsimp only at hSw); go_simp; try with_reducible rfl
      try simp only [Act.put, List.getElem_toArray, List.getElem_cons_succ, List.getElem_cons_zero, List.setIfInBounds_toArray, List.set_cons_zero, List.set_cons_succ]
      refine wpAnyH_take (i := 14) (v := ?_) rfl (by kernel_rfl) (by kernel_rfl) (by kernel_rfl) (fun _ _ _ h => h) (Or.inl ⟨by rfl, ?_⟩) (by assumption) ?_
      rotate_left
      · intro w hSw; (try dsimp only at hSw); go_simp; try with_reducible rfl
      try simp only [Act.put, List.getElem_toArray, List.getElem_cons_succ, List.getElem_cons_zero, List.setIfInBounds_toArray, List.set_cons_zero, List.set_cons_succ]
      refine wpAnyH_take (i := 15) (v := ?_) rfl (by kernel_rfl) (by kernel_rfl) (by kernel_rfl) (fun _ _ _ h => h) (Or.inl ⟨by rfl, ?_⟩) (by assumption) ?_
      rotate_left
      · intro w hSw; (try dsimp only at hSw); go_simp; try with_reducible rfl
      try simp only [Act.put, List.getElem_toArray, List.getElem_cons_succ, List.getElem_cons_zero, List.setIfInBounds_toArray, List.set_cons_zero, List.set_cons_succ]
      refine wpAnyH_done (by kernel_rfl) ?_ _
      have BF := below_end B8.out hHeld.2.2.out
      clear hHeld
      go_wp2
      go_ret
      exact ⟨rfl, BF⟩

set_option maxRecDepth 100000 in
theorem contract (H : Type) (enc : TypeId × Value → H) (W : World) (base : Nat) (args : Array Value) (ds gs : List (DataW H)) (before : List MemPlace)
    (hval : ∀ (j : Nat) t v, Tryd.f3.params[j]? = some t → args[j]? = some v → Value.okWide Tryd.prog W .any base t v)
    (hW : DataW.Whole enc Tryd.prog Tryd.f3.params.toList Rows.fnBoxesSpec.vars false W args.toList ds gs before) (hsh : W.ShapedOpen Tryd.prog) :
    Calls Tryd.prog 3 args W fun e W' => ∃ v, e = .returned v ∧ Rows.fnBoxesSpec.post enc Tryd.prog Tryd.f3 false true false false W args v W' := by
  have hW' := hW
  obtain ⟨p, q, hA0, hV, rfl, hfz, hnd⟩ := hW
  have hA : DataW.TrodAll enc Tryd.prog W 0 (fun _ => true) true Tryd.f3.params.toList args.toList ds p := hA0
  rw [Tryd.params3] at hA hval
  obtain ⟨v0, vs0, d0, ds0, p0, q0, hargs, rfl, rfl, h0, r0⟩ := trodAll_cons hA
  obtain ⟨rfl, rfl, rfl⟩ := trodAll_nil r0
  obtain rfl : args = #[v0] := by cases args; simp_all
  obtain ⟨rfl, rfl⟩ := trodVars_none hV
  obtain ⟨a0, len0, cap0, rfl⟩ := okWide_slice Tryd.underlying22 (hval 0 22 v0 rfl rfl)
  have k0 := h0
  have lt0 : ∀ x ∈ p0, x.block < W.heap.size := by obtain ⟨m, hm⟩ := k0; exact DataW.trod_lt m _ _ _ hm
  have w0 : CodeAt W.heap.size a0 len0 W := by
    obtain ⟨fuel, hf⟩ := h0
    rcases open_ints Tryd.underlying22 Tryd.underlying5 (by kernel_rfl) hf with ⟨hcs, _⟩ | ⟨x, l, c, zs, hcs, _, hl, hm, hz, _, hcell, hwz⟩
    · simp [Value.cells] at hcs
      obtain ⟨rfl, rfl, rfl⟩ := hcs
      exact .inl rfl
    · simp [Value.cells] at hcs
      obtain ⟨rfl, rfl, rfl⟩ := hcs
      exact CodeAt.of_ints hl (by simpa using hz) hcell hwz
  clear hA0
  simp only [List.append_nil] at hW'
  obtain ⟨m, hm⟩ := maxLen_cell hsh
  refine (law W a0 len0 cap0 w0 m hm).mono fun e W' ⟨he, hg⟩ => ?_
  subst he
  exact ⟨_, rfl, _, _, _, [], _, [], hW', trodAll_cons_mk (shut_bool Tryd.underlying4 _) trodAll_mk0, trodAll_cons_mk (Below.trod laidOut (by kernel_rfl) (of_decide_eq_true (by kernel_rfl)) k0 hg lt0) (trodAll_mk0), rfl, hg.frame _, fun h => by cases h⟩

theorem reads (os : Os) {H : Type} (enc : TypeId × Value → H) : ∃ places, DataW.whole enc Tryd.prog ((World.laidAll Tryd.prog os Rows.fnBoxesRow.laid).forCall (fun _ _ => 0) ⟨#[], #[(.slice none 0 0 : Value)], []⟩).memory Tryd.f3.params.toList Rows.fnBoxesSpec.vars false (#[(.slice none 0 0 : Value)] : Array Value).toList 8 = some ([.nil], [], places) :=
  ⟨[], by kernel_rfl⟩

theorem laid_met (os : Os) : laidMetH Tryd.prog Rows.fnBoxesRow.laid ((World.laidAll Tryd.prog os Rows.fnBoxesRow.laid).forCall (fun _ _ => 0) ⟨#[], #[(.slice none 0 0 : Value)], []⟩).memory := by
  rw [MakeChecks.laidMetH_plain _ _ _ (by kernel_rfl)]
  exact laidMet_laidAll _ (by kernel_rfl) (by kernel_rfl)

set_option maxRecDepth 100000 in
theorem lifted (os : Os) (started : os.Started) (H : Type) (enc : TypeId × Value → H) (F : Stop.Interp) :
    ReturnsInHanded {} Tryd.checked os 3 .any ((OpenSpec.ofChange Rows.fnBoxesSpec).preRow enc Tryd.prog Tryd.f3 Rows.fnBoxesRow.domain false Rows.fnBoxesRow.laid) (((OpenSpec.ofChange Rows.fnBoxesSpec).at F).post enc Tryd.prog Tryd.f3 false true false false) := by
  obtain ⟨places, hx⟩ := reads os enc
  refine returnsInHanded_of_row (C := Tryd.checked) (s := OpenSpec.ofChange Rows.fnBoxesSpec) own started (by kernel_rfl) Tryd.func3
    (witness_row_at (enc := enc) (C := Tryd.checked) false (World.laidAll Tryd.prog os Rows.fnBoxesRow.laid) #[(.slice none 0 0 : Value)] (World.laidAll_os _ _ _) (by kernel_rfl) (by kernel_rfl) (by kernel_rfl)
      (OpenSpec.preRow_of_cond 8 hx (by kernel_rfl) (fun k hk => by cases hk) (by kernel_rfl) (laid_met os))) ?_
  intro W base args ds gs before hval hW _ _ _ _ hsh _
  exact contract H enc W base args ds gs before hval hW hsh

theorem said : Rows.FnBoxesSaid :=
  OpenClaim.holds_of_cond 3 Tryd.f3 rfl rfl rfl rfl rfl rfl rfl ⟨rfl, rfl, rfl, rfl, rfl⟩ rfl rfl rfl rfl rfl (by kernel_rfl) Tryd.func3 (by kernel_rfl)
    (of_decide_eq_true (by kernel_rfl)) (by unfold Func.isWrapper; first | (rw [if_pos (by decide +kernel)]; kernel_rfl) | (rw [if_neg (by decide +kernel)]; exact ⟨rfl, rfl⟩))
    (fun os started H enc _ F => by rw [OpenClaim.pre_eq_preRow]; exact lifted os started H enc F)

theorem plain (f : FuncId) (fn : Func) (hf : Tryd.pinned.checked.prog.funcNamed Tryd.f3.name = some f) (hfn : Tryd.pinned.checked.prog.funcs[f]? = some fn) :
    ∀ (j : Nat) t, fn.params[j]? = some t → Tryd.pinned.checked.prog.wantsStandIn t = false := by
  obtain rfl : f = 3 := Option.some.inj ((show Tryd.prog.funcNamed Tryd.f3.name = some 3 by kernel_rfl).symm.trans hf) |>.symm
  obtain rfl : fn = Tryd.f3 := (Option.some.inj (Tryd.func3.symm.trans hfn)).symm
  intro j t ht
  rw [Tryd.params3] at ht
  have hm := Array.mem_of_getElem? ht
  have hall : (Tryd.f3.params.all fun u => !Tryd.prog.wantsStandIn u) = true := by kernel_rfl
  rw [Tryd.params3] at hall
  rw [Array.all_eq_true_iff_forall_mem] at hall
  have := hall t hm
  exact (show Tryd.prog.wantsStandIn t = false by simpa using this)

theorem card : Rows.FnBoxesCardSaid :=
  Claim7.holds_tied_plain_at .later [] _ _ _ _ said (fun _ h => by cases h) (by kernel_rfl) (fun _ h => by cases h) fnBoxes_row_tie rfl ⟨rfl, rfl⟩ (by kernel_rfl) rfl (fun f fn hf hfn => ⟨by kernel_rfl, plain f fn hf hfn⟩) (by kernel_rfl)
end Go.Proofs.YtgmbjnobpkdjkaaDoor.lawFnBoxes
