/- The law FnKeeps holds at every argument: for every input it returns true and leaves the input as it was. -/
import Derived.Test.YtgkfnmbjlfmcmaaGreatDoorZB4
import Derived.Test.YtgkfnmbjlfmcmaaGreatDoorZDrawKK
import Derived.Test.YtgkfnmbjlfmcmaaGreatDoorZDrawKF
import Derived.Test.YtgkfnmbjlfmcmaaGreatDoorZB2
import Derived.Test.YtgkfnmbjlfmcmaaGreatDoorZB5
import Derived.Test.YtgkfnmbjlfmcmaaGreatDoorZIKeptF
import Derived.Test.YtgkfnmbjlfmcmaaGreatDoorZSKept
import Derived.Test.YtgkfnmbjlfmcmaaGreatDoorZSKeptF
import Derived.Test.YtgkfnmbjlfmcmaaGreatDoorZKeepE
import Derived.Test.YtgkfnmbjlfmcmaaGreatDoorZB3
set_option linter.unusedSimpArgs false
set_option linter.unusedVariables false
namespace Go.Proofs.YtgkfnmbjlfmcmaaGreatDoor.lawFnKeeps
open Go.ChangeShapes Go.WideShapes Go.ChangeAt Go.RowKit Go.WideMaps Go.WideElems
open Go.ChangeMaps (open_string shut_string)

theorem msgB_told {q d : Int} {s : ByteArray} (hq : 1 ≤ q) (hq2 : q ≤ 100000) (hd : 0 ≤ d) (hd2 : d ≤ 9999) (ht : topicP (parts s 47) = true) : msgB (q, 0, s, d) = true := by
  unfold msgB inB
  simp [hq, hq2, hd, hd2, ht]

/-- What a keep is here: right, few, short. -/
def KeepL (k : Nat) (l : List MsgM) : Prop := GoodK l ∧ l.length ≤ k ∧ ∀ y ∈ l, y.2.2.1.size ≤ 1048576

theorem KeepL.told {k : Nat} {l : List MsgM} {m : MsgM} (h : KeepL k l) (hk : k < 24) (hm : msgB m = true) (hs : m.2.2.1.size ≤ 1048576) : ∃ L, keptM l m = (L, true) ∧ L = keptOut l m ∧ KeepL (k + 1) L := by
  obtain ⟨h1, h2, h3⟩ := keptM_good h.1 (show l.length < 24 by have := h.2.1; omega) hm
  refine ⟨_, h1, rfl, h2, by have := h.2.1; omega, fun y hy => ?_⟩
  have hy2 : y ∈ (keptM l m).1 := by rw [h1]; exact hy
  rcases keptM_mem hy2 with h4 | h4
  · exact h.2.2 y h4
  · rw [h4]; exact hs

set_option maxRecDepth 100000 in
set_option maxHeartbeats 12800000 in
theorem law (w : World) (a : Option Addr) (len cap : Nat) (hc : CodeAt w.heap.size a len w) (m : Int) (hm : w.cell? ⟨0, 0, none⟩ = some (.int .i64 m)) :
    Calls Tryz.prog 3 #[.slice a len cap] w fun e w' => e = .returned (.bool true) ∧ Below w.heap.size w w' := by
  have HM := Lib.hid hm
  have hlt : 0 < w.heap.size := World.block_lt_of_cell? _ _ hm
  have HC := Lib.hid hc
  clear hm hc
  have cb := big_any a len cap w
  by_cases hb : 4096 < len
  · rw [decide_eq_true hb] at cb
    go_enter Tryz.func3, Tryz.ntmps3
    go_wp2_with fail
    refine cb.mono ?_
    rintro e w1 ⟨rfl, rfl⟩
    go_wp2
    go_ret
    exact ⟨rfl, Below.refl _ _⟩
  rw [decide_eq_false hb] at cb
  go_enter Tryz.func3, Tryz.ntmps3
  go_wp2_with fail
  refine cb.mono ?_
  rintro e w0 ⟨rfl, rfl⟩
  clear cb
  go_wp2_with fail
  refine (drawKept_any (by omega) HC.out).mono ?_
  rintro e w1 ⟨u, l, x, rfl, ho, hl25, hs, hx, b1⟩
  obtain ⟨ua, uc, hxu⟩ := own_slice ho
  subst hxu
  have K1 := Lib.hid (own_msgs_at ho)
  have B1 := Lib.hid b1
  clear ho b1
  have hl : l.length ≤ 1048576 := by omega
  have hls : ∀ y ∈ l, y.2.2.1.size ≤ 1048576 := fun y hy => by have := hs y hy; unfold ShortM at this; omega
  have hxs : x.2.2.1.size ≤ 1048576 := by unfold ShortM at hx; omega
  have CI := Lib.hid (fun wx (h : MsgsAt wx (.slice ua l.length uc) l) h2 => implKept_any (.slice ua l.length uc) l x m wx hl hls hxs h h2)
  have CS := Lib.hid (fun wx (h : MsgsAt wx (.slice ua l.length uc) l) => specKept_any (.slice ua l.length uc) l x wx hl hls hxs h)
  have CR := Lib.hid (fun wx (h : MsgsAt wx (.slice ua l.length uc) l) h2 => implKeepOk_any (.slice ua l.length uc) l m wx hl hls h h2)
  have CT := Lib.hid (fun wx (h : MsgsAt wx (.slice ua l.length uc) l) => specKeepOk_any (.slice ua l.length uc) l wx hl hls h)
  have hLl := keptM_len l x
  obtain ⟨L, ok, hR⟩ : ∃ L ok, keptM l x = (L, ok) := ⟨_, _, rfl⟩
  simp only [hR] at CI CS hLl
  obtain ⟨rb, hrb⟩ : ∃ b, keepB l = b := ⟨_, rfl⟩
  rw [hrb] at CR CT
  have CQ := Lib.hid (fun u1 u2 wx (h1 : MsgsAt wx u1 L) (h2 : MsgsAt wx u2 L) => likeMsgs_any u1 u2 L wx (by omega) h1 h2)
  obtain ⟨xq, xf, xp, xd⟩ := x
  clear hs hx hls hxs hR hrb hLl
  go_wp2_with fail
  have e0 : Below w1.heap.size w1 (w1.alloc (.cells #[.int .i64 xq, .int .i64 xf, .string xp, .int .i64 xd] 26)) := (Below.refl _ _).alloc (Nat.le_refl _) _
  have SM := Lib.hid (MBox.new w1 26 (xq, xf, xp, xd))
  have K2 := Lib.hid (K1.out.below e0)
  have B2 := Lib.hid (below_end B1.out e0)
  clear e0 K1 B1
  generalize w1.alloc (.cells #[.int .i64 xq, .int .i64 xf, .string xp, .int .i64 xd] 26) = w2 at SM K2 B2 ⊢
  obtain ⟨M, hMM⟩ : ∃ M, w1.heap.size = M := ⟨_, rfl⟩
  rw [hMM] at SM ⊢
  clear hMM
  refine (CI.out _ K2.out ((B2.out.cell hlt).trans HM.out)).mono ?_
  rintro e w3 ⟨V, xu, pre, post, rfl, ho, hp, b3⟩
  have KX := Lib.hid (part_at ho hp)
  obtain ⟨xa, xc, hxu⟩ := hp.slice
  subst hxu
  have SM3 := Lib.hid (SM.out.below b3)
  have K3 := Lib.hid (K2.out.below b3)
  have B3 := Lib.hid (below_end B2.out b3)
  clear ho hp b3 SM K2 B2 CI pre post V
  obtain ⟨d2, d3, d4, d5⟩ := SM3.out.cells
  dsimp only at d2 d3 d4 d5
  go_wp2_with fail
  refine (CS.out _ K3.out).mono ?_
  rintro e w4 ⟨yu, rfl, ho, b4⟩
  obtain ⟨ya, yc, hxu⟩ := own_slice ho
  subst hxu
  have KY := Lib.hid (own_msgs_at ho)
  replace KX := Lib.hid (KX.out.below b4)
  have K4 := Lib.hid (K3.out.below b4)
  have B4 := Lib.hid (below_end B3.out b4)
  clear ho b4 SM3 K3 B3 CS d2 d3 d4 d5
  go_wp2_with fail
  refine (drawKeptFor_any (by omega) ((HC.out.below B4.out.block).mono B4.out.size)).mono ?_
  rintro e w5 ⟨u2, l2, f, rfl, ho, hl2, hs2, hf, b5⟩
  obtain ⟨va, vc, hxu⟩ := own_slice ho
  subst hxu
  have hls2 : ∀ y ∈ l2, y.2.2.1.size ≤ 1048576 := fun y hy => by have := hs2 y hy; unfold ShortM at this; omega
  have CL := Lib.hid (fun wx (h : MsgsAt wx (.slice va l2.length vc) l2) h2 => implKeptFor_any (.slice va l2.length vc) l2 f m wx (by omega) hls2 (by omega) h h2)
  have CZ := Lib.hid (fun wx (h : MsgsAt wx (.slice va l2.length vc) l2) => specKeptFor_any (.slice va l2.length vc) l2 f wx (by omega) hls2 (by omega) h)
  have hL2 := forM_len l2 f
  obtain ⟨L2, hLL⟩ : ∃ L2, forM l2 f = L2 := ⟨_, rfl⟩
  simp only [hLL] at CL CZ hL2
  have CM := Lib.hid (fun u1 u2 wx (h1 : MsgsAt wx u1 L2) (h2 : MsgsAt wx u2 L2) => likeMsgs_any u1 u2 L2 wx (by omega) h1 h2)
  clear hLL hs2 hls2 hL2
  have KU := Lib.hid (own_msgs_at ho)
  replace KX := Lib.hid (KX.out.below b5)
  replace KY := Lib.hid (KY.out.below b5)
  have K5 := Lib.hid (K4.out.below b5)
  have B5 := Lib.hid (below_end B4.out b5)
  clear ho b5 K4 B4
  have e1 : (ok != ok) = false := by simp
  have e2 : (rb != rb) = false := by simp
  go_wp2_with fail
  refine (CQ.out _ _ w5 KX.out KY.out).mono ?_
  rintro e w6 ⟨rfl, b6⟩
  have K6 := Lib.hid (K5.out.below b6)
  replace KU := Lib.hid (KU.out.below b6)
  have B6 := Lib.hid (below_end B5.out b6)
  clear b6 K5 B5 KX KY CQ
  go_wp2_with fail
  refine (CR.out w6 K6.out ((B6.out.cell hlt).trans HM.out)).mono ?_
  rintro e w7 ⟨rfl, b7⟩
  have K7 := Lib.hid (K6.out.below b7)
  replace KU := Lib.hid (KU.out.below b7)
  have B7 := Lib.hid (below_end B6.out b7)
  clear b7 K6 B6 CR
  go_wp2_with fail
  refine (CT.out w7 K7.out).mono ?_
  rintro e w8 ⟨rfl, b8⟩
  replace KU := Lib.hid (KU.out.below b8)
  have B8 := Lib.hid (below_end B7.out b8)
  clear b8 K7 B7 CT
  go_wp2_with fail
  refine (CL.out w8 KU.out ((B8.out.cell hlt).trans HM.out)).mono ?_
  rintro e w9 ⟨V, zu, pre, post, rfl, ho, hp, b9⟩
  have KZ := Lib.hid (part_at ho hp)
  obtain ⟨za, zc, hxu⟩ := hp.slice
  subst hxu
  replace KU := Lib.hid (KU.out.below b9)
  have B9 := Lib.hid (below_end B8.out b9)
  clear ho hp b9 pre post V B8 CL
  go_wp2_with fail
  refine (CZ.out w9 KU.out).mono ?_
  rintro e w10 ⟨tu, rfl, ho, b10⟩
  obtain ⟨ta, tc, hxu⟩ := own_slice ho
  subst hxu
  have KT := Lib.hid (own_msgs_at ho)
  replace KZ := Lib.hid (KZ.out.below b10)
  have B10 := Lib.hid (below_end B9.out b10)
  clear ho b10 B9 KU CZ
  go_wp2_with fail
  refine (CM.out _ _ w10 KZ.out KT.out).mono ?_
  rintro e w11 ⟨rfl, b11⟩
  have B11 := Lib.hid (below_end B10.out b11)
  clear b11 B10 KZ KT CM
  go_wp2_with fail
  refine (roll_any a len cap 7 w11 (by omega) (by omega) ((HC.out.below B11.out.block).mono B11.out.size)).mono ?_
  rintro e w12 ⟨rfl, d7, b12, hs12⟩
  have R12 := Lib.hid (show Rolls w11.heap.size a len cap w12 from ⟨d7, ((HC.out.below B11.out.block).mono B11.out.size).below b12.block⟩)
  have B12 := Lib.hid (below_end B11.out b12)
  have hw11 : w.heap.size ≤ w11.heap.size := B11.out.size
  obtain ⟨g, hgg⟩ : ∃ g, w11.heap.size = g := ⟨_, rfl⟩
  rw [hgg] at R12 hw11 ⊢
  clear d7 b12 hs12 B11 hgg hl hl25 hl2 hf
  go_wp2_with fail
  have e0 := (Below.refl w12.heap.size w12).alloc (Nat.le_refl _) (.cells #[] 26)
  have P13 := Lib.hid (RowP.made w12 (g + 1) (by have := R12.out.lt; omega))
  have R13 := Lib.hid (R12.out.after e0)
  have B13 := Lib.hid (below_end B12.out e0)
  clear e0 R12 B12
  generalize w12.alloc (.cells #[] 26) = w13 at P13 R13 B13 ⊢
  generalize Value.slice (some ⟨w12.heap.size, 0, none⟩) 0 0 = k0 at P13 ⊢
  refine (topic_any R13.out).mono ?_
  rintro e w14 ⟨ts, tn, rfl, htn, hN, ht8, r14, g14⟩
  have R14 := Lib.hid r14
  have B14 := Lib.hid (B13.out.grown g14 B13.out.size (fun k e => by cases e; exact hw11))
  have P14 := Lib.hid (P13.out.thrown (Nat.lt_succ_self g) g14)
  have HT := Lib.hid (show topicP (parts ts 47) = true from hN.topic (by omega))
  have HF := Lib.hid (show filterP (parts ts 47) = true from hN.filter (by omega))
  have hts : ts.size ≤ 1048576 := by omega
  clear r14 g14 R13 B13 P13 hN htn ht8
  obtain ⟨ka, kc, hkk⟩ := P14.out.slice
  subst hkk
  go_wp2_with fail
  go_loopw [12, 14] (fun kv i wr => ∃ (k : Nat) (L : List MsgM), k ≤ 6 ∧ i = .int .i64 ((k : Int) + 1) ∧ Hid (RowP wr (g + 1) kv L) ∧ Hid (KeepL k L) ∧ Hid (Rolls g a len cap wr) ∧ Hid (Below w.heap.size w wr)) (fun _ i _ => 8 - (intOf i).toNat)
  case atStart => exact ⟨0, [], by omega, rfl, P14, ⟨goodK_nil, Nat.le_refl _, by simp⟩, R14, B14⟩
  case round =>
    obtain ⟨k, K, hk, rfl, HP, HK, HRo, HB⟩ := hrel
    clear P14 R14 B14
    obtain ⟨oa, oc, hou⟩ := HP.out.slice
    subst hou
    by_cases hk6 : k < 6
    · have g1 : decide ((k : Int) + 1 ≤ 6) = true := decide_eq_true (by omega)
      have g2 : IntKind.i64.wrap ((k : Int) + 1 + 1) = (k : Int) + 1 + 1 := by rw [IntKind.wrap_i64]; omega
      go_wp2_with fail
      refine (topic_any HRo.out).mono ?_
      rintro e w15 ⟨s, n, rfl, hn, hN, hs8, r15, g15⟩
      have R15 := Lib.hid r15
      have B15 := Lib.hid (HB.out.grown g15 HB.out.size (fun k e => by cases e; exact hw11))
      have P15 := Lib.hid (HP.out.thrown (Nat.lt_succ_self g) g15)
      obtain ⟨L, hL, hX, hKL⟩ := HK.out.told (m := ((k : Int) + 1, 0, s, (k : Int) + 1)) (by omega) (msgB_told (by omega) (by omega) (by omega) (by omega) (hN.topic (by omega))) (show s.size ≤ 1048576 by omega)
      have ci := implKept_any (.slice oa K.length oc) K ((k : Int) + 1, 0, s, (k : Int) + 1) m w15 (by have := HK.out.2.1; omega) HK.out.2.2 (show s.size ≤ 1048576 by omega) P15.out.reads ((B15.out.cell hlt).trans HM.out)
      rw [hL] at ci
      have CI := Lib.hid ci
      have HKL := Lib.hid hKL
      clear hX ci hL hKL r15 g15 HP HK HRo HB hN hs8 hn
      go_wp2_with fail
      refine CI.out.mono ?_
      rintro e w16 ⟨V, nu, pre, post, rfl, ho, hp, b16⟩
      have P16 := Lib.hid (RowP.of ho hp (show g + 1 ≤ w15.heap.size by have := R15.out.lt; omega))
      obtain ⟨na, nc, hnu⟩ := hp.slice
      subst hnu
      have R16 := Lib.hid (R15.out.after b16)
      have B16 := Lib.hid (below_end B15.out b16)
      clear ho hp b16 pre post V P15 R15 B15 CI
      go_wp2
      go_roundw
      case rel => exact ⟨k + 1, L, by omega, by go_num, P16, HKL, R16, B16⟩
      case measure => simp [intOf]; omega
    · obtain rfl : k = 6 := by omega
      obtain ⟨L7, hL7, he7, hK7⟩ := HK.out.told (m := (7, 0, ts, 77)) (by omega) (msgB_told (by omega) (by omega) (by omega) (by omega) HT.out) hts
      have ci := implKept_any (.slice oa K.length oc) K (7, 0, ts, 77) m wr (by have := HK.out.2.1; omega) HK.out.2.2 hts HP.out.reads ((HB.out.cell hlt).trans HM.out)
      rw [hL7] at ci
      have CI := Lib.hid ci
      have H7 := Lib.hid (show forM L7 ts = [(7, 0, ts, 77)] by rw [he7]; exact keeps_one (m := (7, 0, ts, 77)) HK.out.1 (by have := HK.out.2.1; omega) (msgB_told (by omega) (by omega) (by omega) (by omega) HT.out) (show (77 : Int) ≠ 0 by decide) HT.out HF.out)
      have HK7 := Lib.hid hK7
      clear ci hL7 he7 hK7 HK
      go_wp2_with fail
      refine CI.out.mono ?_
      rintro e w16 ⟨V, nu, pre, post, rfl, ho, hp, b16⟩
      have P16 := Lib.hid (RowP.of ho hp (Nat.le_refl _))
      obtain ⟨na, nc, hnu⟩ := hp.slice
      subst hnu
      have B16 := Lib.hid (below_end HB.out b16)
      clear ho hp b16 pre post V CI HP HRo HB
      have hl7 : L7.length ≤ 1048576 := by have := HK7.out.2.1; omega
      have cf := implKeptFor_any (.slice na L7.length nc) L7 ts m w16 hl7 HK7.out.2.2 hts P16.out.reads ((B16.out.cell hlt).trans HM.out)
      rw [H7.out] at cf
      have CF := Lib.hid cf
      clear cf H7
      go_wp2_with fail
      refine CF.out.mono ?_
      rintro e w17 ⟨V, ou, pre, post, rfl, ho, hp, b17⟩
      have KO := Lib.hid (part_at ho hp)
      obtain ⟨pa, pc, hnu⟩ := hp.slice
      subst hnu
      have P17 := Lib.hid (P16.out.below b17)
      have B17 := Lib.hid (below_end B16.out b17)
      clear ho hp b17 pre post V CF P16 B16
      obtain ⟨L8, hL8, he8, hK8⟩ := HK7.out.told (m := (8, 0, ts, 0)) (by omega) (msgB_told (by omega) (by omega) (by omega) (by omega) HT.out) hts
      have ci := implKept_any (.slice na L7.length nc) L7 (8, 0, ts, 0) m w17 hl7 HK7.out.2.2 hts P17.out.reads ((B17.out.cell hlt).trans HM.out)
      rw [hL8] at ci
      have CI := Lib.hid ci
      have H8 := Lib.hid (show forM L8 ts = [] by rw [he8]; exact keeps_none (m := (8, 0, ts, 0)) HK7.out.1 (by have := HK7.out.2.1; omega) (msgB_told (by omega) (by omega) (by omega) (by omega) HT.out) rfl HT.out)
      have HK8 := Lib.hid hK8
      clear ci hL8 he8 hK8
      go_wp2_with fail
      refine CI.out.mono ?_
      rintro e w18 ⟨V, nu, pre, post, rfl, ho, hp, b18⟩
      have P18 := Lib.hid (RowP.of ho hp (Nat.le_refl _))
      obtain ⟨qa, qc, hnu⟩ := hp.slice
      subst hnu
      have KO8 := Lib.hid (KO.out.below b18)
      have B18 := Lib.hid (below_end B17.out b18)
      clear ho hp b18 pre post V CI P17 B17 KO
      have hl8 : L8.length ≤ 1048576 := by have := HK8.out.2.1; omega
      obtain ⟨ob, oo, rfl, hin⟩ : ∃ b o, pa = some ⟨b, o, none⟩ ∧ MsgsIn w18 b o [(7, 0, ts, 77)] := by
        obtain ⟨a', c', he, _, _, h⟩ := KO8.out
        cases he
        rcases h with h | h
        · cases h
        · exact h
      have p3 := (hin 0 (by simp)).2.2.2
      simp only [Nat.zero_mul, Nat.add_zero, List.getElem_cons_zero] at p3
      have cf := implKeptFor_any (.slice qa L8.length qc) L8 ts m w18 hl8 HK8.out.2.2 hts P18.out.reads ((B18.out.cell hlt).trans HM.out)
      rw [H8.out] at cf
      have CF := Lib.hid cf
      clear cf H8 hin KO8
      go_wp2_with fail
      refine CF.out.mono ?_
      rintro e w19 ⟨V, ou, pre, post, rfl, ho, hp, b19⟩
      obtain ⟨ra, rc, hnu⟩ := hp.slice
      subst hnu
      have P19 := Lib.hid (P18.out.below b19)
      have B19 := Lib.hid (below_end B18.out b19)
      clear ho hp b19 pre post V CF P18 B18 p3
      have ck := implKeepOk_any (.slice qa L8.length qc) L8 m w19 hl8 HK8.out.2.2 P19.out.reads ((B19.out.cell hlt).trans HM.out)
      rw [keepB_good HK8.out.1 (by have := HK8.out.2.1; omega)] at ck
      have CK := Lib.hid ck
      clear ck
      go_wp2_with fail
      refine CK.out.mono ?_
      rintro e w20 ⟨rfl, b20⟩
      have B20 := Lib.hid (below_end B19.out b20)
      clear b20 CK P19 B19
      go_wp2
      go_ret
      exact ⟨rfl, B20.out⟩

set_option maxRecDepth 100000 in
theorem contract (H : Type) (enc : TypeId × Value → H) (W : World) (base : Nat) (args : Array Value) (ds gs : List (DataW H)) (before : List MemPlace)
    (hval : ∀ (j : Nat) t v, Tryz.f3.params[j]? = some t → args[j]? = some v → Value.okWide Tryz.prog W .any base t v)
    (hW : DataW.Whole enc Tryz.prog Tryz.f3.params.toList Rows.fnKeepsSpec.vars false W args.toList ds gs before) (hsh : W.ShapedOpen Tryz.prog) :
    Calls Tryz.prog 3 args W fun e W' => ∃ v, e = .returned v ∧ Rows.fnKeepsSpec.post enc Tryz.prog Tryz.f3 false true false false W args v W' := by
  have hW' := hW
  obtain ⟨p, q, hA0, hV, rfl, hfz, hnd⟩ := hW
  have hA : DataW.TrodAll enc Tryz.prog W 0 (fun _ => true) true Tryz.f3.params.toList args.toList ds p := hA0
  rw [Tryz.params3] at hA hval
  obtain ⟨v0, vs0, d0, ds0, p0, q0, hargs, rfl, rfl, h0, r0⟩ := trodAll_cons hA
  obtain ⟨rfl, rfl, rfl⟩ := trodAll_nil r0
  obtain rfl : args = #[v0] := by cases args; simp_all
  obtain ⟨rfl, rfl⟩ := trodVars_none hV
  obtain ⟨a0, len0, cap0, rfl⟩ := okWide_slice Tryz.underlying22 (hval 0 22 v0 rfl rfl)
  have k0 := h0
  have lt0 : ∀ x ∈ p0, x.block < W.heap.size := by obtain ⟨m, hm⟩ := k0; exact DataW.trod_lt m _ _ _ hm
  have w0 : CodeAt W.heap.size a0 len0 W := by
    obtain ⟨fuel, hf⟩ := h0
    rcases open_ints Tryz.underlying22 Tryz.underlying5 (by kernel_rfl) hf with ⟨hcs, _⟩ | ⟨x, l, c, zs, hcs, _, hl, hm, hz, _, hcell, hwz⟩
    · simp [Value.cells] at hcs
      obtain ⟨rfl, rfl, rfl⟩ := hcs
      exact .inl rfl
    · simp [Value.cells] at hcs
      obtain ⟨rfl, rfl, rfl⟩ := hcs
      exact CodeAt.of_ints hl (by simpa using hz) hcell hwz
  clear hA0
  simp only [List.append_nil] at hW'
  obtain ⟨m, hm⟩ := maxLen_cell hsh
  refine (law W a0 len0 cap0 w0 m hm).mono fun e W' ⟨he, hg⟩ => ?_
  subst he
  exact ⟨_, rfl, _, _, _, [], _, [], hW', trodAll_cons_mk (shut_bool Tryz.underlying4 _) trodAll_mk0, trodAll_cons_mk (Below.trod laidOut (by kernel_rfl) (of_decide_eq_true (by kernel_rfl)) k0 hg lt0) (trodAll_mk0), rfl, hg.frame _, fun h => by cases h⟩

theorem reads (os : Os) {H : Type} (enc : TypeId × Value → H) : ∃ places, DataW.whole enc Tryz.prog ((World.laidAll Tryz.prog os Rows.fnKeepsRow.laid).forCall (fun _ _ => 0) ⟨#[], #[(.slice none 0 0 : Value)], []⟩).memory Tryz.f3.params.toList Rows.fnKeepsSpec.vars false (#[(.slice none 0 0 : Value)] : Array Value).toList 8 = some ([.nil], [], places) :=
  ⟨[], by kernel_rfl⟩

theorem laid_met (os : Os) : laidMetH Tryz.prog Rows.fnKeepsRow.laid ((World.laidAll Tryz.prog os Rows.fnKeepsRow.laid).forCall (fun _ _ => 0) ⟨#[], #[(.slice none 0 0 : Value)], []⟩).memory := by
  rw [MakeChecks.laidMetH_plain _ _ _ (by kernel_rfl)]
  exact laidMet_laidAll _ (by kernel_rfl) (by kernel_rfl)

set_option maxRecDepth 100000 in
theorem lifted (os : Os) (started : os.Started) (H : Type) (enc : TypeId × Value → H) (F : Stop.Interp) :
    ReturnsInHanded {} Tryz.checked os 3 .any ((OpenSpec.ofChange Rows.fnKeepsSpec).preRow enc Tryz.prog Tryz.f3 Rows.fnKeepsRow.domain false Rows.fnKeepsRow.laid) (((OpenSpec.ofChange Rows.fnKeepsSpec).at F).post enc Tryz.prog Tryz.f3 false true false false) := by
  obtain ⟨places, hx⟩ := reads os enc
  refine returnsInHanded_of_row (C := Tryz.checked) (s := OpenSpec.ofChange Rows.fnKeepsSpec) own started (by kernel_rfl) Tryz.func3
    (witness_row_at (enc := enc) (C := Tryz.checked) false (World.laidAll Tryz.prog os Rows.fnKeepsRow.laid) #[(.slice none 0 0 : Value)] (World.laidAll_os _ _ _) (by kernel_rfl) (by kernel_rfl) (by kernel_rfl)
      (OpenSpec.preRow_of_cond 8 hx (by kernel_rfl) (fun k hk => by cases hk) (by kernel_rfl) (laid_met os))) ?_
  intro W base args ds gs before hval hW _ _ _ _ hsh _
  exact contract H enc W base args ds gs before hval hW hsh

theorem said : Rows.FnKeepsSaid :=
  OpenClaim.holds_of_cond 3 Tryz.f3 rfl rfl rfl rfl rfl rfl rfl ⟨rfl, rfl, rfl, rfl, rfl⟩ rfl rfl rfl rfl rfl (by kernel_rfl) Tryz.func3 (by kernel_rfl)
    (of_decide_eq_true (by kernel_rfl)) (by unfold Func.isWrapper; first | (rw [if_pos (by decide +kernel)]; kernel_rfl) | (rw [if_neg (by decide +kernel)]; exact ⟨rfl, rfl⟩))
    (fun os started H enc _ F => by rw [OpenClaim.pre_eq_preRow]; exact lifted os started H enc F)

theorem plain (f : FuncId) (fn : Func) (hf : Tryz.pinned.checked.prog.funcNamed Tryz.f3.name = some f) (hfn : Tryz.pinned.checked.prog.funcs[f]? = some fn) :
    false = Tryz.pinned.checked.prog.looks [] ∧ ∀ (j : Nat) t, fn.params[j]? = some t → Tryz.pinned.checked.prog.wantsStandIn t = false := by
  obtain rfl : f = 3 := Option.some.inj ((show Tryz.prog.funcNamed Tryz.f3.name = some 3 by kernel_rfl).symm.trans hf) |>.symm
  obtain rfl : fn = Tryz.f3 := (Option.some.inj (Tryz.func3.symm.trans hfn)).symm
  refine ⟨by kernel_rfl, fun j t ht => ?_⟩
  rw [Tryz.params3] at ht
  have hm := Array.mem_of_getElem? ht
  have hall : (Tryz.f3.params.all fun u => !Tryz.prog.wantsStandIn u) = true := by kernel_rfl
  rw [Tryz.params3] at hall
  rw [Array.all_eq_true_iff_forall_mem] at hall
  have := hall t hm
  exact (show Tryz.prog.wantsStandIn t = false by simpa using this)

theorem card : Rows.FnKeepsCardSaid :=
  Claim7.holds_tied_plain_at .later [] _ _ _ _ said (fun _ h => by cases h) (by kernel_rfl) (fun _ h => by cases h) fnKeeps_row_tie rfl ⟨rfl, rfl⟩ (by kernel_rfl) rfl plain (by kernel_rfl)
end Go.Proofs.YtgkfnmbjlfmcmaaGreatDoor.lawFnKeeps
