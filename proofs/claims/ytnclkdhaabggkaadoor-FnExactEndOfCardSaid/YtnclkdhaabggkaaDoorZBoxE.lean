/- The exact laws' look at boxes: alike, marked, held. -/
import Derived.Test.YtnclkdhaabggkaaDoorZBoxL
import Derived.Test.YtnclkdhaabggkaaDoorZMsgK
set_option linter.unusedSimpArgs false
set_option linter.unusedVariables false
namespace Go.Proofs.YtnclkdhaabggkaaDoor
open Go.RowKit

set_option maxRecDepth 100000 in
set_option maxHeartbeats 800000 in
theorem eqBox_any (b : BoxM) (va vb : Value) (w : World) (hl : b.q.length ≤ 4000000) (ha : MsgsAt w va b.q) (hb : MsgsAt w vb b.q) :
    Calls Tryd.prog 10 #[bagg b va, bagg b vb] w fun e w' => e = .returned (.bool true) ∧ Below w.heap.size w w' := by
  have HA := Lib.hid ha
  have HB := Lib.hid hb
  obtain ⟨ua, uc, rfl, _, _, _⟩ := ha
  obtain ⟨ub, ud, rfl, _, _, _⟩ := hb
  have CE := Lib.hid (fun wx (h1 : MsgsAt wx (.slice ua b.q.length uc) b.q) (h2 : MsgsAt wx (.slice ub b.q.length ud) b.q) => eqMsgs_any _ _ b.q wx hl h1 h2)
  have e1 : (b.cap != b.cap) = false := by simp
  have e2 : (b.pol != b.pol) = false := by simp
  have e3 : (b.ofr != b.ofr) = false := by simp
  have e4 : (b.rcv != b.rcv) = false := by simp
  have e5 : (b.drp != b.drp) = false := by simp
  have e6 : (b.mrg != b.mrg) = false := by simp
  have e7 : (b.shut != b.shut) = false := by simp
  go_enter Tryd.func10, Tryd.ntmps10
  go_upto_region 1 with (fail)
  have s1 : (w.alloc (.cells (bcells b (.slice ua b.q.length uc)) 28)).heap.size = w.heap.size + 1 := by simp
  have b1 : Below w.heap.size w (w.alloc (.cells (bcells b (.slice ua b.q.length uc)) 28)) := (Below.refl _ _).alloc (Nat.le_refl _) _
  have r1 : BBox (w.alloc (.cells (bcells b (.slice ua b.q.length uc)) 28)) w.heap.size 28 b (.slice ua b.q.length uc) := BBox.new _ _ _ _
  generalize w.alloc (.cells (bcells b (.slice ua b.q.length uc)) 28) = w1 at s1 b1 r1 ⊢
  have b2 : Below w.heap.size w (w1.alloc (.cells (bcells b (.slice ub b.q.length ud)) 28)) := b1.alloc (by omega) _
  have r2 : BBox (w1.alloc (.cells (bcells b (.slice ub b.q.length ud)) 28)) (w.heap.size + 1) 28 b (.slice ub b.q.length ud) := by rw [← s1]; exact BBox.new _ _ _ _
  have q2 := r1.below ((Below.refl _ w1).alloc (Nat.le_refl _) (.cells (bcells b (.slice ub b.q.length ud)) 28))
  generalize w1.alloc (.cells (bcells b (.slice ub b.q.length ud)) 28) = w2 at b2 r2 q2 ⊢
  clear s1 b1 r1
  obtain ⟨x0, x1, x2, x3, x4, x5, x6, x7⟩ := q2.cells
  obtain ⟨y0, y1, y2, y3, y4, y5, y6, y7⟩ := r2.cells
  go_wp2_with fail
  refine (CE.out _ (HA.out.below b2) (HB.out.below b2)).mono ?_
  rintro e w3 ⟨rfl, hb⟩
  have HE := Lib.hid (below_end b2 hb)
  have r3 := r2.below hb
  have q3 := q2.below hb
  clear b2 hb r2 q2 x0 x1 x2 x3 x4 x5 x6 x7 y0 y1 y2 y3 y4 y5 y6 y7
  obtain ⟨x0, x1, x2, x3, x4, x5, x6, x7⟩ := q3.cells
  obtain ⟨y0, y1, y2, y3, y4, y5, y6, y7⟩ := r3.cells
  go_wp2
  go_ret
  exact ⟨rfl, HE.out⟩

set_option maxRecDepth 100000 in
set_option maxHeartbeats 400000 in
theorem markBox_any (b : BoxM) (v : Value) (k0 B : Nat) (w : World) (hk0 : 1 ≤ k0) (hk1 : k0 + b.q.length * 4 ≤ 8000000) (hown : MOwn w B v b.q) :
    Calls Tryd.prog 12 #[bagg b v, .int .i64 k0] w fun e w' =>
      e = .returned (.int .i64 (k0 + b.q.length * 4 : Nat)) ∧ MOwn w' B v (mmarks k0 b.q.length) ∧ w.grownBy w' v.ownBlock := by
  have CK := Lib.hid (fun wx (h : MOwn wx B v b.q) => markMsgs_any v b.q k0 B wx hk0 hk1 h)
  have HO := Lib.hid hown
  obtain ⟨ua, uc, rfl⟩ := own_slice hown
  obtain ⟨m, hm⟩ : ∃ m, ((k0 + b.q.length * 4 : Nat) : Int) = m := ⟨_, rfl⟩
  rw [hm] at CK ⊢
  clear hown hm
  go_enter Tryd.func12, Tryd.ntmps12
  go_wp2_with fail
  have ha := (Below.refl w.heap.size w).alloc (Nat.le_refl _) (.cells (bcells b (.slice ua b.q.length uc)) 28)
  refine (CK.out _ (row_below HO.out ha)).mono ?_
  rintro e w2 ⟨rfl, ho, hg⟩
  have HE := Lib.hid ho
  have HG := Lib.hid (grown_trans (grown_below ha) hg)
  clear ho hg ha CK
  go_wp2
  go_ret
  exact ⟨rfl, HE.out, HG.out⟩

set_option maxRecDepth 100000 in
set_option maxHeartbeats 400000 in
theorem heldBox_any (b : BoxM) (n : Nat) (v : Value) (k0 : Nat) (w : World) (hk0 : 1 ≤ k0) (hk1 : k0 + n * 4 ≤ 8000000) (hv : MsgsAt w v (mmarks k0 n)) :
    Calls Tryd.prog 13 #[bagg b v, .int .i64 k0] w fun e w' => e = .returned (.int .i64 (k0 + n * 4 : Nat)) ∧ Below w.heap.size w w' := by
  have CH := Lib.hid (fun wx (h : MsgsAt wx v (mmarks k0 n)) => heldMsgs_any v k0 n wx hk0 hk1 h)
  have HV := Lib.hid hv
  obtain ⟨ua, uc, rfl, _, _, _⟩ := hv
  obtain ⟨m, hm⟩ : ∃ m, ((k0 + n * 4 : Nat) : Int) = m := ⟨_, rfl⟩
  have g1 : decide (m < 0) = false := decide_eq_false (by omega)
  rw [hm] at CH ⊢
  clear hm
  go_enter Tryd.func13, Tryd.ntmps13
  go_wp2_with fail
  refine (CH.out _ (HV.out.alloc _)).mono ?_
  rintro e w2 ⟨rfl, hb⟩
  have HB := Lib.hid (((Below.refl _ w).alloc (Nat.le_refl _) _).trans (hb.mono (by simp)))
  clear hb
  go_wp2
  go_ret
  exact ⟨rfl, HB.out⟩

end Go.Proofs.YtnclkdhaabggkaaDoor
