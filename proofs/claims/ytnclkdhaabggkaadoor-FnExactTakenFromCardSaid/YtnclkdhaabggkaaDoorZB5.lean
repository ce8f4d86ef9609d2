/- Small texts, laid together. -/
import Derived.Test.YtnclkdhaabggkaaDoorZBoxL
import Derived.Test.YtnclkdhaabggkaaDoorZMsgK
import Derived.Test.YtnclkdhaabggkaaDoorZB2
set_option linter.unusedSimpArgs false
set_option linter.unusedVariables false
/- The exact laws' look at boxes: alike, marked, held. -/
namespace Go.Proofs.YtnclkdhaabggkaaDoor
open Go.RowKit

set_option maxRecDepth 100000 in
set_option maxHeartbeats 800000 in
theorem eqBox_any (b : BoxM) (va vb : Value) (w : World) (hl : b.q.length ≤ 4000000) (ha : MsgsAt w va b.q) (hb : MsgsAt w vb b.q) :
    Calls Tryd.prog 10 #[bagg b va, bagg b vb] w fun e w' => e = .returned (.bool true) ∧ Below w.heap.size w w' := by
  have HA := Lib.hid ha
  have HB := Lib.hid hb
  obtain ⟨ua, uc, rfl, _, _, _⟩ := ha
  obtain ⟨ub, ud, rfl, _, _, _⟩ := hb
  have CE := Lib.hid (fun wx (h1 : MsgsAt wx (.slice ua b.q.length uc) b.q) (h2 : MsgsAt wx (.slice ub b.q.length ud) b.q) => eqMsgs_any _ _ b.q wx hl h1 h2)
  have e1 : (b.cap != b.cap) = false := by simp
  have e2 : (b.pol != b.pol) = false := by simp
  have e3 : (b.ofr != b.ofr) = false := by simp
  have e4 : (b.rcv != b.rcv) = false := by simp
  have e5 : (b.drp != b.drp) = false := by simp
  have e6 : (b.mrg != b.mrg) = false := by simp
  have e7 : (b.shut != b.shut) = false := by simp
  go_enter Tryd.func10, Tryd.ntmps10
  go_upto_region 1 with (fail)
  have s1 : (w.alloc (.cells (bcells b (.slice ua b.q.length uc)) 28)).heap.size = w.heap.size + 1 := by simp
  have b1 : Below w.heap.size w (w.alloc (.cells (bcells b (.slice ua b.q.length uc)) 28)) := (Below.refl _ _).alloc (Nat.le_refl _) _
  have r1 : BBox (w.alloc (.cells (bcells b (.slice ua b.q.length uc)) 28)) w.heap.size 28 b (.slice ua b.q.length uc) := BBox.new _ _ _ _
  generalize w.alloc (.cells (bcells b (.slice ua b.q.length uc)) 28) = w1 at s1 b1 r1 ⊢
  have b2 : Below w.heap.size w (w1.alloc (.cells (bcells b (.slice ub b.q.length ud)) 28)) := b1.alloc (by omega) _
  have r2 : BBox (w1.alloc (.cells (bcells b (.slice ub b.q.length ud)) 28)) (w.heap.size + 1) 28 b (.slice ub b.q.length ud) := by rw [← s1]; exact BBox.new _ _ _ _
  have q2 := r1.below ((Below.refl _ w1).alloc (Nat.le_refl _) (.cells (bcells b (.slice ub b.q.length ud)) 28))
  generalize w1.alloc (.cells (bcells b (.slice ub b.q.length ud)) 28) = w2 at b2 r2 q2 ⊢
  clear s1 b1 r1
  obtain ⟨x0, x1, x2, x3, x4, x5, x6, x7⟩ := q2.cells
  obtain ⟨y0, y1, y2, y3, y4, y5, y6, y7⟩ := r2.cells
  go_wp2_with fail
  refine (CE.out _ (HA.out.below b2) (HB.out.below b2)).mono ?_
  rintro e w3 ⟨rfl, hb⟩
  have HE := Lib.hid (below_end b2 hb)
  have r3 := r2.below hb
  have q3 := q2.below hb
  clear b2 hb r2 q2 x0 x1 x2 x3 x4 x5 x6 x7 y0 y1 y2 y3 y4 y5 y6 y7
  obtain ⟨x0, x1, x2, x3, x4, x5, x6, x7⟩ := q3.cells
  obtain ⟨y0, y1, y2, y3, y4, y5, y6, y7⟩ := r3.cells
  go_wp2
  go_ret
  exact ⟨rfl, HE.out⟩

set_option maxRecDepth 100000 in
set_option maxHeartbeats 400000 in
theorem markBox_any (b : BoxM) (v : Value) (k0 B : Nat) (w : World) (hk0 : 1 ≤ k0) (hk1 : k0 + b.q.length * 4 ≤ 8000000) (hown : MOwn w B v b.q) :
    Calls Tryd.prog 12 #[bagg b v, .int .i64 k0] w fun e w' =>
      e = .returned (.int .i64 (k0 + b.q.length * 4 : Nat)) ∧ MOwn w' B v (mmarks k0 b.q.length) ∧ w.grownBy w' v.ownBlock := by
  have CK := Lib.hid (fun wx (h : MOwn wx B v b.q) => markMsgs_any v b.q k0 B wx hk0 hk1 h)
  have HO := Lib.hid hown
  obtain ⟨ua, uc, rfl⟩ := own_slice hown
  obtain ⟨m, hm⟩ : ∃ m, ((k0 + b.q.length * 4 : Nat) : Int) = m := ⟨_, rfl⟩
  rw [hm] at CK ⊢
  clear hown hm
  go_enter Tryd.func12, Tryd.ntmps12
  go_wp2_with fail
  have ha := (Below.refl w.heap.size w).alloc (Nat.le_refl _) (.cells (bcells b (.slice ua b.q.length uc)) 28)
  refine (CK.out _ (row_below HO.out ha)).mono ?_
  rintro e w2 ⟨rfl, ho, hg⟩
  have HE := Lib.hid ho
  have HG := Lib.hid (grown_trans (grown_below ha) hg)
  clear ho hg ha CK
  go_wp2
  go_ret
  exact ⟨rfl, HE.out, HG.out⟩

set_option maxRecDepth 100000 in
set_option maxHeartbeats 400000 in
theorem heldBox_any (b : BoxM) (n : Nat) (v : Value) (k0 : Nat) (w : World) (hk0 : 1 ≤ k0) (hk1 : k0 + n * 4 ≤ 8000000) (hv : MsgsAt w v (mmarks k0 n)) :
    Calls Tryd.prog 13 #[bagg b v, .int .i64 k0] w fun e w' => e = .returned (.int .i64 (k0 + n * 4 : Nat)) ∧ Below w.heap.size w w' := by
  have CH := Lib.hid (fun wx (h : MsgsAt wx v (mmarks k0 n)) => heldMsgs_any v k0 n wx hk0 hk1 h)
  have HV := Lib.hid hv
  obtain ⟨ua, uc, rfl, _, _, _⟩ := hv
  obtain ⟨m, hm⟩ : ∃ m, ((k0 + n * 4 : Nat) : Int) = m := ⟨_, rfl⟩
  have g1 : decide (m < 0) = false := decide_eq_false (by omega)
  rw [hm] at CH ⊢
  clear hm
  go_enter Tryd.func13, Tryd.ntmps13
  go_wp2_with fail
  refine (CH.out _ (HV.out.alloc _)).mono ?_
  rintro e w2 ⟨rfl, hb⟩
  have HB := Lib.hid (((Below.refl _ w).alloc (Nat.le_refl _) _).trans (hb.mono (by simp)))
  clear hb
  go_wp2
  go_ret
  exact ⟨rfl, HB.out⟩

end Go.Proofs.YtnclkdhaabggkaaDoor

/- An answer that is a part of an own row of messages: what it holds, and the exact laws' marks laid into it. -/
namespace Go.Proofs.YtnclkdhaabggkaaDoor
open Go.RowKit

theorem pmarked_next (pre l post : List MsgM) (k0 k : Nat) (h : k < l.length) : (pre ++ mmarked l k0 k ++ post).set (pre.length + k) (mmark (k0 + k * 4)) = pre ++ mmarked l k0 (k + 1) ++ post := by
  have h2 := mmarked_length l k0 k (by omega)
  rw [List.append_assoc, List.set_append_right _ _ (by omega), show pre.length + k - pre.length = k by omega, List.set_append_left _ _ (by omega), mmarked_next l k0 k h, List.append_assoc]

set_option maxRecDepth 100000 in
set_option maxHeartbeats 1600000 in
theorem markPart_any (V u : Value) (pre l post : List MsgM) (k0 B : Nat) (w : World) (hk0 : 1 ≤ k0) (hk1 : k0 + l.length * 4 ≤ 8000000) (hown : MOwn w B V (pre ++ l ++ post)) (hpt : PartOf V pre.length l.length u) :
    Calls Tryd.prog 26 #[u, .int .i64 k0] w fun e w' =>
      e = .returned (.int .i64 (k0 + l.length * 4 : Nat)) ∧ MOwn w' B V (pre ++ mmarks k0 l.length ++ post) ∧ w.grownBy w' V.ownBlock := by
  have hlz : l.length = 0 ∨ ∃ g o c C, V = .slice (some ⟨g, 0, none⟩) (pre ++ l ++ post).length C ∧ u = .slice (some ⟨g, o, none⟩) l.length c ∧ l.length ≤ c ∧ c ≤ maxLen ∧ o = pre.length * 4 := by
    rcases hpt with ⟨_, _, h0⟩ | ⟨g, o, c, C, N, rfl, rfl, h1, h2, h3⟩
    · exact .inl h0
    · rcases h3 with h3 | h3
      · exact .inl h3
      · obtain ⟨_, _, e⟩ := own_slice hown
        cases e
        exact .inr ⟨g, o, c, C, rfl, rfl, h1, h2, h3⟩
  rcases hlz with hl0 | ⟨g, o, cu, C, rfl, rfl, hlc, hcm, ho⟩
  · obtain ⟨ua, uc, rfl⟩ := hpt.slice
    have hl1 : l = [] := List.length_eq_zero_iff.1 hl0
    subst hl1
    go_enter Tryd.func26, Tryd.ntmps26
    go_wp2
    go_loopw [1, 5] (fun m i wr => i = .int .i64 0 ∧ m = .int .i64 k0 ∧ wr = w) (fun _ _ _ => 0)
    case atStart => exact ⟨rfl, rfl, rfl⟩
    case round =>
      obtain ⟨rfl, rfl, rfl⟩ := hrel
      go_wp2
      go_ret
      exact ⟨rfl, hown, grown_refl _ _⟩
  unfold maxLen at hcm
  have HO : Hid (MOwn w B (.slice (some ⟨g, 0, none⟩) (pre ++ l ++ post).length C) (pre ++ mmarked l k0 0 ++ post)) := Lib.hid (by simpa [mmarked, mmarks] using hown)
  obtain ⟨N, hN⟩ : ∃ N, (pre ++ l ++ post).length = N := ⟨_, rfl⟩
  have HN2 : Hid (N = pre.length + l.length + post.length ∧ o = pre.length * 4) := Lib.hid ⟨by rw [← hN]; simp; omega, ho⟩
  rw [hN] at HO ⊢
  clear hown hpt hN ho
  go_enter Tryd.func26, Tryd.ntmps26
  go_wp2
  go_loopw [1, 5] (fun m i wr => ∃ k q : Nat, k ≤ l.length ∧ i = .int .i64 k ∧ m = .int .i64 q ∧ q = k0 + k * 4 ∧ Hid (MOwn wr B (.slice (some ⟨g, 0, none⟩) N C) (pre ++ mmarked l k0 k ++ post)) ∧ Hid (w.grownBy wr (some g))) (fun _ i _ => l.length - (intOf i).toNat)
  case atStart => exact ⟨0, k0, Nat.zero_le _, rfl, rfl, by omega, HO, grown_refl _ _⟩
  case round =>
    obtain ⟨k, q, hk, rfl, rfl, hq, H1, H2⟩ := hrel
    by_cases hlt : k < l.length
    · obtain ⟨hN2, ho⟩ := HN2.out
      have hlen : (pre ++ mmarked l k0 k ++ post).length = N := by have := mmarked_length l k0 k hk; simp; omega
      have CM := Lib.hid (fun wx => markText_any (q + 2) wx (by omega) (by omega))
      rw [show ((q + 2 : Nat) : Int) = (k0 : Int) + (k : Int) * 4 + 1 + 1 by omega] at CM
      have hn1 := pmarked_next pre l post k0 k hlt
      rw [← hq] at hn1
      have HN := Lib.hid hn1
      have hrow : wr.ownsRow B 30 4 (.slice (some ⟨g, 0, none⟩) N C) N (mcells (pre ++ mmarked l k0 k ++ post)) := by have := H1.out; unfold MOwn at this; rw [hlen] at this; exact this
      have f0 := hrow.frozenAt (o + k * 4)
      have f1 := hrow.frozenAt (o + k * 4 + 1)
      have hex : ∀ j, j < 4 → ∃ u, wr.cell? ⟨g, o + k * 4 + j, none⟩ = some u := fun j hj => ⟨_, (hrow.cellAt _ (by omega)).trans (List.getElem?_eq_getElem (by rw [hrow.1]; omega))⟩
      obtain ⟨z0, c0⟩ := hex 0 (by omega)
      obtain ⟨z1, c1⟩ := hex 1 (by omega)
      rw [Nat.add_zero] at c0
      have HR := Lib.hid hrow
      clear hrow hex hn1
      have HC4 : Hid (((((mcells (pre ++ mmarked l k0 k ++ post)).set (o + k * 4) (.int .i64 ((k0 : Int) + (k : Int) * 4))).set (o + k * 4 + 1) (.int .i64 ((k0 : Int) + (k : Int) * 4 + 1))).set (o + k * 4 + 2) (.string (mtext (q + 2)))).set (o + k * 4 + 3) (.int .i64 ((k0 : Int) + (k : Int) * 4 + 1 + 1 + 1)) = mcells (pre ++ mmarked l k0 (k + 1) ++ post)) := Lib.hid (by
        rw [← HN.out, ← mcells_set _ _ (mmark q) (by rw [hlen]; omega)]
        have e0 : ((q : Nat) : Int) = (k0 : Int) + (k : Int) * 4 := by omega
        have e1 : ((q + 1 : Nat) : Int) = (k0 : Int) + (k : Int) * 4 + 1 := by omega
        have e3 : ((q + 3 : Nat) : Int) = (k0 : Int) + (k : Int) * 4 + 1 + 1 + 1 := by omega
        have e4 : (pre.length + k) * 4 = o + k * 4 := by omega
        simp only [mmark, e0, e1, e3, e4])
      have hlen2 : (pre ++ mmarked l k0 (k + 1) ++ post).length = N := by have := mmarked_length l k0 (k + 1) (by omega); simp; omega
      obtain ⟨t, ht⟩ : ∃ t, mtext (q + 2) = t := ⟨_, rfl⟩
      rw [ht] at CM HC4
      have hR1 := HR.out.1
      rw [mcells_length, hlen] at hR1
      clear HN ht ho
      go_wp2_with fail
      have row2 := ((HR.out.stored (o + k * 4) (.int .i64 ((k0 : Int) + (k : Int) * 4))).1.stored (o + k * 4 + 1) (.int .i64 ((k0 : Int) + (k : Int) * 4 + 1))).1
      have grow2 := grown_trans H2.out (grown_trans (grown_setCell wr g (o + k * 4) (.int .i64 ((k0 : Int) + (k : Int) * 4))) (grown_setCell _ g (o + k * 4 + 1) (.int .i64 ((k0 : Int) + (k : Int) * 4 + 1))))
      refine (CM.out _).mono ?_
      clear CM
      rintro e w1 ⟨rfl, hb⟩
      have row3 := row_below row2 hb
      have G3 := Lib.hid (grown_trans grow2 (grown_below (r := some g) hb))
      have hrow4 := ((row3.stored (o + k * 4 + 2) (.string t)).1.stored (o + k * 4 + 3) (.int .i64 ((k0 : Int) + (k : Int) * 4 + 1 + 1 + 1))).1
      rw [HC4.out] at hrow4
      have R4 : Hid (MOwn _ B (.slice (some ⟨g, 0, none⟩) N C) (pre ++ mmarked l k0 (k + 1) ++ post)) := Lib.hid (by unfold MOwn; rw [hlen2]; exact hrow4)
      have G4 := Lib.hid (grown_trans G3.out (grown_trans (grown_setCell w1 g (o + k * 4 + 2) (.string t)) (grown_setCell _ g (o + k * 4 + 3) (.int .i64 ((k0 : Int) + (k : Int) * 4 + 1 + 1 + 1)))))
      have f2 := row3.frozenAt (o + k * 4 + 2)
      have f3 := row3.frozenAt (o + k * 4 + 3)
      have hex : ∀ j, j < 4 → ∃ u, w1.cell? ⟨g, o + k * 4 + j, none⟩ = some u := fun j hj => ⟨_, (row3.cellAt _ (by have h5 := HN2.out.2; have h6 := HN2.out.1; omega)).trans (List.getElem?_eq_getElem (by rw [row3.1]; have h5 := HN2.out.2; have h6 := HN2.out.1; omega))⟩
      obtain ⟨z2, c2⟩ := hex 2 (by omega)
      obtain ⟨z3, c3⟩ := hex 3 (by omega)
      clear row2 grow2 row3 hrow4 hb hex HC4 HR G3 H1 H2 c0 c1 f0 f1 hlen hlen2 hN2 hR1
      go_wp2
      go_roundw
      case rel => exact ⟨k + 1, k0 + (k + 1) * 4, by omega, by go_num, congrArg (Value.int .i64) (by omega), rfl, R4, G4⟩
      case measure => simp [intOf]; omega
    · obtain rfl : k = l.length := by omega
      have HE : Hid (MOwn wr B (.slice (some ⟨g, 0, none⟩) N C) (pre ++ mmarks k0 l.length ++ post)) := Lib.hid (by rw [← mmarked_all]; exact H1.out)
      go_wp2
      go_ret
      exact ⟨congrArg (fun x : Nat => Ending.returned (Value.int .i64 x)) hq, HE.out, H2.out⟩

/-- All that a walk wants of a part. -/
theorem part_kit {V u : Value} {pre L post : List MsgM} (hp : PartOf V pre.length L.length u) (hl : 1 + L.length * 4 ≤ 8000000) :
    ∃ X Y : List MsgM, pre ++ L ++ post = X ∧ Y.length = X.length ∧ (∀ B wx, MOwn wx B V X → MsgsAt wx u L) ∧
      (∀ B wx, MOwn wx B V X → Calls Tryd.prog 26 #[u, .int .i64 ((1 : Nat) : Int)] wx fun e w' => e = .returned (.int .i64 (1 + L.length * 4 : Nat)) ∧ MOwn w' B V Y ∧ wx.grownBy w' V.ownBlock) ∧
      (∀ B wx, MOwn wx B V Y → MsgsAt wx u (mmarks 1 L.length)) :=
  ⟨pre ++ L ++ post, pre ++ mmarks 1 L.length ++ post, rfl, by simp [mmarks_length], fun _ _ h => part_at h hp, fun B wx h => markPart_any V u pre L post 1 B wx (Nat.le_refl _) hl h hp,
    fun _ _ h => part_at h (by rw [mmarks_length]; exact hp)⟩

end Go.Proofs.YtnclkdhaabggkaaDoor

/- The exact laws' marks laid into a box whose queue is a part of an own row. -/
namespace Go.Proofs.YtnclkdhaabggkaaDoor
open Go.RowKit

set_option maxRecDepth 100000 in
set_option maxHeartbeats 400000 in
theorem markBoxPart_any (b : BoxM) (V u : Value) (pre post : List MsgM) (k0 B : Nat) (w : World) (hk0 : 1 ≤ k0) (hk1 : k0 + b.q.length * 4 ≤ 8000000) (hown : MOwn w B V (pre ++ b.q ++ post)) (hpt : PartOf V pre.length b.q.length u) :
    Calls Tryd.prog 12 #[bagg b u, .int .i64 k0] w fun e w' =>
      e = .returned (.int .i64 (k0 + b.q.length * 4 : Nat)) ∧ MOwn w' B V (pre ++ mmarks k0 b.q.length ++ post) ∧ w.grownBy w' V.ownBlock := by
  have CK := Lib.hid (fun wx (h : MOwn wx B V (pre ++ b.q ++ post)) => markPart_any V u pre b.q post k0 B wx hk0 hk1 h hpt)
  have HO := Lib.hid hown
  obtain ⟨ua, uc, rfl⟩ := hpt.slice
  obtain ⟨m, hm⟩ : ∃ m, ((k0 + b.q.length * 4 : Nat) : Int) = m := ⟨_, rfl⟩
  rw [hm] at CK ⊢
  clear hown hm hpt
  go_enter Tryd.func12, Tryd.ntmps12
  go_wp2_with fail
  have ha := (Below.refl w.heap.size w).alloc (Nat.le_refl _) (.cells (bcells b (.slice ua b.q.length uc)) 28)
  refine (CK.out _ (row_below HO.out ha)).mono ?_
  rintro e w2 ⟨rfl, ho, hg⟩
  have HE := Lib.hid ho
  have HG := Lib.hid (grown_trans (grown_below ha) hg)
  clear ho hg ha CK
  go_wp2
  go_ret
  exact ⟨rfl, HE.out, HG.out⟩

/-- All that a walk wants of a box whose queue is a part. -/
structure PartBK (b : BoxM) (ky : Int) (V u : Value) (X Y : List MsgM) : Prop where
  len : Y.length = X.length
  reads : ∀ B wx, MOwn wx B V X → MsgsAt wx u b.q
  mark : ∀ B wx, MOwn wx B V X → Calls Tryd.prog 12 #[bagg b u, .int .i64 ((1 : Nat) : Int)] wx fun e w' => e = .returned (.int .i64 ky) ∧ MOwn w' B V Y ∧ wx.grownBy w' V.ownBlock
  marked : ∀ B wx, MOwn wx B V Y → MsgsAt wx u (mmarks 1 b.q.length)

theorem part_kitBK {b : BoxM} {ky : Int} {V u : Value} {pre post : List MsgM} (hp : PartOf V pre.length b.q.length u) (hl : 1 + b.q.length * 4 ≤ 8000000) (hk : ((1 + b.q.length * 4 : Nat) : Int) = ky) :
    ∃ X Y : List MsgM, pre ++ b.q ++ post = X ∧ PartBK b ky V u X Y :=
  ⟨pre ++ b.q ++ post, pre ++ mmarks 1 b.q.length ++ post, rfl, by simp [mmarks_length], fun _ _ h => part_at h hp,
    fun B wx h => by have := markBoxPart_any b V u pre post 1 B wx (Nat.le_refl _) hl h hp; rw [hk] at this; exact this, fun _ _ h => part_at h (by rw [mmarks_length]; exact hp)⟩

end Go.Proofs.YtnclkdhaabggkaaDoor
