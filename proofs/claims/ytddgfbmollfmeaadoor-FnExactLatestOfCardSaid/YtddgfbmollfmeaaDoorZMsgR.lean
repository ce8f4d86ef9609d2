/- The exact laws' measure, copy, look and marks of rings. -/
import Derived.Test.YtddgfbmollfmeaaDoorZMsgK
import Derived.Test.YtddgfbmollfmeaaDoorZB4
set_option linter.unusedSimpArgs false
set_option linter.unusedVariables false
namespace Go.Proofs.YtddgfbmollfmeaaDoor
open Go.RowKit

/-- The ring lies boxed in block B. -/
def RBox (w : World) (B : Nat) (T : TypeId) (cap : Int) (v : Value) : Prop := w.heap[B]? = some (.cells #[.int .i64 cap, v] T (0, 0))
theorem RBox.below {w w' : World} {B : Nat} {T : TypeId} {cap : Int} {v : Value} (h : RBox w B T cap v) (hb : Below w.heap.size w w') : RBox w' B T cap v := (hb.block _ (Array.getElem?_eq_some_iff.1 h).1).trans h
theorem RBox.new (w : World) (T : TypeId) (cap : Int) (v : Value) : RBox (w.alloc (.cells #[.int .i64 cap, v] T)) w.heap.size T cap v := heap_alloc_new _ _
theorem RBox.cells {w : World} {B : Nat} {T : TypeId} {cap : Int} {v : Value} (h : RBox w B T cap v) : w.cell? ⟨B, 0, none⟩ = some (.int .i64 cap) ∧ w.cell? ⟨B, 1, none⟩ = some v := by
  unfold RBox at h
  refine ⟨?_, ?_⟩ <;> simp [World.cell?, h]

theorem own_farN {w : World} {B n size g j : Nat} {E : TypeId} {u v : Value} {xs : List Value} (h : w.ownsRow B E size v n xs) (hg : g < B) : (w.setCell ⟨g, j, none⟩ u).ownsRow B E size v n xs :=
  h.kept (grown_setCell w g j u) (by
    cases e : v.ownBlock with
    | none => exact .inl rfl
    | some k => exact .inr (by have := (h.lt k e).1; intro e2; cases e2; omega))

set_option maxRecDepth 100000 in
set_option maxHeartbeats 400000 in
theorem szRing_any (cap : Int) (v : Value) (l : List MsgM) (left : Int) (w : World) (h0 : 0 ≤ left) (h1 : left ≤ 1048576) (hs : ∀ x ∈ l, x.2.2.1.size ≤ maxLen) (hv : MsgsAt w v l) :
    Calls Tryd.prog 6 #[.agg #[.int .i64 cap, v], .int .i64 left] w fun e w' => e = .returned (.int .i64 (szMs l left)) ∧ Below w.heap.size w w' := by
  have CS := Lib.hid (fun wx (h : MsgsAt wx v l) => szMsgs_any v l left wx h0 h1 hs h)
  have HV := Lib.hid hv
  obtain ⟨ua, uc, rfl, _, _, _⟩ := hv
  have H2 := Lib.hid (szMs_two l left h0)
  obtain ⟨r, hr⟩ : ∃ r, szMs l left = r := ⟨_, rfl⟩
  rw [hr] at CS H2 ⊢
  clear hr hs
  go_enter Tryd.func6, Tryd.ntmps6
  go_wp2_with fail
  refine (CS.out _ (HV.out.alloc _)).mono ?_
  rintro e w2 ⟨rfl, hb⟩
  have HB := Lib.hid (((Below.refl _ w).alloc (Nat.le_refl _) _).trans (hb.mono (by simp)))
  clear hb
  rcases H2.out with ⟨h3, h4⟩ | h3
  · have g3 : decide (r < 0) = true := decide_eq_true h3
    subst h4
    clear H2 h3
    go_wp2
    go_ret
    exact ⟨rfl, HB.out⟩
  · have g3 : decide (r < 0) = false := decide_eq_false (by omega)
    clear H2 h3
    go_wp2
    go_ret
    exact ⟨rfl, HB.out⟩

set_option maxRecDepth 100000 in
set_option maxHeartbeats 800000 in
theorem toRing_any (cap : Int) (v : Value) (l : List MsgM) (w : World) (hl : l.length ≤ 2000000) (hv : MsgsAt w v l) :
    Calls Tryd.prog 8 #[.agg #[.int .i64 cap, v]] w fun e w' => ∃ u, e = .returned (.agg #[.int .i64 cap, u]) ∧ MOwn w' w.heap.size u l ∧ Below w.heap.size w w' := by
  have CT := Lib.hid (fun wx (h : MsgsAt wx v l) => toMsgs_any v l wx hl h)
  have HV := Lib.hid hv
  clear hl hv
  go_enter Tryd.func8, Tryd.ntmps8
  go_wp2_with fail
  obtain ⟨w1, hw1⟩ : ∃ w1, w.alloc (.cells #[.int .i64 cap, v] 24) = w1 := ⟨_, rfl⟩
  have hs1 : w1.heap.size = w.heap.size + 1 := by rw [← hw1]; simp
  have hb1 : Below w.heap.size w w1 := by rw [← hw1]; exact (Below.refl _ _).alloc (Nat.le_refl _) _
  rw [hw1]
  obtain ⟨w2, hw2⟩ : ∃ w2, w1.alloc (.cells #[.int .i64 0, .slice none 0 0] 29) = w2 := ⟨_, rfl⟩
  have hs2 : w2.heap.size = w.heap.size + 1 + 1 := by rw [← hw2]; simp [hs1]
  have hb2 : Below w.heap.size w w2 := by rw [← hw2]; exact hb1.alloc (by omega) _
  have r2 : w2.heap[w.heap.size + 1]? = some (.cells #[.int .i64 0, .slice none 0 0] 29 (0, 0)) := by rw [← hw2, ← hs1]; exact heap_alloc_new _ _
  rw [hw2]
  obtain ⟨w3, hw3⟩ : ∃ w3, w2.alloc (.cells #[.int .i64 cap, .slice none 0 0] 29) = w3 := ⟨_, rfl⟩
  have hs3 : w3.heap.size = w.heap.size + 1 + 1 + 1 := by rw [← hw3]; simp [hs2]
  have hb3 : Below w.heap.size w w3 := by rw [← hw3]; exact hb2.alloc (by omega) _
  have k3 : w3.heap[w.heap.size + 1 + 1]? = some (.cells #[.int .i64 cap, .slice none 0 0] 29 (0, 0)) := by rw [← hw3, ← hs2]; exact heap_alloc_new _ _
  have r3 : w3.heap[w.heap.size + 1]? = some (.cells #[.int .i64 0, .slice none 0 0] 29 (0, 0)) := by rw [← hw3]; exact (((Below.refl _ w2).alloc (Nat.le_refl _) _).block _ (by omega)).trans r2
  rw [hw3]
  refine (CT.out _ (HV.out.below hb3)).mono ?_
  rintro e w4 ⟨u, rfl, ho, hb4⟩
  obtain ⟨ua, uc, hu⟩ := own_slice ho
  subst hu
  have r4 : w4.heap[w.heap.size + 1]? = some (.cells #[.int .i64 0, .slice none 0 0] 29 (0, 0)) := (hb4.block _ (by omega)).trans r3
  have k4 : w4.heap[w.heap.size + 1 + 1]? = some (.cells #[.int .i64 cap, .slice none 0 0] 29 (0, 0)) := (hb4.block _ (by omega)).trans k3
  have hb : Below w.heap.size w w4 := hb3.trans (hb4.mono (by omega))
  have ho2 := own_mono ho (A := w.heap.size + 1 + 1 + 1) (by omega)
  have h1 : w4.cell? ⟨w.heap.size + 1 + 1, 0, none⟩ = some (.int .i64 cap) := cell_of_heap k4 0
  have h2 : w4.cell? ⟨w.heap.size + 1 + 1, 1, none⟩ = some (.slice none 0 0) := cell_of_heap k4 1
  have h3 : w4.frozen? ⟨w.heap.size + 1 + 1, 1, none⟩ = false := frozen_of_row _ _ _ _ _ k4
  have h4 : w4.cell? ⟨w.heap.size + 1, 0, none⟩ = some (.int .i64 0) := cell_of_heap r4 0
  have h5 : w4.cell? ⟨w.heap.size + 1, 1, none⟩ = some (.slice none 0 0) := cell_of_heap r4 1
  have h6 : w4.frozen? ⟨w.heap.size + 1, 0, none⟩ = false := frozen_of_row _ _ _ _ _ r4
  have h7 : w4.frozen? ⟨w.heap.size + 1, 1, none⟩ = false := frozen_of_row _ _ _ _ _ r4
  have HE : Hid (MOwn (((w4.setCell ⟨w.heap.size + 1 + 1, 1, none⟩ (.slice ua l.length uc)).setCell ⟨w.heap.size + 1, 0, none⟩ (.int .i64 cap)).setCell ⟨w.heap.size + 1, 1, none⟩ (.slice ua l.length uc)) w.heap.size (.slice ua l.length uc) l) :=
    Lib.hid (own_mono (own_farN (own_farN (own_farN ho2 (by omega)) (by omega)) (by omega)) (by omega))
  have HR : Hid ((((w4.setCell ⟨w.heap.size + 1 + 1, 1, none⟩ (.slice ua l.length uc)).setCell ⟨w.heap.size + 1, 0, none⟩ (.int .i64 cap)).setCell ⟨w.heap.size + 1, 1, none⟩ (.slice ua l.length uc)).heap[w.heap.size + 1]? = some (.cells #[.int .i64 cap, .slice ua l.length uc] 29 (0, 0))) := Lib.hid (by
    have q1 := (heap_setCell_other w4 ⟨w.heap.size + 1 + 1, 1, none⟩ (w.heap.size + 1) (.slice ua l.length uc) (by simp)).trans r4
    have q2 := heap_setCell_same _ _ 0 _ _ (.int .i64 cap) q1
    exact heap_setCell_same _ _ 1 _ _ (.slice ua l.length uc) q2)
  clear r2 k3 r3 r4 k4 ho ho2 hw1 hw2 hw3 hs1 hs2 hs3 hb1 hb2 hb3 hb4
  have HB : Hid (Below w.heap.size w (((w4.setCell ⟨w.heap.size + 1 + 1, 1, none⟩ (.slice ua l.length uc)).setCell ⟨w.heap.size + 1, 0, none⟩ (.int .i64 cap)).setCell ⟨w.heap.size + 1, 1, none⟩ (.slice ua l.length uc))) :=
    Lib.hid (((hb.grown (grown_setCell _ _ _ _) hb.size (fun k h => by cases h; omega)).grown (grown_setCell _ _ _ _) (by simp; exact hb.size) (fun k h => by cases h; omega)).grown (grown_setCell _ _ _ _) (by simp; exact hb.size) (fun k h => by cases h; omega))
  clear hb
  go_wp2
  refine bodyPost_ret (results_cell_row rfl _ _ _ _ _ _ _ rfl HR.out Tryd.underlying29 rfl (by kernel_rfl)) rfl ⟨_, rfl, HE.out, HB.out⟩

set_option maxRecDepth 100000 in
set_option maxHeartbeats 400000 in
theorem eqRing_any (cap : Int) (va vb : Value) (l : List MsgM) (w : World) (hl : l.length ≤ 4000000) (ha : MsgsAt w va l) (hb : MsgsAt w vb l) :
    Calls Tryd.prog 10 #[.agg #[.int .i64 cap, va], .agg #[.int .i64 cap, vb]] w fun e w' => e = .returned (.bool true) ∧ Below w.heap.size w w' := by
  have HA := Lib.hid ha
  have HB := Lib.hid hb
  obtain ⟨ua, uc, rfl, _, _, _⟩ := ha
  obtain ⟨ub, ud, rfl, _, _, _⟩ := hb
  have CE := Lib.hid (fun wx (h1 : MsgsAt wx (.slice ua l.length uc) l) (h2 : MsgsAt wx (.slice ub l.length ud) l) => eqMsgs_any _ _ l wx hl h1 h2)
  have e1 : (cap != cap) = false := by simp
  go_enter Tryd.func10, Tryd.ntmps10
  go_wp2_with fail
  have hb2 : Below w.heap.size w ((w.alloc (.cells #[.int .i64 cap, .slice ua l.length uc] 29)).alloc (.cells #[.int .i64 cap, .slice ub l.length ud] 29)) := ((Below.refl _ _).alloc (Nat.le_refl _) _).alloc (by simp) _
  refine (CE.out _ (HA.out.below hb2) (HB.out.below hb2)).mono ?_
  rintro e w2 ⟨rfl, hb⟩
  have HE := Lib.hid (below_end hb2 hb)
  clear hb2 hb
  go_wp2
  go_ret
  exact ⟨rfl, HE.out⟩

set_option maxRecDepth 100000 in
set_option maxHeartbeats 400000 in
theorem markRing_any (cap : Int) (v : Value) (l : List MsgM) (k0 B : Nat) (w : World) (hk0 : 1 ≤ k0) (hk1 : k0 + l.length * 4 ≤ 8000000) (hown : MOwn w B v l) :
    Calls Tryd.prog 15 #[.agg #[.int .i64 cap, v], .int .i64 k0] w fun e w' =>
      e = .returned (.int .i64 (k0 + l.length * 4 : Nat)) ∧ MOwn w' B v (mmarks k0 l.length) ∧ w.grownBy w' v.ownBlock := by
  have CK := Lib.hid (fun wx (h : MOwn wx B v l) => markMsgs_any v l k0 B wx hk0 hk1 h)
  have HO := Lib.hid hown
  obtain ⟨ua, uc, rfl⟩ := own_slice hown
  obtain ⟨m, hm⟩ : ∃ m, ((k0 + l.length * 4 : Nat) : Int) = m := ⟨_, rfl⟩
  rw [hm] at CK ⊢
  clear hown hm
  go_enter Tryd.func15, Tryd.ntmps15
  go_wp2_with fail
  have ha := (Below.refl w.heap.size w).alloc (Nat.le_refl _) (.cells #[.int .i64 cap, .slice ua l.length uc] 29)
  refine (CK.out _ (row_below HO.out ha)).mono ?_
  rintro e w2 ⟨rfl, ho, hg⟩
  have HE := Lib.hid ho
  have HG := Lib.hid (grown_trans (grown_below ha) hg)
  clear ho hg ha CK
  go_wp2
  go_ret
  exact ⟨rfl, HE.out, HG.out⟩

set_option maxRecDepth 100000 in
set_option maxHeartbeats 400000 in
theorem heldRing_any (cap : Int) (v : Value) (k0 n : Nat) (w : World) (hk0 : 1 ≤ k0) (hk1 : k0 + n * 4 ≤ 8000000) (hv : MsgsAt w v (mmarks k0 n)) :
    Calls Tryd.prog 16 #[.agg #[.int .i64 cap, v], .int .i64 k0] w fun e w' => e = .returned (.int .i64 (k0 + n * 4 : Nat)) ∧ Below w.heap.size w w' := by
  have CH := Lib.hid (fun wx (h : MsgsAt wx v (mmarks k0 n)) => heldMsgs_any v k0 n wx hk0 hk1 h)
  have HV := Lib.hid hv
  obtain ⟨ua, uc, rfl, _, _, _⟩ := hv
  obtain ⟨m, hm⟩ : ∃ m, ((k0 + n * 4 : Nat) : Int) = m := ⟨_, rfl⟩
  have g1 : decide (m < 0) = false := decide_eq_false (by omega)
  rw [hm] at CH ⊢
  clear hm
  go_enter Tryd.func16, Tryd.ntmps16
  go_wp2_with fail
  refine (CH.out _ (HV.out.alloc _)).mono ?_
  rintro e w2 ⟨rfl, hb⟩
  have HB := Lib.hid (((Below.refl _ w).alloc (Nat.le_refl _) _).trans (hb.mono (by simp)))
  clear hb
  go_wp2
  go_ret
  exact ⟨rfl, HB.out⟩

end Go.Proofs.YtddgfbmollfmeaaDoor
