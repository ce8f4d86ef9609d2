/- The walk of the program's own ring of messages: put. -/
import Derived.Test.YtiholijkijdlmaaDoorZB3
import Derived.Test.YtiholijkijdlmaaDoorZIRingLast
set_option linter.unusedSimpArgs false
set_option linter.unusedVariables false
namespace Go.Proofs.YtiholijkijdlmaaDoor
open Go.RowKit

/-- With it behind the others; where there are more, without the first one. -/
def putM (cap : Int) (l : List MsgM) (x : MsgM) : List MsgM := if cap < (l.length : Int) + 1 then (l ++ [x]).drop 1 else l ++ [x]

theorem own_ne_box {w : World} {B n size G : Nat} {E T : TypeId} {v : Value} {xs : List Value} {cs : Array Value} {fr : Nat × Nat} (h : w.ownsRow B E size v n xs) (hb : w.heap[G]? = some (.cells cs T fr)) (hT : T ≠ E) : v.ownBlock ≠ some G := by
  rcases h.2 with ⟨rfl, _⟩ | ⟨g, cap, cur, rfl, _, h3, _⟩
  · intro e; cases e
  · intro e
    have e2 : g = G := by cases e; rfl
    subst e2
    rw [hb] at h3
    cases h3
    exact hT rfl

/-- What a taking-in leaves. -/
theorem put_stored {w1 w3 : World} {G B : Nat} {cap : Int} {v v' : Value} {l : List MsgM} {x : MsgM} {A : World} (ho : MOwn A B v l) (hr : RBoxM A G cap v) (hown : w3.ownsRow B 28 4 v' (l.length + 1) (mcells l ++ mcells [x])) (hgr : A.grownBy w3 v.ownBlock)
    (hb : Below B w1 A) (hBA : B ≤ A.heap.size) (hBG : B ≤ G) :
    w3.cell? ⟨G, 1, none⟩ = some v ∧ w3.frozen? ⟨G, 1, none⟩ = false ∧ RBoxM (w3.setCell ⟨G, 1, none⟩ v') G cap v' ∧ MOwn (w3.setCell ⟨G, 1, none⟩ v') B v' (l ++ [x]) ∧ Below B w1 (w3.setCell ⟨G, 1, none⟩ v') := by
  have h3 : RBoxM w3 G cap v := type_kept ho hgr hr (by decide)
  have h4 : RBoxM (w3.setCell ⟨G, 1, none⟩ v') G cap v' := heap_setCell_same _ _ 1 _ _ v' h3
  refine ⟨h3.c1, frozen_of_row _ _ _ _ _ h3, h4, ?_, ?_⟩
  · unfold MOwn
    rw [List.length_append, mcells_app]
    exact hown.kept (grown_setCell _ _ _ _) (.inr (own_ne_box hown h3 (by decide)))
  · have h5 := hb.grown hgr hBA (fun k h => (ho.lt k h).1)
    exact h5.grown (grown_setCell _ _ _ _) (Nat.le_trans hBA hgr.size) (fun k h => by cases h; exact hBG)

set_option maxRecDepth 100000 in
set_option maxHeartbeats 3200000 in
theorem put_any (G : Nat) (cap : Int) (u : Value) (l : List MsgM) (x : MsgM) (B : Nat) (w : World) (hl : l.length ≤ 2000000) (hr : RBoxM w G cap u) (ho : MOwn w B u l) (hB : B ≤ w.heap.size) (hG : B ≤ G) :
    Calls Tryd.prog 27 #[.pointer (some ⟨G, 0, none⟩), magg x] w fun e w' => e = .returned (.tuple #[]) ∧
      ∃ V u' pre, RBoxM w' G cap u' ∧ MOwn w' B V (pre ++ putM cap l x ++ []) ∧ PartOf V pre.length (putM cap l x).length u' ∧ Below B w w' := by
  obtain ⟨i, hi, hz0, hz1, hz2⟩ := msg_info
  obtain ⟨ua, uc, rfl⟩ := own_slice ho
  obtain ⟨q, f, p, d⟩ := x
  have ha : Below w.heap.size w (w.alloc (.cells #[.int .i64 q, .int .i64 f, .string p, .int .i64 d] 28)) := (Below.refl _ _).alloc (Nat.le_refl _) _
  have hs1 : (w.alloc (.cells #[.int .i64 q, .int .i64 f, .string p, .int .i64 d] 28)).heap.size = w.heap.size + 1 := by simp
  have c1 := (hr.below ha).c1
  have r1 := hr.below ha
  have o1 := row_below ho ha
  have i0 : (w.alloc (.cells #[.int .i64 q, .int .i64 f, .string p, .int .i64 d] 28)).heap[w.heap.size]? = _ := heap_alloc_new _ _
  have hlg := hr.lt
  go_enter Tryd.func27, Tryd.ntmps27
  go_wp2_with fail
  obtain ⟨w1, hw1⟩ : ∃ w1, w.alloc (.cells #[.int .i64 q, .int .i64 f, .string p, .int .i64 d] 28) = w1 := ⟨_, rfl⟩
  obtain ⟨I, hI⟩ : ∃ I, w.heap.size = I := ⟨_, rfl⟩
  rw [hw1] at ha hs1 c1 r1 o1 i0 ⊢
  rw [hI] at ha hs1 i0 hlg hB ⊢
  have hb1 : Below B w w1 := by rw [← hw1]; exact ((Below.refl B w).alloc (by rw [hI]; exact hB) _)
  clear ho hr hw1
  have d0 := cell_of_heap i0 0
  have d1 := cell_of_heap i0 1
  have d2 := cell_of_heap i0 2
  have d3 := cell_of_heap i0 3
  have e1 : w1.drew.heap.size = I + 1 := hs1
  have HSR : Hid (SrcAt (w1.drew.alloc (.cells #[.int .i64 q, .int .i64 f, .string p, .int .i64 d] 28)) (.slice (some ⟨I + 1, 0, none⟩) 1 1) 1 (mcells [(q, f, p, d)])) := Lib.hid ⟨_, _, rfl, .inr ⟨_, rfl, by have h := msg_new w1.drew (q, f, p, d) 28; rw [e1] at h; exact h⟩⟩
  have hA2 : Below w1.drew.heap.size w1.drew (w1.drew.alloc (.cells #[.int .i64 q, .int .i64 f, .string p, .int .i64 d] 28)) := (Below.refl _ _).alloc (Nat.le_refl _) _
  have HRR : Hid (RBoxM (w1.drew.alloc (.cells #[.int .i64 q, .int .i64 f, .string p, .int .i64 d] 28)) G cap (.slice ua l.length uc)) := Lib.hid (RBoxM.below (w := w1.drew) r1 hA2)
  have HO2 : Hid (MOwn (w1.drew.alloc (.cells #[.int .i64 q, .int .i64 f, .string p, .int .i64 d] 28)) B (.slice ua l.length uc) l) := Lib.hid (row_below (w := w1.drew) (row_below o1 (Below.refl _ _).drew) hA2)
  have hz2' : (w1.drew.alloc (.cells #[.int .i64 q, .int .i64 f, .string p, .int .i64 d] 28)).heap.size = I + 1 + 1 := by simp [hs1]
  have HB2 : Hid (Below B w (w1.drew.alloc (.cells #[.int .i64 q, .int .i64 f, .string p, .int .i64 d] 28)) ∧ B ≤ (w1.drew.alloc (.cells #[.int .i64 q, .int .i64 f, .string p, .int .i64 d] 28)).heap.size) := Lib.hid ⟨hb1.drew.alloc (by rw [e1]; omega) _, by rw [hz2']; omega⟩
  have c2 := HRR.out.c1
  clear hA2 r1 o1 i0 ha hb1
  have HPM : Hid (∀ X : List MsgM, cap < (l.length : Int) + 1 → X = (l ++ [(q, f, p, d)]).drop 1 → putM cap l (q, f, p, d) = X) := Lib.hid (fun X h e => by rw [e]; unfold putM; rw [if_pos h])
  have HPN : Hid (¬ cap < (l.length : Int) + 1 → putM cap l (q, f, p, d) = l ++ [(q, f, p, d)]) := Lib.hid (fun h => by unfold putM; rw [if_neg h])
  refine wp_region_held_drew (S := fun _ => True) (by kernel_rfl) ?_ (fun hHeld => ?_)
  · trivial
  change wpAnyH _ _ _ _ _ 11 #[false, false, false, false, false, false, false, false, false, false, false] _ _
  refine wpAnyH_take (i := 0) (v := ?_) rfl (by kernel_rfl) (by kernel_rfl) (by kernel_rfl) (fun _ _ _ h => h) (Or.inl ⟨by rfl, ?_⟩) (by assumption) ?_
  rotate_left
  · intro w hSw; (try dsimp only at hSw); go_simp; try with_reducible rfl
  try simp only [Act.put, List.getElem_toArray, List.getElem_cons_succ, List.getElem_cons_zero, List.setIfInBounds_toArray, List.set_cons_zero, List.set_cons_succ]
  refine wpAnyH_take (i := 1) (v := ?_) rfl (by kernel_rfl) (by kernel_rfl) (by kernel_rfl) (fun _ _ _ h => h) (Or.inl ⟨by rfl, ?_⟩) (by assumption) ?_
  rotate_left
  · intro w hSw; (try dsimp only at hSw); go_simp; try with_reducible rfl
  try simp only [Act.put, List.getElem_toArray, List.getElem_cons_succ, List.getElem_cons_zero, List.setIfInBounds_toArray, List.set_cons_zero, List.set_cons_succ]
  refine wpAnyH_take (i := 2) (v := ?_) rfl (by kernel_rfl) (by kernel_rfl) (by kernel_rfl) (fun _ _ _ h => h) (Or.inl ⟨by rfl, ?_⟩) (by assumption) ?_
  rotate_left
  · intro w hSw; (try dsimp only at hSw); go_simp; try with_reducible rfl
  try simp only [Act.put, List.getElem_toArray, List.getElem_cons_succ, List.getElem_cons_zero, List.setIfInBounds_toArray, List.set_cons_zero, List.set_cons_succ]
  refine wpAnyH_take (i := 3) (v := ?_) rfl (by kernel_rfl) (by kernel_rfl) (by kernel_rfl) (fun _ _ _ h => h) (Or.inl ⟨by rfl, ?_⟩) (by assumption) ?_
  rotate_left
  · intro w hSw; (try dsimp only at hSw); go_simp; try with_reducible rfl
  try simp only [Act.put, List.getElem_toArray, List.getElem_cons_succ, List.getElem_cons_zero, List.setIfInBounds_toArray, List.set_cons_zero, List.set_cons_succ]
  refine wpAnyH_ready (rs := [4, 5]) (by kernel_rfl) (by simp) (AllReadyH.cons rfl (fun K hK => ?_) (AllReadyH.cons rfl (fun K hK => ?_) AllReadyH.nil))
  · skip
    rw [if_pos (by rfl)]
    go_simp
    refine hK.out _ _ ?_ (fun hHeld => ?_)
    · trivial
    clear hK K
    try simp only [Act.put, List.getElem_toArray, List.getElem_cons_succ, List.getElem_cons_zero, List.setIfInBounds_toArray, List.set_cons_zero, List.set_cons_succ]
    refine wpAnyH_ready (rs := [5]) (by kernel_rfl) (by simp) (AllReadyH.cons rfl (fun K hK => ?_) AllReadyH.nil)
    rw [if_pos (by rfl)]
    go_simp
    refine hK.out _ _ ?_ (fun hHeld => ?_)
    · trivial
    clear hK K
    try simp only [Act.put, List.getElem_toArray, List.getElem_cons_succ, List.getElem_cons_zero, List.setIfInBounds_toArray, List.set_cons_zero, List.set_cons_succ]
    refine wpAnyH_ready (rs := [6]) (by kernel_rfl) (by simp) (AllReadyH.cons rfl (fun K hK => ?_) AllReadyH.nil)
    rw [if_pos (by rfl)]
    go_simp
    refine hK.out _ _ ?_ (fun hHeld => ?_)
    · trivial
    clear hK K
    try simp only [Act.put, List.getElem_toArray, List.getElem_cons_succ, List.getElem_cons_zero, List.setIfInBounds_toArray, List.set_cons_zero, List.set_cons_succ]
    refine wpAnyH_ready (rs := [7]) (by kernel_rfl) (by simp) (AllReadyH.cons rfl (fun K hK => ?_) AllReadyH.nil)
    rw [if_pos (by rfl)]
    refine wp_append_src (.tmp 8) (.tmp 10) 24 rfl B 28 i (.agg #[.int .i64 0, .int .i64 0, .string ⟨#[]⟩, .int .i64 0]) 4 40 Tryd.underlying24 hi hz0 hz1 hz2 rfl (by decide) (.slice ua l.length uc) (.slice (some ⟨I + 1, 0, none⟩) 1 1) l.length 1 (mcells l) (mcells [(q, f, p, d)]) (by simp [Act.eval]) HO2.out (by simp [Act.eval]) HSR.out rfl (mcells_one _) (by unfold maxLen; omega) (by omega) HB2.out.2 ?_; intro v' w3 hown hgr _; obtain ⟨gy, yc, hyv⟩ := Joins.ownsRow_form hown (by omega); subst hyv; obtain ⟨z1, z2, hR4, hO4, hB4⟩ := put_stored HO2.out HRR.out hown hgr HB2.out.1 HB2.out.2 hG; have y1 : l.length + 1 ≤ yc := own_cap2 hown; have HO4 := Lib.hid hO4; have HB4 := Lib.hid hB4; have HR4 := Lib.hid hR4; have HCM : Hid (yc ≤ maxLen) := Lib.hid (own_max hown); clear hown hgr hO4 hB4 hR4
    refine hK.out _ _ ?_ (fun hHeld => ?_)
    · trivial
    clear hK K
    try simp only [Act.put, List.getElem_toArray, List.getElem_cons_succ, List.getElem_cons_zero, List.setIfInBounds_toArray, List.set_cons_zero, List.set_cons_succ]
    refine wpAnyH_take (i := 8) (v := ?_) rfl (by kernel_rfl) (by kernel_rfl) (by kernel_rfl) (fun _ _ _ h => h) (Or.inl ⟨by rfl, ?_⟩) (by assumption) ?_
    rotate_left
    · intro w hSw; (try dsimp only at hSw); go_simp; try with_reducible rfl
    try simp only [Act.put, List.getElem_toArray, List.getElem_cons_succ, List.getElem_cons_zero, List.setIfInBounds_toArray, List.set_cons_zero, List.set_cons_succ]
    refine wpAnyH_take (i := 9) (v := ?_) rfl (by kernel_rfl) (by kernel_rfl) (by kernel_rfl) (fun _ _ _ h => h) (Or.inl ⟨by rfl, ?_⟩) (by assumption) ?_
    rotate_left
    · intro w hSw; (try dsimp only at hSw); go_simp; try with_reducible rfl
    try simp only [Act.put, List.getElem_toArray, List.getElem_cons_succ, List.getElem_cons_zero, List.setIfInBounds_toArray, List.set_cons_zero, List.set_cons_succ]
    refine wpAnyH_ready (rs := [10]) (by kernel_rfl) (by simp) (AllReadyH.cons rfl (fun K hK => ?_) AllReadyH.nil)
    rw [if_pos (by rfl)]
    go_simp
    refine hK.out _ _ ?_ (fun hHeld => ?_)
    · trivial
    clear hK K
    try simp only [Act.put, List.getElem_toArray, List.getElem_cons_succ, List.getElem_cons_zero, List.setIfInBounds_toArray, List.set_cons_zero, List.set_cons_succ]
    refine wpAnyH_done (by kernel_rfl) ?_ _
    clear hHeld c1 c2 d0 d1 d2 d3 z1 z2 e1 hz2' hs1 HRR HO2 HB2 HSR
    generalize w3.setCell ⟨G, 1, none⟩ (.slice (some ⟨gy, 0, none⟩) (l.length + 1) yc) = w4 at HO4 HB4 HR4 ⊢
    have k0 := HR4.out.c0
    have k1 := HR4.out.c1
    have k2 : w4.frozen? ⟨G, 1, none⟩ = false := frozen_of_row _ _ _ _ _ HR4.out
    have y2 : (1 : Int) ≤ (l.length : Int) + 1 := by omega
    have HW5 : Hid (∀ v', RBoxM (w4.setCell ⟨G, 1, none⟩ v') G cap v' ∧ MOwn (w4.setCell ⟨G, 1, none⟩ v') B (.slice (some ⟨gy, 0, none⟩) (l.length + 1) yc) (l ++ [(q, f, p, d)]) ∧ Below B w (w4.setCell ⟨G, 1, none⟩ v')) := Lib.hid (fun v' => ⟨heap_setCell_same _ _ 1 _ _ v' HR4.out, World.ownsRow.kept HO4.out (grown_setCell _ _ _ _) (.inr (own_ne_box HO4.out HR4.out (by decide))), HB4.out.grown (grown_setCell _ _ _ _) (Nat.le_trans hG (Nat.le_of_lt HR4.out.lt)) (fun k h => by cases h; exact hG)⟩)
    by_cases hdr : cap < (l.length : Int) + 1
    · have g8 : decide (cap < (l.length : Int) + 1) = true := decide_eq_true hdr
      go_wp2_with fail
      refine wp_region_held_drew (S := fun wx => wx.cell? ⟨G, 0, none⟩ = some (.int .i64 cap) ∧ wx.cell? ⟨G, 1, none⟩ = some (.slice (some ⟨gy, 0, none⟩) (l.length + 1) yc)) (by kernel_rfl) ?_ (fun hHeld => ?_)
      · exact ⟨k0, k1⟩
      change wpAnyH _ _ _ _ _ 10 #[false, false, false, false, false, false, false, false, false, false] _ _
      refine wpAnyH_take (i := 0) (v := ?_) rfl (by kernel_rfl) (by kernel_rfl) (by kernel_rfl) (fun _ _ _ h => h) (Or.inl ⟨by rfl, ?_⟩) (by assumption) ?_
      rotate_left
      · intro w hSw; (try dsimp only at hSw); go_simp; try with_reducible rfl
      try simp only [Act.put, List.getElem_toArray, List.getElem_cons_succ, List.getElem_cons_zero, List.setIfInBounds_toArray, List.set_cons_zero, List.set_cons_succ]
      refine wpAnyH_take (i := 1) (v := ?_) rfl (by kernel_rfl) (by kernel_rfl) (by kernel_rfl) (fun _ _ _ h => h) (Or.inl ⟨by rfl, ?_⟩) (by assumption) ?_
      rotate_left
      · intro w hSw; (try dsimp only at hSw); go_simp; try with_reducible rfl
      try simp only [Act.put, List.getElem_toArray, List.getElem_cons_succ, List.getElem_cons_zero, List.setIfInBounds_toArray, List.set_cons_zero, List.set_cons_succ]
      refine wpAnyH_take (i := 2) (v := ?_) rfl (by kernel_rfl) (by kernel_rfl) (by kernel_rfl) (fun _ _ _ h => h) (Or.inl ⟨by rfl, ?_⟩) (by assumption) ?_
      rotate_left
      · intro w hSw; (try dsimp only at hSw); go_simp; try with_reducible rfl
      try simp only [Act.put, List.getElem_toArray, List.getElem_cons_succ, List.getElem_cons_zero, List.setIfInBounds_toArray, List.set_cons_zero, List.set_cons_succ]
      refine wpAnyH_take (i := 3) (v := ?_) rfl (by kernel_rfl) (by kernel_rfl) (by kernel_rfl) (fun _ _ _ h => h) (Or.inl ⟨by rfl, ?_⟩) (by assumption) ?_
      rotate_left
      · intro w hSw; (try dsimp only at hSw); go_simp; try with_reducible rfl
      try simp only [Act.put, List.getElem_toArray, List.getElem_cons_succ, List.getElem_cons_zero, List.setIfInBounds_toArray, List.set_cons_zero, List.set_cons_succ]
      refine wpAnyH_take (i := 4) (v := ?_) rfl (by kernel_rfl) (by kernel_rfl) (by kernel_rfl) (fun _ _ _ h => h) (Or.inl ⟨by rfl, ?_⟩) (by assumption) ?_
      rotate_left
      · intro w hSw; (try dsimp only at hSw); go_simp; try with_reducible rfl
      try simp only [Act.put, List.getElem_toArray, List.getElem_cons_succ, List.getElem_cons_zero, List.setIfInBounds_toArray, List.set_cons_zero, List.set_cons_succ]
      refine wpAnyH_take (i := 5) (v := ?_) rfl (by kernel_rfl) (by kernel_rfl) (by kernel_rfl) (fun _ _ _ h => h) (Or.inl ⟨by rfl, ?_⟩) (by assumption) ?_
      rotate_left
      · intro w hSw; (try dsimp only at hSw); go_simp; try with_reducible rfl
      try simp only [Act.put, List.getElem_toArray, List.getElem_cons_succ, List.getElem_cons_zero, List.setIfInBounds_toArray, List.set_cons_zero, List.set_cons_succ]
      refine wpAnyH_take (i := 6) (v := ?_) rfl (by kernel_rfl) (by kernel_rfl) (by kernel_rfl) (fun _ _ _ h => h) (Or.inl ⟨by rfl, ?_⟩) (by assumption) ?_
      rotate_left
      · intro w hSw; (try dsimp only at hSw); go_simp; try with_reducible rfl
      try simp only [Act.put, List.getElem_toArray, List.getElem_cons_succ, List.getElem_cons_zero, List.setIfInBounds_toArray, List.set_cons_zero, List.set_cons_succ]
      refine wpAnyH_take (i := 7) (v := ?_) rfl (by kernel_rfl) (by kernel_rfl) (by kernel_rfl) (fun _ _ _ h => h) (Or.inl ⟨by rfl, ?_⟩) (by assumption) ?_
      rotate_left
      · intro w hSw; (try dsimp only at hSw); go_simp; try with_reducible rfl
      try simp only [Act.put, List.getElem_toArray, List.getElem_cons_succ, List.getElem_cons_zero, List.setIfInBounds_toArray, List.set_cons_zero, List.set_cons_succ]
      refine wpAnyH_take (i := 8) (v := ?_) rfl (by kernel_rfl) (by kernel_rfl) (by kernel_rfl) (fun _ _ _ h => h) (Or.inl ⟨by rfl, ?_⟩) (by assumption) ?_
      rotate_left
      · intro w hSw; (try dsimp only at hSw); go_simp; try with_reducible rfl
      try simp only [Act.put, List.getElem_toArray, List.getElem_cons_succ, List.getElem_cons_zero, List.setIfInBounds_toArray, List.set_cons_zero, List.set_cons_succ]
      refine wpAnyH_take (i := 9) (v := ?_) rfl (by kernel_rfl) (by kernel_rfl) (by kernel_rfl) (fun _ _ _ h => h) (Or.inl ⟨by rfl, ?_⟩) (by assumption) ?_
      rotate_left
      · intro w hSw; (try dsimp only at hSw); go_simp; try with_reducible rfl
      try simp only [Act.put, List.getElem_toArray, List.getElem_cons_succ, List.getElem_cons_zero, List.setIfInBounds_toArray, List.set_cons_zero, List.set_cons_succ]
      refine wpAnyH_done (by kernel_rfl) ?_ _
      clear hHeld
      have HPL : Hid (putM cap l (q, f, p, d) = (l ++ [(q, f, p, d)]).drop 1 ∧ (putM cap l (q, f, p, d)).length = l.length ∧ ((l ++ [(q, f, p, d)]).take 1).length = 1 ∧ (l ++ [(q, f, p, d)]).take 1 ++ putM cap l (q, f, p, d) ++ [] = l ++ [(q, f, p, d)]) := Lib.hid (by
        have h := HPM.out _ hdr rfl
        refine ⟨h, by rw [h]; simp, by simp, by rw [h, List.append_nil, List.take_append_drop]⟩)
      by_cases hyc : yc = 1
      · go_wp2
        go_end0
        refine ⟨rfl, .slice (some ⟨gy, 0, none⟩) (l.length + 1) yc, _, (l ++ [(q, f, p, d)]).take 1, (HW5.out _).1, ?_, ?_, (HW5.out _).2.2.drew⟩
        · rw [HPL.out.2.2.2]; exact (HW5.out _).2.1
        · rw [HPL.out.2.1, HPL.out.2.2.1]; exact .inr ⟨gy, 0, 0, yc, l.length + 1, rfl, rfl, by omega, by omega, .inl (by omega)⟩
      · go_wp2
        go_end0
        refine ⟨rfl, .slice (some ⟨gy, 0, none⟩) (l.length + 1) yc, _, (l ++ [(q, f, p, d)]).take 1, (HW5.out _).1, ?_, ?_, (HW5.out _).2.2.drew⟩
        · rw [HPL.out.2.2.2]; exact (HW5.out _).2.1
        · rw [HPL.out.2.1, HPL.out.2.2.1]; exact .inr ⟨gy, 4, yc - 1, yc, l.length + 1, rfl, rfl, by omega, by have := HCM.out; omega, .inr (by omega)⟩
    · have g8 : decide (cap < (l.length : Int) + 1) = false := decide_eq_false hdr
      go_wp2_with fail
      refine wp_region_held_drew (S := fun wx => wx.cell? ⟨G, 0, none⟩ = some (.int .i64 cap) ∧ wx.cell? ⟨G, 1, none⟩ = some (.slice (some ⟨gy, 0, none⟩) (l.length + 1) yc)) (by kernel_rfl) ?_ (fun hHeld => ?_)
      · exact ⟨k0, k1⟩
      change wpAnyH _ _ _ _ _ 10 #[false, false, false, false, false, false, false, false, false, false] _ _
      refine wpAnyH_take (i := 0) (v := ?_) rfl (by kernel_rfl) (by kernel_rfl) (by kernel_rfl) (fun _ _ _ h => h) (Or.inl ⟨by rfl, ?_⟩) (by assumption) ?_
      rotate_left
      · intro w hSw; (try dsimp only at hSw); go_simp; try with_reducible rfl
      try simp only [Act.put, List.getElem_toArray, List.getElem_cons_succ, List.getElem_cons_zero, List.setIfInBounds_toArray, List.set_cons_zero, List.set_cons_succ]
      refine wpAnyH_take (i := 1) (v := ?_) rfl (by kernel_rfl) (by kernel_rfl) (by kernel_rfl) (fun _ _ _ h => h) (Or.inl ⟨by rfl, ?_⟩) (by assumption) ?_
      rotate_left
      · intro w hSw; (try dsimp only at hSw); go_simp; try with_reducible rfl
      try simp only [Act.put, List.getElem_toArray, List.getElem_cons_succ, List.getElem_cons_zero, List.setIfInBounds_toArray, List.set_cons_zero, List.set_cons_succ]
      refine wpAnyH_take (i := 2) (v := ?_) rfl (by kernel_rfl) (by kernel_rfl) (by kernel_rfl) (fun _ _ _ h => h) (Or.inl ⟨by rfl, ?_⟩) (by assumption) ?_
      rotate_left
      · intro w hSw; (try dsimp only at hSw); go_simp; try with_reducible rfl
      try simp only [Act.put, List.getElem_toArray, List.getElem_cons_succ, List.getElem_cons_zero, List.setIfInBounds_toArray, List.set_cons_zero, List.set_cons_succ]
      refine wpAnyH_take (i := 3) (v := ?_) rfl (by kernel_rfl) (by kernel_rfl) (by kernel_rfl) (fun _ _ _ h => h) (Or.inl ⟨by rfl, ?_⟩) (by assumption) ?_
      rotate_left
      · intro w hSw; (try dsimp only at hSw); go_simp; try with_reducible rfl
      try simp only [Act.put, List.getElem_toArray, List.getElem_cons_succ, List.getElem_cons_zero, List.setIfInBounds_toArray, List.set_cons_zero, List.set_cons_succ]
      refine wpAnyH_take (i := 4) (v := ?_) rfl (by kernel_rfl) (by kernel_rfl) (by kernel_rfl) (fun _ _ _ h => h) (Or.inl ⟨by rfl, ?_⟩) (by assumption) ?_
      rotate_left
      · intro w hSw; (try dsimp only at hSw); go_simp; try with_reducible rfl
      try simp only [Act.put, List.getElem_toArray, List.getElem_cons_succ, List.getElem_cons_zero, List.setIfInBounds_toArray, List.set_cons_zero, List.set_cons_succ]
      refine wpAnyH_take (i := 5) (v := ?_) rfl (by kernel_rfl) (by kernel_rfl) (by kernel_rfl) (fun _ _ _ h => h) (Or.inl ⟨by rfl, ?_⟩) (by assumption) ?_
      rotate_left
      · intro w hSw; (try dsimp only at hSw); go_simp; try with_reducible rfl
      try simp only [Act.put, List.getElem_toArray, List.getElem_cons_succ, List.getElem_cons_zero, List.setIfInBounds_toArray, List.set_cons_zero, List.set_cons_succ]
      refine wpAnyH_take (i := 6) (v := ?_) rfl (by kernel_rfl) (by kernel_rfl) (by kernel_rfl) (fun _ _ _ h => h) (Or.inl ⟨by rfl, ?_⟩) (by assumption) ?_
      rotate_left
      · intro w hSw; (try dsimp only at hSw); go_simp; try with_reducible rfl
      try simp only [Act.put, List.getElem_toArray, List.getElem_cons_succ, List.getElem_cons_zero, List.setIfInBounds_toArray, List.set_cons_zero, List.set_cons_succ]
      refine wpAnyH_take (i := 7) (v := ?_) rfl (by kernel_rfl) (by kernel_rfl) (by kernel_rfl) (fun _ _ _ h => h) (Or.inl ⟨by rfl, ?_⟩) (by assumption) ?_
      rotate_left
      · intro w hSw; (try dsimp only at hSw); go_simp; try with_reducible rfl
      try simp only [Act.put, List.getElem_toArray, List.getElem_cons_succ, List.getElem_cons_zero, List.setIfInBounds_toArray, List.set_cons_zero, List.set_cons_succ]
      refine wpAnyH_take (i := 8) (v := ?_) rfl (by kernel_rfl) (by kernel_rfl) (by kernel_rfl) (fun _ _ _ h => h) (Or.inl ⟨by rfl, ?_⟩) (by assumption) ?_
      rotate_left
      · intro w hSw; (try dsimp only at hSw); go_simp; try with_reducible rfl
      try simp only [Act.put, List.getElem_toArray, List.getElem_cons_succ, List.getElem_cons_zero, List.setIfInBounds_toArray, List.set_cons_zero, List.set_cons_succ]
      refine wpAnyH_take (i := 9) (v := ?_) rfl (by kernel_rfl) (by kernel_rfl) (by kernel_rfl) (fun _ _ _ h => h) (Or.inl ⟨by rfl, ?_⟩) (by assumption) ?_
      rotate_left
      · intro w hSw; (try dsimp only at hSw); go_simp; try with_reducible rfl
      try simp only [Act.put, List.getElem_toArray, List.getElem_cons_succ, List.getElem_cons_zero, List.setIfInBounds_toArray, List.set_cons_zero, List.set_cons_succ]
      refine wpAnyH_done (by kernel_rfl) ?_ _
      clear hHeld
      go_wp2
      go_end0
      rw [HPN.out hdr]
      exact ⟨rfl, _, _, [], HR4.out, by rw [List.nil_append, List.append_nil]; exact row_below HO4.out (Below.refl _ _).drew, by have h := PartOf.whole HO4.out; simpa using h, HB4.out.drew⟩
  · skip
    rw [if_pos (by rfl)]
    go_simp
    refine hK.out _ _ ?_ (fun hHeld => ?_)
    · trivial
    clear hK K
    try simp only [Act.put, List.getElem_toArray, List.getElem_cons_succ, List.getElem_cons_zero, List.setIfInBounds_toArray, List.set_cons_zero, List.set_cons_succ]
    refine wpAnyH_ready (rs := [4, 6]) (by kernel_rfl) (by simp) (AllReadyH.cons rfl (fun K hK => ?_) (AllReadyH.cons rfl (fun K hK => ?_) AllReadyH.nil))
    · skip
      rw [if_pos (by rfl)]
      go_simp
      refine hK.out _ _ ?_ (fun hHeld => ?_)
      · trivial
      clear hK K
      try simp only [Act.put, List.getElem_toArray, List.getElem_cons_succ, List.getElem_cons_zero, List.setIfInBounds_toArray, List.set_cons_zero, List.set_cons_succ]
      refine wpAnyH_ready (rs := [6]) (by kernel_rfl) (by simp) (AllReadyH.cons rfl (fun K hK => ?_) AllReadyH.nil)
      rw [if_pos (by rfl)]
      go_simp
      refine hK.out _ _ ?_ (fun hHeld => ?_)
      · trivial
      clear hK K
      try simp only [Act.put, List.getElem_toArray, List.getElem_cons_succ, List.getElem_cons_zero, List.setIfInBounds_toArray, List.set_cons_zero, List.set_cons_succ]
      refine wpAnyH_ready (rs := [7]) (by kernel_rfl) (by simp) (AllReadyH.cons rfl (fun K hK => ?_) AllReadyH.nil)
      rw [if_pos (by rfl)]
      refine wp_append_src (.tmp 8) (.tmp 10) 24 rfl B 28 i (.agg #[.int .i64 0, .int .i64 0, .string ⟨#[]⟩, .int .i64 0]) 4 40 Tryd.underlying24 hi hz0 hz1 hz2 rfl (by decide) (.slice ua l.length uc) (.slice (some ⟨I + 1, 0, none⟩) 1 1) l.length 1 (mcells l) (mcells [(q, f, p, d)]) (by simp [Act.eval]) HO2.out (by simp [Act.eval]) HSR.out rfl (mcells_one _) (by unfold maxLen; omega) (by omega) HB2.out.2 ?_; intro v' w3 hown hgr _; obtain ⟨gy, yc, hyv⟩ := Joins.ownsRow_form hown (by omega); subst hyv; obtain ⟨z1, z2, hR4, hO4, hB4⟩ := put_stored HO2.out HRR.out hown hgr HB2.out.1 HB2.out.2 hG; have y1 : l.length + 1 ≤ yc := own_cap2 hown; have HO4 := Lib.hid hO4; have HB4 := Lib.hid hB4; have HR4 := Lib.hid hR4; have HCM : Hid (yc ≤ maxLen) := Lib.hid (own_max hown); clear hown hgr hO4 hB4 hR4
      refine hK.out _ _ ?_ (fun hHeld => ?_)
      · trivial
      clear hK K
      try simp only [Act.put, List.getElem_toArray, List.getElem_cons_succ, List.getElem_cons_zero, List.setIfInBounds_toArray, List.set_cons_zero, List.set_cons_succ]
      refine wpAnyH_take (i := 8) (v := ?_) rfl (by kernel_rfl) (by kernel_rfl) (by kernel_rfl) (fun _ _ _ h => h) (Or.inl ⟨by rfl, ?_⟩) (by assumption) ?_
      rotate_left
      · intro w hSw; (try dsimp only at hSw); go_simp; try with_reducible rfl
      try simp only [Act.put, List.getElem_toArray, List.getElem_cons_succ, List.getElem_cons_zero, List.setIfInBounds_toArray, List.set_cons_zero, List.set_cons_succ]
      refine wpAnyH_take (i := 9) (v := ?_) rfl (by kernel_rfl) (by kernel_rfl) (by kernel_rfl) (fun _ _ _ h => h) (Or.inl ⟨by rfl, ?_⟩) (by assumption) ?_
      rotate_left
      · intro w hSw; (try dsimp only at hSw); go_simp; try with_reducible rfl
      try simp only [Act.put, List.getElem_toArray, List.getElem_cons_succ, List.getElem_cons_zero, List.setIfInBounds_toArray, List.set_cons_zero, List.set_cons_succ]
      refine wpAnyH_ready (rs := [10]) (by kernel_rfl) (by simp) (AllReadyH.cons rfl (fun K hK => ?_) AllReadyH.nil)
      rw [if_pos (by rfl)]
      go_simp
      refine hK.out _ _ ?_ (fun hHeld => ?_)
      · trivial
      clear hK K
      try simp only [Act.put, List.getElem_toArray, List.getElem_cons_succ, List.getElem_cons_zero, List.setIfInBounds_toArray, List.set_cons_zero, List.set_cons_succ]
      refine wpAnyH_done (by kernel_rfl) ?_ _
      clear hHeld c1 c2 d0 d1 d2 d3 z1 z2 e1 hz2' hs1 HRR HO2 HB2 HSR
      generalize w3.setCell ⟨G, 1, none⟩ (.slice (some ⟨gy, 0, none⟩) (l.length + 1) yc) = w4 at HO4 HB4 HR4 ⊢
      have k0 := HR4.out.c0
      have k1 := HR4.out.c1
      have k2 : w4.frozen? ⟨G, 1, none⟩ = false := frozen_of_row _ _ _ _ _ HR4.out
      have y2 : (1 : Int) ≤ (l.length : Int) + 1 := by omega
      have HW5 : Hid (∀ v', RBoxM (w4.setCell ⟨G, 1, none⟩ v') G cap v' ∧ MOwn (w4.setCell ⟨G, 1, none⟩ v') B (.slice (some ⟨gy, 0, none⟩) (l.length + 1) yc) (l ++ [(q, f, p, d)]) ∧ Below B w (w4.setCell ⟨G, 1, none⟩ v')) := Lib.hid (fun v' => ⟨heap_setCell_same _ _ 1 _ _ v' HR4.out, World.ownsRow.kept HO4.out (grown_setCell _ _ _ _) (.inr (own_ne_box HO4.out HR4.out (by decide))), HB4.out.grown (grown_setCell _ _ _ _) (Nat.le_trans hG (Nat.le_of_lt HR4.out.lt)) (fun k h => by cases h; exact hG)⟩)
      by_cases hdr : cap < (l.length : Int) + 1
      · have g8 : decide (cap < (l.length : Int) + 1) = true := decide_eq_true hdr
        go_wp2_with fail
        refine wp_region_held_drew (S := fun wx => wx.cell? ⟨G, 0, none⟩ = some (.int .i64 cap) ∧ wx.cell? ⟨G, 1, none⟩ = some (.slice (some ⟨gy, 0, none⟩) (l.length + 1) yc)) (by kernel_rfl) ?_ (fun hHeld => ?_)
        · exact ⟨k0, k1⟩
        change wpAnyH _ _ _ _ _ 10 #[false, false, false, false, false, false, false, false, false, false] _ _
        refine wpAnyH_take (i := 0) (v := ?_) rfl (by kernel_rfl) (by kernel_rfl) (by kernel_rfl) (fun _ _ _ h => h) (Or.inl ⟨by rfl, ?_⟩) (by assumption) ?_
        rotate_left
        · intro w hSw; (try dsimp only at hSw); go_simp; try with_reducible rfl
        try simp only [Act.put, List.getElem_toArray, List.getElem_cons_succ, List.getElem_cons_zero, List.setIfInBounds_toArray, List.set_cons_zero, List.set_cons_succ]
        refine wpAnyH_take (i := 1) (v := ?_) rfl (by kernel_rfl) (by kernel_rfl) (by kernel_rfl) (fun _ _ _ h => h) (Or.inl ⟨by rfl, ?_⟩) (by assumption) ?_
        rotate_left
        · intro w hSw; (try dsimp only at hSw); go_simp; try with_reducible rfl
        try simp only [Act.put, List.getElem_toArray, List.getElem_cons_succ, List.getElem_cons_zero, List.setIfInBounds_toArray, List.set_cons_zero, List.set_cons_succ]
        refine wpAnyH_take (i := 2) (v := ?_) rfl (by kernel_rfl) (by kernel_rfl) (by kernel_rfl) (fun _ _ _ h => h) (Or.inl ⟨by rfl, ?_⟩) (by assumption) ?_
        rotate_left
        · intro w hSw; (try dsimp only at hSw); go_simp; try with_reducible rfl
        try simp only [Act.put, List.getElem_toArray, List.getElem_cons_succ, List.getElem_cons_zero, List.setIfInBounds_toArray, List.set_cons_zero, List.set_cons_succ]
        refine wpAnyH_take (i := 3) (v := ?_) rfl (by kernel_rfl) (by kernel_rfl) (by kernel_rfl) (fun _ _ _ h => h) (Or.inl ⟨by rfl, ?_⟩) (by assumption) ?_
        rotate_left
        · intro w hSw; (try dsimp only at hSw); go_simp; try with_reducible rfl
        try simp only [Act.put, List.getElem_toArray, List.getElem_cons_succ, List.getElem_cons_zero, List.setIfInBounds_toArray, List.set_cons_zero, List.set_cons_succ]
        refine wpAnyH_take (i := 4) (v := ?_) rfl (by kernel_rfl) (by kernel_rfl) (by kernel_rfl) (fun _ _ _ h => h) (Or.inl ⟨by rfl, ?_⟩) (by assumption) ?_
        rotate_left
        · intro w hSw; (try dsimp only at hSw); go_simp; try with_reducible rfl
        try simp only [Act.put, List.getElem_toArray, List.getElem_cons_succ, List.getElem_cons_zero, List.setIfInBounds_toArray, List.set_cons_zero, List.set_cons_succ]
        refine wpAnyH_take (i := 5) (v := ?_) rfl (by kernel_rfl) (by kernel_rfl) (by kernel_rfl) (fun _ _ _ h => h) (Or.inl ⟨by rfl, ?_⟩) (by assumption) ?_
        rotate_left
        · intro w hSw; (try dsimp only at hSw); go_simp; try with_reducible rfl
        try simp only [Act.put, List.getElem_toArray, List.getElem_cons_succ, List.getElem_cons_zero, List.setIfInBounds_toArray, List.set_cons_zero, List.set_cons_succ]
        refine wpAnyH_take (i := 6) (v := ?_) rfl (by kernel_rfl) (by kernel_rfl) (by kernel_rfl) (fun _ _ _ h => h) (Or.inl ⟨by rfl, ?_⟩) (by assumption) ?_
        rotate_left
        · intro w hSw; (try dsimp only at hSw); go_simp; try with_reducible rfl
        try simp only [Act.put, List.getElem_toArray, List.getElem_cons_succ, List.getElem_cons_zero, List.setIfInBounds_toArray, List.set_cons_zero, List.set_cons_succ]
        refine wpAnyH_take (i := 7) (v := ?_) rfl (by kernel_rfl) (by kernel_rfl) (by kernel_rfl) (fun _ _ _ h => h) (Or.inl ⟨by rfl, ?_⟩) (by assumption) ?_
        rotate_left
        · intro w hSw; (try dsimp only at hSw); go_simp; try with_reducible rfl
        try simp only [Act.put, List.getElem_toArray, List.getElem_cons_succ, List.getElem_cons_zero, List.setIfInBounds_toArray, List.set_cons_zero, List.set_cons_succ]
        refine wpAnyH_take (i := 8) (v := ?_) rfl (by kernel_rfl) (by kernel_rfl) (by kernel_rfl) (fun _ _ _ h => h) (Or.inl ⟨by rfl, ?_⟩) (by assumption) ?_
        rotate_left
        · intro w hSw; (try dsimp only at hSw); go_simp; try with_reducible rfl
        try simp only [Act.put, List.getElem_toArray, List.getElem_cons_succ, List.getElem_cons_zero, List.setIfInBounds_toArray, List.set_cons_zero, List.set_cons_succ]
        refine wpAnyH_take (i := 9) (v := ?_) rfl (by kernel_rfl) (by kernel_rfl) (by kernel_rfl) (fun _ _ _ h => h) (Or.inl ⟨by rfl, ?_⟩) (by assumption) ?_
        rotate_left
        · intro w hSw; (try dsimp only at hSw); go_simp; try with_reducible rfl
        try simp only [Act.put, List.getElem_toArray, List.getElem_cons_succ, List.getElem_cons_zero, List.setIfInBounds_toArray, List.set_cons_zero, List.set_cons_succ]
        refine wpAnyH_done (by kernel_rfl) ?_ _
        clear hHeld
        have HPL : Hid (putM cap l (q, f, p, d) = (l ++ [(q, f, p, d)]).drop 1 ∧ (putM cap l (q, f, p, d)).length = l.length ∧ ((l ++ [(q, f, p, d)]).take 1).length = 1 ∧ (l ++ [(q, f, p, d)]).take 1 ++ putM cap l (q, f, p, d) ++ [] = l ++ [(q, f, p, d)]) := Lib.hid (by
          have h := HPM.out _ hdr rfl
          refine ⟨h, by rw [h]; simp, by simp, by rw [h, List.append_nil, List.take_append_drop]⟩)
        by_cases hyc : yc = 1
        · go_wp2
          go_end0
          refine ⟨rfl, .slice (some ⟨gy, 0, none⟩) (l.length + 1) yc, _, (l ++ [(q, f, p, d)]).take 1, (HW5.out _).1, ?_, ?_, (HW5.out _).2.2.drew⟩
          · rw [HPL.out.2.2.2]; exact (HW5.out _).2.1
          · rw [HPL.out.2.1, HPL.out.2.2.1]; exact .inr ⟨gy, 0, 0, yc, l.length + 1, rfl, rfl, by omega, by omega, .inl (by omega)⟩
        · go_wp2
          go_end0
          refine ⟨rfl, .slice (some ⟨gy, 0, none⟩) (l.length + 1) yc, _, (l ++ [(q, f, p, d)]).take 1, (HW5.out _).1, ?_, ?_, (HW5.out _).2.2.drew⟩
          · rw [HPL.out.2.2.2]; exact (HW5.out _).2.1
          · rw [HPL.out.2.1, HPL.out.2.2.1]; exact .inr ⟨gy, 4, yc - 1, yc, l.length + 1, rfl, rfl, by omega, by have := HCM.out; omega, .inr (by omega)⟩
      · have g8 : decide (cap < (l.length : Int) + 1) = false := decide_eq_false hdr
        go_wp2_with fail
        refine wp_region_held_drew (S := fun wx => wx.cell? ⟨G, 0, none⟩ = some (.int .i64 cap) ∧ wx.cell? ⟨G, 1, none⟩ = some (.slice (some ⟨gy, 0, none⟩) (l.length + 1) yc)) (by kernel_rfl) ?_ (fun hHeld => ?_)
        · exact ⟨k0, k1⟩
        change wpAnyH _ _ _ _ _ 10 #[false, false, false, false, false, false, false, false, false, false] _ _
        refine wpAnyH_take (i := 0) (v := ?_) rfl (by kernel_rfl) (by kernel_rfl) (by kernel_rfl) (fun _ _ _ h => h) (Or.inl ⟨by rfl, ?_⟩) (by assumption) ?_
        rotate_left
        · intro w hSw; (try dsimp only at hSw); go_simp; try with_reducible rfl
        try simp only [Act.put, List.getElem_toArray, List.getElem_cons_succ, List.getElem_cons_zero, List.setIfInBounds_toArray, List.set_cons_zero, List.set_cons_succ]
        refine wpAnyH_take (i := 1) (v := ?_) rfl (by kernel_rfl) (by kernel_rfl) (by kernel_rfl) (fun _ _ _ h => h) (Or.inl ⟨by rfl, ?_⟩) (by assumption) ?_
        rotate_left
        · intro w hSw; (try dsimp only at hSw); go_simp; try with_reducible rfl
        try simp only [Act.put, List.getElem_toArray, List.getElem_cons_succ, List.getElem_cons_zero, List.setIfInBounds_toArray, List.set_cons_zero, List.set_cons_succ]
        refine wpAnyH_take (i := 2) (v := ?_) rfl (by kernel_rfl) (by kernel_rfl) (by kernel_rfl) (fun _ _ _ h => h) (Or.inl ⟨by rfl, ?_⟩) (by assumption) ?_
        rotate_left
        · intro w hSw; (try dsimp only at hSw); go_simp; try with_reducible rfl
        try simp only [Act.put, List.getElem_toArray, List.getElem_cons_succ, List.getElem_cons_zero, List.setIfInBounds_toArray, List.set_cons_zero, List.set_cons_succ]
        refine wpAnyH_take (i := 3) (v := ?_) rfl (by kernel_rfl) (by kernel_rfl) (by kernel_rfl) (fun _ _ _ h => h) (Or.inl ⟨by rfl, ?_⟩) (by assumption) ?_
        rotate_left
        · intro w hSw; (try dsimp only at hSw); go_simp; try with_reducible rfl
        try simp only [Act.put, List.getElem_toArray, List.getElem_cons_succ, List.getElem_cons_zero, List.setIfInBounds_toArray, List.set_cons_zero, List.set_cons_succ]
        refine wpAnyH_take (i := 4) (v := ?_) rfl (by kernel_rfl) (by kernel_rfl) (by kernel_rfl) (fun _ _ _ h => h) (Or.inl ⟨by rfl, ?_⟩) (by assumption) ?_
        rotate_left
        · intro w hSw; (try dsimp only at hSw); go_simp; try with_reducible rfl
        try simp only [Act.put, List.getElem_toArray, List.getElem_cons_succ, List.getElem_cons_zero, List.setIfInBounds_toArray, List.set_cons_zero, List.set_cons_succ]
        refine wpAnyH_take (i := 5) (v := ?_) rfl (by kernel_rfl) (by kernel_rfl) (by kernel_rfl) (fun _ _ _ h => h) (Or.inl ⟨by rfl, ?_⟩) (by assumption) ?_
        rotate_left
        · intro w hSw; (try dsimp only at hSw); go_simp; try with_reducible rfl
        try simp only [Act.put, List.getElem_toArray, List.getElem_cons_succ, List.getElem_cons_zero, List.setIfInBounds_toArray, List.set_cons_zero, List.set_cons_succ]
        refine wpAnyH_take (i := 6) (v := ?_) rfl (by kernel_rfl) (by kernel_rfl) (by kernel_rfl) (fun _ _ _ h => h) (Or.inl ⟨by rfl, ?_⟩) (by assumption) ?_
        rotate_left
        · intro w hSw; (try dsimp only at hSw); go_simp; try with_reducible rfl
        try simp only [Act.put, List.getElem_toArray, List.getElem_cons_succ, List.getElem_cons_zero, List.setIfInBounds_toArray, List.set_cons_zero, List.set_cons_succ]
        refine wpAnyH_take (i := 7) (v := ?_) rfl (by kernel_rfl) (by kernel_rfl) (by kernel_rfl) (fun _ _ _ h => h) (Or.inl ⟨by rfl, ?_⟩) (by assumption) ?_
        rotate_left
        · intro w hSw; (try dsimp only at hSw); go_simp; try with_reducible rfl
        try simp only [Act.put, List.getElem_toArray, List.getElem_cons_succ, List.getElem_cons_zero, List.setIfInBounds_toArray, List.set_cons_zero, List.set_cons_succ]
        refine wpAnyH_take (i := 8) (v := ?_) rfl (by kernel_rfl) (by kernel_rfl) (by kernel_rfl) (fun _ _ _ h => h) (Or.inl ⟨by rfl, ?_⟩) (by assumption) ?_
        rotate_left
        · intro w hSw; (try dsimp only at hSw); go_simp; try with_reducible rfl
        try simp only [Act.put, List.getElem_toArray, List.getElem_cons_succ, List.getElem_cons_zero, List.setIfInBounds_toArray, List.set_cons_zero, List.set_cons_succ]
        refine wpAnyH_take (i := 9) (v := ?_) rfl (by kernel_rfl) (by kernel_rfl) (by kernel_rfl) (fun _ _ _ h => h) (Or.inl ⟨by rfl, ?_⟩) (by assumption) ?_
        rotate_left
        · intro w hSw; (try dsimp only at hSw); go_simp; try with_reducible rfl
        try simp only [Act.put, List.getElem_toArray, List.getElem_cons_succ, List.getElem_cons_zero, List.setIfInBounds_toArray, List.set_cons_zero, List.set_cons_succ]
        refine wpAnyH_done (by kernel_rfl) ?_ _
        clear hHeld
        go_wp2
        go_end0
        rw [HPN.out hdr]
        exact ⟨rfl, _, _, [], HR4.out, by rw [List.nil_append, List.append_nil]; exact row_below HO4.out (Below.refl _ _).drew, by have h := PartOf.whole HO4.out; simpa using h, HB4.out.drew⟩
    · skip
      rw [if_pos (by rfl)]
      go_simp
      refine hK.out _ _ ?_ (fun hHeld => ?_)
      · trivial
      clear hK K
      try simp only [Act.put, List.getElem_toArray, List.getElem_cons_succ, List.getElem_cons_zero, List.setIfInBounds_toArray, List.set_cons_zero, List.set_cons_succ]
      refine wpAnyH_ready (rs := [4]) (by kernel_rfl) (by simp) (AllReadyH.cons rfl (fun K hK => ?_) AllReadyH.nil)
      rw [if_pos (by rfl)]
      go_simp
      refine hK.out _ _ ?_ (fun hHeld => ?_)
      · trivial
      clear hK K
      try simp only [Act.put, List.getElem_toArray, List.getElem_cons_succ, List.getElem_cons_zero, List.setIfInBounds_toArray, List.set_cons_zero, List.set_cons_succ]
      refine wpAnyH_ready (rs := [7]) (by kernel_rfl) (by simp) (AllReadyH.cons rfl (fun K hK => ?_) AllReadyH.nil)
      rw [if_pos (by rfl)]
      refine wp_append_src (.tmp 8) (.tmp 10) 24 rfl B 28 i (.agg #[.int .i64 0, .int .i64 0, .string ⟨#[]⟩, .int .i64 0]) 4 40 Tryd.underlying24 hi hz0 hz1 hz2 rfl (by decide) (.slice ua l.length uc) (.slice (some ⟨I + 1, 0, none⟩) 1 1) l.length 1 (mcells l) (mcells [(q, f, p, d)]) (by simp [Act.eval]) HO2.out (by simp [Act.eval]) HSR.out rfl (mcells_one _) (by unfold maxLen; omega) (by omega) HB2.out.2 ?_; intro v' w3 hown hgr _; obtain ⟨gy, yc, hyv⟩ := Joins.ownsRow_form hown (by omega); subst hyv; obtain ⟨z1, z2, hR4, hO4, hB4⟩ := put_stored HO2.out HRR.out hown hgr HB2.out.1 HB2.out.2 hG; have y1 : l.length + 1 ≤ yc := own_cap2 hown; have HO4 := Lib.hid hO4; have HB4 := Lib.hid hB4; have HR4 := Lib.hid hR4; have HCM : Hid (yc ≤ maxLen) := Lib.hid (own_max hown); clear hown hgr hO4 hB4 hR4
      refine hK.out _ _ ?_ (fun hHeld => ?_)
      · trivial
      clear hK K
      try simp only [Act.put, List.getElem_toArray, List.getElem_cons_succ, List.getElem_cons_zero, List.setIfInBounds_toArray, List.set_cons_zero, List.set_cons_succ]
      refine wpAnyH_take (i := 8) (v := ?_) rfl (by kernel_rfl) (by kernel_rfl) (by kernel_rfl) (fun _ _ _ h => h) (Or.inl ⟨by rfl, ?_⟩) (by assumption) ?_
      rotate_left
      · intro w hSw; (try dsimp only at hSw); go_simp; try with_reducible rfl
      try simp only [Act.put, List.getElem_toArray, List.getElem_cons_succ, List.getElem_cons_zero, List.setIfInBounds_toArray, List.set_cons_zero, List.set_cons_succ]
      refine wpAnyH_take (i := 9) (v := ?_) rfl (by kernel_rfl) (by kernel_rfl) (by kernel_rfl) (fun _ _ _ h => h) (Or.inl ⟨by rfl, ?_⟩) (by assumption) ?_
      rotate_left
      · intro w hSw; (try dsimp only at hSw); go_simp; try with_reducible rfl
      try simp only [Act.put, List.getElem_toArray, List.getElem_cons_succ, List.getElem_cons_zero, List.setIfInBounds_toArray, List.set_cons_zero, List.set_cons_succ]
      refine wpAnyH_ready (rs := [10]) (by kernel_rfl) (by simp) (AllReadyH.cons rfl (fun K hK => ?_) AllReadyH.nil)
      rw [if_pos (by rfl)]
      go_simp
      refine hK.out _ _ ?_ (fun hHeld => ?_)
      · trivial
      clear hK K
      try simp only [Act.put, List.getElem_toArray, List.getElem_cons_succ, List.getElem_cons_zero, List.setIfInBounds_toArray, List.set_cons_zero, List.set_cons_succ]
      refine wpAnyH_done (by kernel_rfl) ?_ _
      clear hHeld c1 c2 d0 d1 d2 d3 z1 z2 e1 hz2' hs1 HRR HO2 HB2 HSR
      generalize w3.setCell ⟨G, 1, none⟩ (.slice (some ⟨gy, 0, none⟩) (l.length + 1) yc) = w4 at HO4 HB4 HR4 ⊢
      have k0 := HR4.out.c0
      have k1 := HR4.out.c1
      have k2 : w4.frozen? ⟨G, 1, none⟩ = false := frozen_of_row _ _ _ _ _ HR4.out
      have y2 : (1 : Int) ≤ (l.length : Int) + 1 := by omega
      have HW5 : Hid (∀ v', RBoxM (w4.setCell ⟨G, 1, none⟩ v') G cap v' ∧ MOwn (w4.setCell ⟨G, 1, none⟩ v') B (.slice (some ⟨gy, 0, none⟩) (l.length + 1) yc) (l ++ [(q, f, p, d)]) ∧ Below B w (w4.setCell ⟨G, 1, none⟩ v')) := Lib.hid (fun v' => ⟨heap_setCell_same _ _ 1 _ _ v' HR4.out, World.ownsRow.kept HO4.out (grown_setCell _ _ _ _) (.inr (own_ne_box HO4.out HR4.out (by decide))), HB4.out.grown (grown_setCell _ _ _ _) (Nat.le_trans hG (Nat.le_of_lt HR4.out.lt)) (fun k h => by cases h; exact hG)⟩)
      by_cases hdr : cap < (l.length : Int) + 1
      · have g8 : decide (cap < (l.length : Int) + 1) = true := decide_eq_true hdr
        go_wp2_with fail
        refine wp_region_held_drew (S := fun wx => wx.cell? ⟨G, 0, none⟩ = some (.int .i64 cap) ∧ wx.cell? ⟨G, 1, none⟩ = some (.slice (some ⟨gy, 0, none⟩) (l.length + 1) yc)) (by kernel_rfl) ?_ (fun hHeld => ?_)
        · exact ⟨k0, k1⟩
        change wpAnyH _ _ _ _ _ 10 #[false, false, false, false, false, false, false, false, false, false] _ _
        refine wpAnyH_take (i := 0) (v := ?_) rfl (by kernel_rfl) (by kernel_rfl) (by kernel_rfl) (fun _ _ _ h => h) (Or.inl ⟨by rfl, ?_⟩) (by assumption) ?_
        rotate_left
        · intro w hSw; (try dsimp only at hSw); go_simp; try with_reducible rfl
        try simp only [Act.put, List.getElem_toArray, List.getElem_cons_succ, List.getElem_cons_zero, List.setIfInBounds_toArray, List.set_cons_zero, List.set_cons_succ]
        refine wpAnyH_take (i := 1) (v := ?_) rfl (by kernel_rfl) (by kernel_rfl) (by kernel_rfl) (fun _ _ _ h => h) (Or.inl ⟨by rfl, ?_⟩) (by assumption) ?_
        rotate_left
        · intro w hSw; (try dsimp only at hSw); go_simp; try with_reducible rfl
        try simp only [Act.put, List.getElem_toArray, List.getElem_cons_succ, List.getElem_cons_zero, List.setIfInBounds_toArray, List.set_cons_zero, List.set_cons_succ]
        refine wpAnyH_take (i := 2) (v := ?_) rfl (by kernel_rfl) (by kernel_rfl) (by kernel_rfl) (fun _ _ _ h => h) (Or.inl ⟨by rfl, ?_⟩) (by assumption) ?_
        rotate_left
        · intro w hSw; (try dsimp only at hSw); go_simp; try with_reducible rfl
        try simp only [Act.put, List.getElem_toArray, List.getElem_cons_succ, List.getElem_cons_zero, List.setIfInBounds_toArray, List.set_cons_zero, List.set_cons_succ]
        refine wpAnyH_take (i := 3) (v := ?_) rfl (by kernel_rfl) (by kernel_rfl) (by kernel_rfl) (fun _ _ _ h => h) (Or.inl ⟨by rfl, ?_⟩) (by assumption) ?_
        rotate_left
        · intro w hSw; (try dsimp only at hSw); go_simp; try with_reducible rfl
        try simp only [Act.put, List.getElem_toArray, List.getElem_cons_succ, List.getElem_cons_zero, List.setIfInBounds_toArray, List.set_cons_zero, List.set_cons_succ]
        refine wpAnyH_take (i := 4) (v := ?_) rfl (by kernel_rfl) (by kernel_rfl) (by kernel_rfl) (fun _ _ _ h => h) (Or.inl ⟨by rfl, ?_⟩) (by assumption) ?_
        rotate_left
        · intro w hSw; (try dsimp only at hSw); go_simp; try with_reducible rfl
        try simp only [Act.put, List.getElem_toArray, List.getElem_cons_succ, List.getElem_cons_zero, List.setIfInBounds_toArray, List.set_cons_zero, List.set_cons_succ]
        refine wpAnyH_take (i := 5) (v := ?_) rfl (by kernel_rfl) (by kernel_rfl) (by kernel_rfl) (fun _ _ _ h => h) (Or.inl ⟨by rfl, ?_⟩) (by assumption) ?_
        rotate_left
        · intro w hSw; (try dsimp only at hSw); go_simp; try with_reducible rfl
        try simp only [Act.put, List.getElem_toArray, List.getElem_cons_succ, List.getElem_cons_zero, List.setIfInBounds_toArray, List.set_cons_zero, List.set_cons_succ]
        refine wpAnyH_take (i := 6) (v := ?_) rfl (by kernel_rfl) (by kernel_rfl) (by kernel_rfl) (fun _ _ _ h => h) (Or.inl ⟨by rfl, ?_⟩) (by assumption) ?_
        rotate_left
        · intro w hSw; (try dsimp only at hSw); go_simp; try with_reducible rfl
        try simp only [Act.put, List.getElem_toArray, List.getElem_cons_succ, List.getElem_cons_zero, List.setIfInBounds_toArray, List.set_cons_zero, List.set_cons_succ]
        refine wpAnyH_take (i := 7) (v := ?_) rfl (by kernel_rfl) (by kernel_rfl) (by kernel_rfl) (fun _ _ _ h => h) (Or.inl ⟨by rfl, ?_⟩) (by assumption) ?_
        rotate_left
        · intro w hSw; (try dsimp only at hSw); go_simp; try with_reducible rfl
        try simp only [Act.put, List.getElem_toArray, List.getElem_cons_succ, List.getElem_cons_zero, List.setIfInBounds_toArray, List.set_cons_zero, List.set_cons_succ]
        refine wpAnyH_take (i := 8) (v := ?_) rfl (by kernel_rfl) (by kernel_rfl) (by kernel_rfl) (fun _ _ _ h => h) (Or.inl ⟨by rfl, ?_⟩) (by assumption) ?_
        rotate_left
        · intro w hSw; (try dsimp only at hSw); go_simp; try with_reducible rfl
        try simp only [Act.put, List.getElem_toArray, List.getElem_cons_succ, List.getElem_cons_zero, List.setIfInBounds_toArray, List.set_cons_zero, List.set_cons_succ]
        refine wpAnyH_take (i := 9) (v := ?_) rfl (by kernel_rfl) (by kernel_rfl) (by kernel_rfl) (fun _ _ _ h => h) (Or.inl ⟨by rfl, ?_⟩) (by assumption) ?_
        rotate_left
        · intro w hSw; (try dsimp only at hSw); go_simp; try with_reducible rfl
        try simp only [Act.put, List.getElem_toArray, List.getElem_cons_succ, List.getElem_cons_zero, List.setIfInBounds_toArray, List.set_cons_zero, List.set_cons_succ]
        refine wpAnyH_done (by kernel_rfl) ?_ _
        clear hHeld
        have HPL : Hid (putM cap l (q, f, p, d) = (l ++ [(q, f, p, d)]).drop 1 ∧ (putM cap l (q, f, p, d)).length = l.length ∧ ((l ++ [(q, f, p, d)]).take 1).length = 1 ∧ (l ++ [(q, f, p, d)]).take 1 ++ putM cap l (q, f, p, d) ++ [] = l ++ [(q, f, p, d)]) := Lib.hid (by
          have h := HPM.out _ hdr rfl
          refine ⟨h, by rw [h]; simp, by simp, by rw [h, List.append_nil, List.take_append_drop]⟩)
        by_cases hyc : yc = 1
        · go_wp2
          go_end0
          refine ⟨rfl, .slice (some ⟨gy, 0, none⟩) (l.length + 1) yc, _, (l ++ [(q, f, p, d)]).take 1, (HW5.out _).1, ?_, ?_, (HW5.out _).2.2.drew⟩
          · rw [HPL.out.2.2.2]; exact (HW5.out _).2.1
          · rw [HPL.out.2.1, HPL.out.2.2.1]; exact .inr ⟨gy, 0, 0, yc, l.length + 1, rfl, rfl, by omega, by omega, .inl (by omega)⟩
        · go_wp2
          go_end0
          refine ⟨rfl, .slice (some ⟨gy, 0, none⟩) (l.length + 1) yc, _, (l ++ [(q, f, p, d)]).take 1, (HW5.out _).1, ?_, ?_, (HW5.out _).2.2.drew⟩
          · rw [HPL.out.2.2.2]; exact (HW5.out _).2.1
          · rw [HPL.out.2.1, HPL.out.2.2.1]; exact .inr ⟨gy, 4, yc - 1, yc, l.length + 1, rfl, rfl, by omega, by have := HCM.out; omega, .inr (by omega)⟩
      · have g8 : decide (cap < (l.length : Int) + 1) = false := decide_eq_false hdr
        go_wp2_with fail
        refine wp_region_held_drew (S := fun wx => wx.cell? ⟨G, 0, none⟩ = some (.int .i64 cap) ∧ wx.cell? ⟨G, 1, none⟩ = some (.slice (some ⟨gy, 0, none⟩) (l.length + 1) yc)) (by kernel_rfl) ?_ (fun hHeld => ?_)
        · exact ⟨k0, k1⟩
        change wpAnyH _ _ _ _ _ 10 #[false, false, false, false, false, false, false, false, false, false] _ _
        refine wpAnyH_take (i := 0) (v := ?_) rfl (by kernel_rfl) (by kernel_rfl) (by kernel_rfl) (fun _ _ _ h => h) (Or.inl ⟨by rfl, ?_⟩) (by assumption) ?_
        rotate_left
        · intro w hSw; (try dsimp only at hSw); go_simp; try with_reducible rfl
        try simp only [Act.put, List.getElem_toArray, List.getElem_cons_succ, List.getElem_cons_zero, List.setIfInBounds_toArray, List.set_cons_zero, List.set_cons_succ]
        refine wpAnyH_take (i := 1) (v := ?_) rfl (by kernel_rfl) (by kernel_rfl) (by kernel_rfl) (fun _ _ _ h => h) (Or.inl ⟨by rfl, ?_⟩) (by assumption) ?_
        rotate_left
        · intro w hSw; (try dsimp only at hSw); go_simp; try with_reducible rfl
        try simp only [Act.put, List.getElem_toArray, List.getElem_cons_succ, List.getElem_cons_zero, List.setIfInBounds_toArray, List.set_cons_zero, List.set_cons_succ]
        refine wpAnyH_take (i := 2) (v := ?_) rfl (by kernel_rfl) (by kernel_rfl) (by kernel_rfl) (fun _ _ _ h => h) (Or.inl ⟨by rfl, ?_⟩) (by assumption) ?_
        rotate_left
        · intro w hSw; (try dsimp only at hSw); go_simp; try with_reducible rfl
        try simp only [Act.put, List.getElem_toArray, List.getElem_cons_succ, List.getElem_cons_zero, List.setIfInBounds_toArray, List.set_cons_zero, List.set_cons_succ]
        refine wpAnyH_take (i := 3) (v := ?_) rfl (by kernel_rfl) (by kernel_rfl) (by kernel_rfl) (fun _ _ _ h => h) (Or.inl ⟨by rfl, ?_⟩) (by assumption) ?_
        rotate_left
        · intro w hSw; (try dsimp only at hSw); go_simp; try with_reducible rfl
        try simp only [Act.put, List.getElem_toArray, List.getElem_cons_succ, List.getElem_cons_zero, List.setIfInBounds_toArray, List.set_cons_zero, List.set_cons_succ]
        refine wpAnyH_take (i := 4) (v := ?_) rfl (by kernel_rfl) (by kernel_rfl) (by kernel_rfl) (fun _ _ _ h => h) (Or.inl ⟨by rfl, ?_⟩) (by assumption) ?_
        rotate_left
        · intro w hSw; (try dsimp only at hSw); go_simp; try with_reducible rfl
        try simp only [Act.put, List.getElem_toArray, List.getElem_cons_succ, List.getElem_cons_zero, List.setIfInBounds_toArray, List.set_cons_zero, List.set_cons_succ]
        refine wpAnyH_take (i := 5) (v := ?_) rfl (by kernel_rfl) (by kernel_rfl) (by kernel_rfl) (fun _ _ _ h => h) (Or.inl ⟨by rfl, ?_⟩) (by assumption) ?_
        rotate_left
        · intro w hSw; (try dsimp only at hSw); go_simp; try with_reducible rfl
        try simp only [Act.put, List.getElem_toArray, List.getElem_cons_succ, List.getElem_cons_zero, List.setIfInBounds_toArray, List.set_cons_zero, List.set_cons_succ]
        refine wpAnyH_take (i := 6) (v := ?_) rfl (by kernel_rfl) (by kernel_rfl) (by kernel_rfl) (fun _ _ _ h => h) (Or.inl ⟨by rfl, ?_⟩) (by assumption) ?_
        rotate_left
        · intro w hSw; (try dsimp only at hSw); go_simp; try with_reducible rfl
        try simp only [Act.put, List.getElem_toArray, List.getElem_cons_succ, List.getElem_cons_zero, List.setIfInBounds_toArray, List.set_cons_zero, List.set_cons_succ]
        refine wpAnyH_take (i := 7) (v := ?_) rfl (by kernel_rfl) (by kernel_rfl) (by kernel_rfl) (fun _ _ _ h => h) (Or.inl ⟨by rfl, ?_⟩) (by assumption) ?_
        rotate_left
        · intro w hSw; (try dsimp only at hSw); go_simp; try with_reducible rfl
        try simp only [Act.put, List.getElem_toArray, List.getElem_cons_succ, List.getElem_cons_zero, List.setIfInBounds_toArray, List.set_cons_zero, List.set_cons_succ]
        refine wpAnyH_take (i := 8) (v := ?_) rfl (by kernel_rfl) (by kernel_rfl) (by kernel_rfl) (fun _ _ _ h => h) (Or.inl ⟨by rfl, ?_⟩) (by assumption) ?_
        rotate_left
        · intro w hSw; (try dsimp only at hSw); go_simp; try with_reducible rfl
        try simp only [Act.put, List.getElem_toArray, List.getElem_cons_succ, List.getElem_cons_zero, List.setIfInBounds_toArray, List.set_cons_zero, List.set_cons_succ]
        refine wpAnyH_take (i := 9) (v := ?_) rfl (by kernel_rfl) (by kernel_rfl) (by kernel_rfl) (fun _ _ _ h => h) (Or.inl ⟨by rfl, ?_⟩) (by assumption) ?_
        rotate_left
        · intro w hSw; (try dsimp only at hSw); go_simp; try with_reducible rfl
        try simp only [Act.put, List.getElem_toArray, List.getElem_cons_succ, List.getElem_cons_zero, List.setIfInBounds_toArray, List.set_cons_zero, List.set_cons_succ]
        refine wpAnyH_done (by kernel_rfl) ?_ _
        clear hHeld
        go_wp2
        go_end0
        rw [HPN.out hdr]
        exact ⟨rfl, _, _, [], HR4.out, by rw [List.nil_append, List.append_nil]; exact row_below HO4.out (Below.refl _ _).drew, by have h := PartOf.whole HO4.out; simpa using h, HB4.out.drew⟩

end Go.Proofs.YtiholijkijdlmaaDoor
