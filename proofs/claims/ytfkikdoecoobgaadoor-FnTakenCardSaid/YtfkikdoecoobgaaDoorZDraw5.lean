/- The walks of the reference's draws of messages. -/
import Derived.Test.YtfkikdoecoobgaaDoorZB4
import Derived.Test.YtfkikdoecoobgaaDoorZB2
import Derived.BigQuiet
import Derived.OwnWalk
import Derived.Deep.RegionHeld
import Derived.Deep.QuietTactic
import Derived.Lib.Hide
set_option linter.unusedSimpArgs false
set_option linter.unusedVariables false
namespace Go.Proofs.YtfkikdoecoobgaaDoor
open Go.RowKit

/-- A drawn message: its topic is short. -/
def ShortM (x : MsgM) : Prop := x.2.2.1.size ≤ 13

/-- A message boxed in block B, behind steps that turn the cursor alone. -/
theorem MBox.grown {w w' : World} {B g : Nat} {T : TypeId} {x : MsgM} (h : MBox w B T x) (hg : w.grownBy w' (some g)) (hne : B ≠ g) : MBox w' B T x :=
  (hg.block B (Array.getElem?_eq_some_iff.1 h).1 (by simp; omega)).trans h

theorem MBox.frozen {w : World} {B : Nat} {T : TypeId} {x : MsgM} (h : MBox w B T x) (j : Nat) (hj : j < 4) : w.frozen? ⟨B, j, none⟩ = false := by
  unfold MBox at h
  exact frozen_of_row _ _ _ _ _ h

/-- The four stores of a message into its box. -/
def mput (w : World) (B : Nat) (x : MsgM) : World := (((w.setCell ⟨B, 0, none⟩ (.int .i64 x.1)).setCell ⟨B, 1, none⟩ (.int .i64 x.2.1)).setCell ⟨B, 2, none⟩ (.string x.2.2.1)).setCell ⟨B, 3, none⟩ (.int .i64 x.2.2.2)

theorem MBox.put {w : World} {B : Nat} {T : TypeId} {y : MsgM} (x : MsgM) (h : MBox w B T y) : MBox (mput w B x) B T x := by
  unfold MBox mput at *
  exact heap_setCell_same _ _ 3 _ _ (.int .i64 x.2.2.2) (heap_setCell_same _ _ 2 _ _ (.string x.2.2.1) (heap_setCell_same _ _ 1 _ _ (.int .i64 x.2.1) (heap_setCell_same _ _ 0 _ _ (.int .i64 x.1) h)))

theorem below_set {B g j : Nat} (w : World) (v : Value) (h : B ≤ g) (hw : B ≤ w.heap.size) : Below B w (w.setCell ⟨g, j, none⟩ v) :=
  (Below.refl _ _).grown (grown_setCell w g j v) hw (fun k e => by cases e; exact h)

theorem below_mput {B : Nat} (w : World) (x : MsgM) {A : Nat} (h : A ≤ B) (hw : A ≤ w.heap.size) : Below A w (mput w B x) := by
  unfold mput
  exact (((below_set w _ h hw).trans (below_set _ _ h (by simp; exact hw))).trans (below_set _ _ h (by simp; exact hw))).trans (below_set _ _ h (by simp; exact hw))


set_option maxRecDepth 100000 in
set_option maxHeartbeats 3200000 in
theorem draw4_any {g : Nat} {a : Option Addr} {len cap : Nat} {w : World} (q : Int) (h : Curs g a len cap w) :
    Calls Tryd.prog 43 #[.pointer (some ⟨g, 0, none⟩), .int .i64 q] w fun e w' => ∃ x : MsgM, e = .returned (magg x) ∧ ShortM x ∧ Curs g a len cap w' ∧ w.grownBy w' (some g) := by
  have hg := h.lt
  have HH := Lib.hid h
  clear h
  go_enter Tryd.func43, Tryd.ntmps43
  go_wp2_with fail
  have X0 := MBox.new w 29 (0, 0, ⟨#[]⟩, 0)
  have G0 := grown_alloc w (.cells #[.int .i64 0, .int .i64 0, .string ⟨#[]⟩, .int .i64 0] 29) (some g)
  refine (curBelow_any 3 (by omega) (HH.out.alloc _)).mono ?_
  rintro e w1 ⟨r1, _, rfl, h1, g1⟩
  have H1 := Lib.hid h1
  have G1 := Lib.hid (grown_trans G0 g1)
  have X1 := Lib.hid (X0.grown g1 (by omega))
  clear h1 g1 HH X0 G0
  go_wp2_with fail
  refine (drawTopic_any H1.out).mono ?_
  rintro e w2 ⟨s, rfl, hs, h2, g2⟩
  have H2 := Lib.hid h2
  have G2 := Lib.hid (grown_trans G1.out g2)
  have X2 := Lib.hid (X1.out.grown g2 (by omega))
  clear h2 g2 H1 G1 X1
  go_wp2_with fail
  refine (curBelow_any 5 (by omega) H2.out).mono ?_
  rintro e w3 ⟨r3, _, rfl, h3, g3⟩
  have H3 := Lib.hid h3
  have G3 := Lib.hid (grown_trans G2.out g3)
  have X3 := Lib.hid (X2.out.grown g3 (by omega))
  clear h3 g3 H2 G2 X2
  go_wp2_with fail
  refine (curBelow_any 20 (by omega) H3.out).mono ?_
  rintro e w4 ⟨r4, _, rfl, h4, g4⟩
  have H4 := Lib.hid h4
  have G4 := Lib.hid (grown_trans G3.out g4)
  have X4 := Lib.hid (X3.out.grown g4 (by omega))
  clear h4 g4 H3 G3 X3
  obtain ⟨p, hp⟩ : ∃ p, IntKind.i64.wrap ((r3 : Int) * (r4 : Int)) = p := ⟨_, rfl⟩
  obtain ⟨d0, d1, d2, d3⟩ := X4.out.cells
  have f0 := X4.out.frozen 0 (by omega)
  have f1 := X4.out.frozen 1 (by omega)
  have f2 := X4.out.frozen 2 (by omega)
  have f3 := X4.out.frozen 3 (by omega)
  have HX := Lib.hid (X4.out.put (q, r1, s, p))
  have HB := Lib.hid (below_mput (A := w.heap.size) (B := w.heap.size) w4 (q, r1, s, p) (Nat.le_refl _) G4.out.size)
  have HC := Lib.hid (H4.out.below hg HB.out)
  have HG := Lib.hid (grown_own G4.out HB.out)
  clear H4 G4 X4 HB
  unfold mput at HX HC HG
  dsimp only at HX HC HG d0 d1 d2 d3
  go_wp2
  exact bodyPost_ret (results_cell_row rfl _ _ _ _ _ _ _ rfl HX.out Tryd.underlying29 rfl (by kernel_rfl)) rfl ⟨(q, r1, s, p), rfl, by unfold ShortM; dsimp only; omega, HC.out, HG.out⟩

theorem MBox.set0 {w : World} {B : Nat} {T : TypeId} {x : MsgM} (y : Int) (h : MBox w B T x) : MBox (w.setCell ⟨B, 0, none⟩ (.int .i64 y)) B T (y, x.2.1, x.2.2.1, x.2.2.2) := by
  unfold MBox at *; exact heap_setCell_same _ _ 0 _ _ _ h
theorem MBox.set1 {w : World} {B : Nat} {T : TypeId} {x : MsgM} (y : Int) (h : MBox w B T x) : MBox (w.setCell ⟨B, 1, none⟩ (.int .i64 y)) B T (x.1, y, x.2.2.1, x.2.2.2) := by
  unfold MBox at *; exact heap_setCell_same _ _ 1 _ _ _ h
theorem MBox.set2 {w : World} {B : Nat} {T : TypeId} {x : MsgM} (y : ByteArray) (h : MBox w B T x) : MBox (w.setCell ⟨B, 2, none⟩ (.string y)) B T (x.1, x.2.1, y, x.2.2.2) := by
  unfold MBox at *; exact heap_setCell_same _ _ 2 _ _ _ h
theorem MBox.set3 {w : World} {B : Nat} {T : TypeId} {x : MsgM} (y : Int) (h : MBox w B T x) : MBox (w.setCell ⟨B, 3, none⟩ (.int .i64 y)) B T (x.1, x.2.1, x.2.2.1, y) := by
  unfold MBox at *; exact heap_setCell_same _ _ 3 _ _ _ h
theorem MBox.far {w : World} {B g j : Nat} {T : TypeId} {x : MsgM} {v : Value} (h : MBox w B T x) (hne : g ≠ B) : MBox (w.setCell ⟨g, j, none⟩ v) B T x := by
  unfold MBox at *; exact (heap_setCell_other _ _ _ _ (by simpa using hne.symm)).trans h

set_option maxRecDepth 100000 in
set_option maxHeartbeats 3200000 in
theorem draw4A_any {g : Nat} {a : Option Addr} {len cap : Nat} {w : World} (h : Curs g a len cap w) :
    Calls Tryd.prog 34 #[.pointer (some ⟨g, 0, none⟩)] w fun e w' => ∃ x : MsgM, e = .returned (magg x) ∧ ShortM x ∧ Curs g a len cap w' ∧ w.grownBy w' (some g) := by
  have hg := h.lt
  have HH := Lib.hid h
  clear h
  go_enter Tryd.func34, Tryd.ntmps34
  go_wp2_with fail
  have R0 := MBox.new w 29 (0, 0, ⟨#[]⟩, 0)
  have G0 := grown_alloc w (.cells #[.int .i64 0, .int .i64 0, .string ⟨#[]⟩, .int .i64 0] 29) (some g)
  refine (curBelow_any 20 (by omega) (HH.out.alloc _)).mono ?_
  rintro e w1 ⟨r1, _, rfl, h1, g1⟩
  have H1 := Lib.hid h1
  have G1 := Lib.hid (grown_trans G0 g1)
  have R1 := Lib.hid (R0.grown g1 (by omega))
  clear h1 g1 HH R0 G0
  go_wp2_with fail
  refine (draw4_any _ H1.out).mono ?_
  rintro e w2 ⟨x, rfl, hx, h2, g2⟩
  have G2 := Lib.hid (grown_trans G1.out g2)
  have R2 := Lib.hid (R1.out.grown g2 (by omega))
  have hB : w.heap.size < w2.heap.size := (Array.getElem?_eq_some_iff.1 R2.out).1
  have H2 := Lib.hid h2
  clear h2 g2 H1 G1 R1
  go_wp2_with fail
  have X3 := Lib.hid (MBox.new w2 29 x)
  have R3 := Lib.hid (R2.out.below ((Below.refl _ w2).alloc (Nat.le_refl _) (.cells #[.int .i64 x.1, .int .i64 x.2.1, .string x.2.2.1, .int .i64 x.2.2.2] 29)))
  have G3 := Lib.hid (grown_trans G2.out (grown_alloc w2 (.cells #[.int .i64 x.1, .int .i64 x.2.1, .string x.2.2.1, .int .i64 x.2.2.2] 29) (some g)))
  have H3 := Lib.hid (H2.out.alloc (.cells #[.int .i64 x.1, .int .i64 x.2.1, .string x.2.2.1, .int .i64 x.2.2.2] 29))
  clear G2 R2 H2
  generalize w2.alloc (.cells #[.int .i64 x.1, .int .i64 x.2.1, .string x.2.2.1, .int .i64 x.2.2.2] 29) = w3 at X3 R3 G3 H3 ⊢
  obtain ⟨M, hM⟩ : ∃ M, w2.heap.size = M := ⟨_, rfl⟩
  rw [hM] at X3 hB ⊢
  clear hM
  refine (curOnce_any 5 (by omega) H3.out).mono ?_
  rintro e w4 ⟨b4, rfl, h4, g4⟩
  have H4' := Lib.hid h4
  have G4' := Lib.hid (grown_trans G3.out g4)
  have X4' := Lib.hid (X3.out.grown g4 (by omega))
  have R4' := Lib.hid (R3.out.grown g4 (by omega))
  clear h4 g4 H3 G3 X3 R3
  cases b4
  · skip
    obtain ⟨d0, d1, d2, d3⟩ := X4'.out.cells
    obtain ⟨r0, r1, r2, r3⟩ := R4'.out.cells
    have s0 := R4'.out.frozen 0 (by omega)
    have s1 := R4'.out.frozen 1 (by omega)
    have s2 := R4'.out.frozen 2 (by omega)
    have s3 := R4'.out.frozen 3 (by omega)
    have HX := Lib.hid (R4'.out.put x)
    have HB := Lib.hid (below_mput (A := w.heap.size) (B := w.heap.size) w4 x (Nat.le_refl _) G4'.out.size)
    have HC := Lib.hid (H4'.out.below hg HB.out)
    have HG := Lib.hid (grown_own G4'.out HB.out)
    clear H4' G4' X4' R4' HB
    unfold mput at HX HC HG
    dsimp only at HX HC HG d0 d1 d2 d3 r0 r1 r2 r3
    go_wp2
    exact bodyPost_ret (results_cell_row rfl _ _ _ _ _ _ _ rfl HX.out Tryd.underlying29 rfl (by kernel_rfl)) rfl ⟨x, rfl, hx, HC.out, HG.out⟩
  go_wp2_with fail
  refine (curBelow_any 4 (by omega) H4'.out).mono ?_
  rintro e w5 ⟨r5, hr5, rfl, h5, g5⟩
  have H4 := Lib.hid h5
  have G4 := Lib.hid (grown_trans G4'.out g5)
  have X4 := Lib.hid (X4'.out.grown g5 (by omega))
  have R4 := Lib.hid (R4'.out.grown g5 (by omega))
  clear h5 g5 H4' G4' X4' R4'
  have hr : r5 = 0 ∨ r5 = 1 ∨ r5 = 2 ∨ r5 = 3 := by rcases hr5 with h | h <;> omega
  clear hr5
  rcases hr with rfl | rfl | rfl | rfl
  · go_wp2_with fail
    refine (drawNum_any 100000 (by omega) H4.out).mono ?_
    rintro e w6 ⟨y, rfl, h5, g5⟩
    obtain ⟨d0, d1, d2, d3⟩ := (X4.out.grown g5 (by omega)).cells
    have fz := (X4.out.grown g5 (by omega)).frozen 0 (by omega)
    have X6 := Lib.hid ((X4.out.grown g5 (by omega)).set0 y)
    have R6 := Lib.hid ((R4.out.grown g5 (by omega)).far (g := M) (j := 0) (v := .int .i64 y) (by omega))
    have hb6 : Below w.heap.size w6 (w6.setCell ⟨M, 0, none⟩ (.int .i64 y)) := below_set w6 _ (by omega) (by have := (grown_trans G4.out g5).size; exact this)
    have G6 := Lib.hid (grown_own (grown_trans G4.out g5) hb6)
    have H6 := Lib.hid (h5.below hg hb6)
    clear h5 g5 H4 G4 X4 R4 hb6
    obtain ⟨y0, y1, y2, y3⟩ := X6.out.cells
    obtain ⟨r0, r1', r2, r3⟩ := R6.out.cells
    have s0 := R6.out.frozen 0 (by omega)
    have s1 := R6.out.frozen 1 (by omega)
    have s2 := R6.out.frozen 2 (by omega)
    have s3 := R6.out.frozen 3 (by omega)
    have HX := Lib.hid (R6.out.put (y, x.2.1, x.2.2.1, x.2.2.2))
    have HB := Lib.hid (below_mput (A := w.heap.size) (B := w.heap.size) _ (y, x.2.1, x.2.2.1, x.2.2.2) (Nat.le_refl _) G6.out.size)
    have HC := Lib.hid (H6.out.below hg HB.out)
    have HG := Lib.hid (grown_own G6.out HB.out)
    clear H6 G6 X6 R6 HB
    unfold mput at HX HC HG
    dsimp only at HX HC HG d0 d1 d2 d3 y0 y1 y2 y3 r0 r1' r2 r3
    go_wp2
    exact bodyPost_ret (results_cell_row rfl _ _ _ _ _ _ _ rfl HX.out Tryd.underlying29 rfl (by kernel_rfl)) rfl ⟨(y, x.2.1, x.2.2.1, x.2.2.2), rfl, (by exact hx), HC.out, HG.out⟩
  · go_wp2_with fail
    refine (drawNum_any 7 (by omega) H4.out).mono ?_
    rintro e w6 ⟨y, rfl, h5, g5⟩
    obtain ⟨d0, d1, d2, d3⟩ := (X4.out.grown g5 (by omega)).cells
    have fz := (X4.out.grown g5 (by omega)).frozen 1 (by omega)
    have X6 := Lib.hid ((X4.out.grown g5 (by omega)).set1 y)
    have R6 := Lib.hid ((R4.out.grown g5 (by omega)).far (g := M) (j := 1) (v := .int .i64 y) (by omega))
    have hb6 : Below w.heap.size w6 (w6.setCell ⟨M, 1, none⟩ (.int .i64 y)) := below_set w6 _ (by omega) (by have := (grown_trans G4.out g5).size; exact this)
    have G6 := Lib.hid (grown_own (grown_trans G4.out g5) hb6)
    have H6 := Lib.hid (h5.below hg hb6)
    clear h5 g5 H4 G4 X4 R4 hb6
    obtain ⟨y0, y1, y2, y3⟩ := X6.out.cells
    obtain ⟨r0, r1', r2, r3⟩ := R6.out.cells
    have s0 := R6.out.frozen 0 (by omega)
    have s1 := R6.out.frozen 1 (by omega)
    have s2 := R6.out.frozen 2 (by omega)
    have s3 := R6.out.frozen 3 (by omega)
    have HX := Lib.hid (R6.out.put (x.1, y, x.2.2.1, x.2.2.2))
    have HB := Lib.hid (below_mput (A := w.heap.size) (B := w.heap.size) _ (x.1, y, x.2.2.1, x.2.2.2) (Nat.le_refl _) G6.out.size)
    have HC := Lib.hid (H6.out.below hg HB.out)
    have HG := Lib.hid (grown_own G6.out HB.out)
    clear H6 G6 X6 R6 HB
    unfold mput at HX HC HG
    dsimp only at HX HC HG d0 d1 d2 d3 y0 y1 y2 y3 r0 r1' r2 r3
    go_wp2
    exact bodyPost_ret (results_cell_row rfl _ _ _ _ _ _ _ rfl HX.out Tryd.underlying29 rfl (by kernel_rfl)) rfl ⟨(x.1, y, x.2.2.1, x.2.2.2), rfl, (by exact hx), HC.out, HG.out⟩
  · go_wp2_with fail
    refine (drawName_any H4.out).mono ?_
    rintro e w6 ⟨y, rfl, hy, h5, g5⟩
    obtain ⟨d0, d1, d2, d3⟩ := (X4.out.grown g5 (by omega)).cells
    have fz := (X4.out.grown g5 (by omega)).frozen 2 (by omega)
    have X6 := Lib.hid ((X4.out.grown g5 (by omega)).set2 y)
    have R6 := Lib.hid ((R4.out.grown g5 (by omega)).far (g := M) (j := 2) (v := .string y) (by omega))
    have hb6 : Below w.heap.size w6 (w6.setCell ⟨M, 2, none⟩ (.string y)) := below_set w6 _ (by omega) (by have := (grown_trans G4.out g5).size; exact this)
    have G6 := Lib.hid (grown_own (grown_trans G4.out g5) hb6)
    have H6 := Lib.hid (h5.below hg hb6)
    clear h5 g5 H4 G4 X4 R4 hb6
    obtain ⟨y0, y1, y2, y3⟩ := X6.out.cells
    obtain ⟨r0, r1', r2, r3⟩ := R6.out.cells
    have s0 := R6.out.frozen 0 (by omega)
    have s1 := R6.out.frozen 1 (by omega)
    have s2 := R6.out.frozen 2 (by omega)
    have s3 := R6.out.frozen 3 (by omega)
    have HX := Lib.hid (R6.out.put (x.1, x.2.1, y, x.2.2.2))
    have HB := Lib.hid (below_mput (A := w.heap.size) (B := w.heap.size) _ (x.1, x.2.1, y, x.2.2.2) (Nat.le_refl _) G6.out.size)
    have HC := Lib.hid (H6.out.below hg HB.out)
    have HG := Lib.hid (grown_own G6.out HB.out)
    clear H6 G6 X6 R6 HB
    unfold mput at HX HC HG
    dsimp only at HX HC HG d0 d1 d2 d3 y0 y1 y2 y3 r0 r1' r2 r3
    go_wp2
    exact bodyPost_ret (results_cell_row rfl _ _ _ _ _ _ _ rfl HX.out Tryd.underlying29 rfl (by kernel_rfl)) rfl ⟨(x.1, x.2.1, y, x.2.2.2), rfl, (by unfold ShortM; exact hy), HC.out, HG.out⟩
  · go_wp2_with fail
    refine (drawNum_any 9999 (by omega) H4.out).mono ?_
    rintro e w6 ⟨y, rfl, h5, g5⟩
    obtain ⟨d0, d1, d2, d3⟩ := (X4.out.grown g5 (by omega)).cells
    have fz := (X4.out.grown g5 (by omega)).frozen 3 (by omega)
    have X6 := Lib.hid ((X4.out.grown g5 (by omega)).set3 y)
    have R6 := Lib.hid ((R4.out.grown g5 (by omega)).far (g := M) (j := 3) (v := .int .i64 y) (by omega))
    have hb6 : Below w.heap.size w6 (w6.setCell ⟨M, 3, none⟩ (.int .i64 y)) := below_set w6 _ (by omega) (by have := (grown_trans G4.out g5).size; exact this)
    have G6 := Lib.hid (grown_own (grown_trans G4.out g5) hb6)
    have H6 := Lib.hid (h5.below hg hb6)
    clear h5 g5 H4 G4 X4 R4 hb6
    obtain ⟨y0, y1, y2, y3⟩ := X6.out.cells
    obtain ⟨r0, r1', r2, r3⟩ := R6.out.cells
    have s0 := R6.out.frozen 0 (by omega)
    have s1 := R6.out.frozen 1 (by omega)
    have s2 := R6.out.frozen 2 (by omega)
    have s3 := R6.out.frozen 3 (by omega)
    have HX := Lib.hid (R6.out.put (x.1, x.2.1, x.2.2.1, y))
    have HB := Lib.hid (below_mput (A := w.heap.size) (B := w.heap.size) _ (x.1, x.2.1, x.2.2.1, y) (Nat.le_refl _) G6.out.size)
    have HC := Lib.hid (H6.out.below hg HB.out)
    have HG := Lib.hid (grown_own G6.out HB.out)
    clear H6 G6 X6 R6 HB
    unfold mput at HX HC HG
    dsimp only at HX HC HG d0 d1 d2 d3 y0 y1 y2 y3 r0 r1' r2 r3
    go_wp2
    exact bodyPost_ret (results_cell_row rfl _ _ _ _ _ _ _ rfl HX.out Tryd.underlying29 rfl (by kernel_rfl)) rfl ⟨(x.1, x.2.1, x.2.2.1, y), rfl, (by exact hx), HC.out, HG.out⟩

theorem mbox_keep {wx wa w0 : World} {M : Nat} {x : MsgM}
    (h : wx.cell? ⟨M, 0, none⟩ = some (.int .i64 x.1) ∧ wx.cell? ⟨M, 1, none⟩ = some (.int .i64 x.2.1) ∧ wx.cell? ⟨M, 2, none⟩ = some (.string x.2.2.1) ∧ wx.cell? ⟨M, 3, none⟩ = some (.int .i64 x.2.2.2) ∧ Hid (Below w0.heap.size w0 wx)) (hb : Below wx.heap.size wx wa) :
    wa.cell? ⟨M, 0, none⟩ = some (.int .i64 x.1) ∧ wa.cell? ⟨M, 1, none⟩ = some (.int .i64 x.2.1) ∧ wa.cell? ⟨M, 2, none⟩ = some (.string x.2.2.1) ∧ wa.cell? ⟨M, 3, none⟩ = some (.int .i64 x.2.2.2) ∧ Hid (Below w0.heap.size w0 wa) := by
  have hlt := World.block_lt_of_cell? _ _ h.1
  exact ⟨(below_cell hb hlt).trans h.1, (below_cell hb hlt).trans h.2.1, (below_cell hb hlt).trans h.2.2.1, (below_cell hb hlt).trans h.2.2.2.1, Lib.hid (below_end h.2.2.2.2.out hb)⟩

end Go.Proofs.YtfkikdoecoobgaaDoor
