/- Small texts, laid together. -/
import Derived.Test.YtiholijkijdlmaaDoorZDraw5
import Derived.Test.YtiholijkijdlmaaDoorZB2
import Derived.Laws.Rows
set_option linter.unusedSimpArgs false
set_option linter.unusedVariables false
/- The walks of the reference's draws of lists of messages. -/
namespace Go.Proofs.YtiholijkijdlmaaDoor
open Go.RowKit

/-- Drawn messages: few, their topics short. -/
def ShortL (n : Nat) (l : List MsgM) : Prop := l.length ≤ n ∧ ∀ x ∈ l, ShortM x

set_option maxRecDepth 100000 in
set_option maxHeartbeats 3200000 in
theorem draw4L_any {g : Nat} {a : Option Addr} {len cap : Nat} {w : World} (most : Nat) (hm : most ≤ 1000) (h : Curs g a len cap w) :
    Calls Tryd.prog 58 #[.pointer (some ⟨g, 0, none⟩), .int .i64 most] w fun e w' => ∃ u l, e = .returned u ∧ MOwn w' w.heap.size u l ∧ ShortL most l ∧ Curs g a len cap w' ∧ w.grownBy w' (some g) := by
  have hg := h.lt
  have HH := Lib.hid h
  clear h
  obtain ⟨i0, hi, hz0, hz1, hz2⟩ := msg_info
  have g9 : IntKind.i64.wrap ((most : Int) + 1) = (most : Int) + 1 := by rw [IntKind.wrap_i64]; omega
  go_enter Tryd.func58, Tryd.ntmps58
  go_wp2_with fail
  have R0 : MOwn (w.alloc (.cells #[] 28)) w.heap.size (.slice (some ⟨w.heap.size, 0, none⟩) 0 0) [] := World.ownsRow_lit (base := w.heap.size) (e := 28) (size := 4) w #[] 0 (Nat.le_refl _) (by unfold maxLen; omega) rfl
  have G0 := grown_alloc w (.cells #[] 28) (some g)
  have cb := curBelow_any (most + 1) (by omega) (HH.out.alloc (.cells #[] 28))
  rw [show ((most + 1 : Nat) : Int) = (most : Int) + 1 by omega] at cb
  refine cb.mono ?_
  clear cb
  rintro e w1 ⟨r, hr, rfl, h1, g1⟩
  have hrm : r ≤ most := by rcases hr with h | h <;> omega
  have H1 := Lib.hid h1
  have G1 := Lib.hid (grown_trans G0 g1)
  have R1 : Hid (MOwn w1 w.heap.size (.slice (some ⟨w.heap.size, 0, none⟩) 0 0) []) := Lib.hid (own_thrown R0 hg g1)
  clear h1 g1 HH R0 G0 hr
  go_wp2_with fail
  go_loopw [5, 6, 7] (fun u q n wr => ∃ (l : List MsgM) (z : Int) (k : Nat), q = .int .i64 z ∧ n = .int .i64 k ∧ l.length + k ≤ most ∧ Hid (∀ x ∈ l, ShortM x) ∧ Hid (MOwn wr w.heap.size u l) ∧ Hid (Curs g a len cap wr) ∧ Hid (w.grownBy wr (some g))) (fun _ _ n _ => (intOf n).toNat)
  case atStart => exact ⟨[], 0, r, rfl, rfl, by simp; omega, Lib.hid (by simp), R1, H1, G1⟩
  case round =>
    obtain ⟨l, z, k, rfl, rfl, hlk, HS, HO, HC, HG⟩ := hrel
    clear R1 H1 G1 hrm
    by_cases hk : 0 < k
    · go_wp2_with fail
      refine (curBelow_any 2 (by omega) HC.out).mono ?_
      rintro e w2 ⟨r2, _, rfl, h2, g2⟩
      have H2 := Lib.hid h2
      have G2 := Lib.hid (grown_trans HG.out g2)
      have O2 : Hid (MOwn w2 w.heap.size u5 l) := Lib.hid (own_thrown HO.out hg g2)
      clear h2 g2 HC HG HO
      go_wp2_with fail
      refine (draw4_any _ H2.out).mono ?_
      rintro e w3 ⟨x, rfl, hx, h3, g3⟩
      have H3 := Lib.hid h3
      have G3 := Lib.hid (grown_trans G2.out g3)
      have O3 : Hid (MOwn w3 w.heap.size u5 l) := Lib.hid (own_thrown O2.out hg g3)
      have hsz : w.heap.size ≤ w3.heap.size := G3.out.size
      clear h3 g3 H2 G2 O2
      go_wp2_with (at_builtin; refine wpList_append_own _ rfl _ _ 24 rfl w.heap.size 28 i0 (.agg #[.int .i64 0, .int .i64 0, .string ⟨#[]⟩, .int .i64 0]) 4 40 Tryd.underlying24 hi hz0 hz1 hz2 rfl (by decide) u5 l.length (mcells l) rfl (row_below O3.out ((Below.refl _ _).alloc (Nat.le_refl _) _)) ⟨w3.heap.size, 0, none⟩ 1 1 (mcells [x]) rfl rfl (msg_new w3 x _) (mcells_one [x]) (by unfold maxLen; omega) (by omega) (by simp; omega) ?_; intro v' w4 hown hgr _)
      have hB4 : Below w.heap.size w3 w4 := ((Below.refl _ _).alloc hsz _).trans ((Below.refl _ _).grown hgr (by simp; omega) (fun j h => (O3.out.lt j h).1))
      have HN : Hid (MOwn w4 w.heap.size v' (l ++ [x])) := Lib.hid (by unfold MOwn; rw [mcells_app, List.length_append]; exact hown)
      have HC4 := Lib.hid (H3.out.below hg hB4)
      have HG4 := Lib.hid (grown_own G3.out hB4)
      have HS4 : Hid (∀ y ∈ l ++ [x], ShortM y) := Lib.hid (fun y hy => by
        rcases List.mem_append.1 hy with h | h
        · exact HS.out y h
        · rw [List.mem_singleton.1 h]; exact hx)
      clear hown hgr hB4 H3 G3 O3 HS
      go_roundw
      case rel => exact ⟨l ++ [x], _, k - 1, rfl, congrArg (Value.int .i64) (by omega), by simp; omega, HS4, HN, HC4, HG4⟩
      case measure => simp only [intOf]; omega
    · go_wp2
      go_ret
      exact ⟨_, l, rfl, HO.out, ⟨by omega, HS.out⟩, HC.out, HG.out⟩

set_option maxRecDepth 100000 in
set_option maxHeartbeats 3200000 in
theorem draw4LA_any {g : Nat} {a : Option Addr} {len cap : Nat} {w : World} (most : Nat) (hm : most ≤ 1000) (h : Curs g a len cap w) :
    Calls Tryd.prog 44 #[.pointer (some ⟨g, 0, none⟩), .int .i64 most] w fun e w' => ∃ u l, e = .returned u ∧ MOwn w' w.heap.size u l ∧ ShortL most l ∧ Curs g a len cap w' ∧ w.grownBy w' (some g) := by
  have hg := h.lt
  have HH := Lib.hid h
  clear h
  go_enter Tryd.func44, Tryd.ntmps44
  go_wp2_with fail
  refine (draw4L_any most hm HH.out).mono ?_
  rintro e w1 ⟨u, l, rfl, ho1, hs1, h1, g1⟩
  obtain ⟨xa, xc, hxu⟩ := own_slice ho1
  subst hxu
  have O1 := Lib.hid ho1
  have S1 := Lib.hid hs1
  have H1 := Lib.hid h1
  have G1 := Lib.hid g1
  have hlm := hs1.1
  clear ho1 hs1 h1 g1 HH
  go_wp2_with fail
  refine (curOnce_any 6 (by omega) H1.out).mono ?_
  rintro e w2 ⟨b2, rfl, h2, g2⟩
  have H2 := Lib.hid h2
  have G2 := Lib.hid (grown_trans G1.out g2)
  have O2 : Hid (MOwn w2 w.heap.size (.slice xa l.length xc) l) := Lib.hid (own_thrown O1.out hg g2)
  clear h2 g2 H1 G1 O1
  cases b2
  · go_wp2
    go_ret
    exact ⟨_, l, rfl, O2.out, S1.out, H2.out, G2.out⟩
  by_cases hl0 : 0 < l.length
  · go_wp2_with fail
    refine (curBelow_any l.length (by omega) H2.out).mono ?_
    rintro e w3 ⟨r, hr, rfl, h3, g3⟩
    have hrl : r < l.length := by rcases hr with h | h <;> omega
    have H3 := Lib.hid h3
    have G3 := Lib.hid (grown_trans G2.out g3)
    have O3 : Hid (MOwn w3 w.heap.size (.slice xa l.length xc) l) := Lib.hid (own_thrown O2.out hg g3)
    clear h3 g3 H2 G2 O2 hr
    go_wp2_with fail
    refine (draw4A_any H3.out).mono ?_
    rintro e w4 ⟨x, rfl, hx, h4, g4⟩
    have H4 := Lib.hid h4
    have G4 := Lib.hid (grown_trans G3.out g4)
    have O4 := own_thrown O3.out hg g4
    clear h4 g4 H3 G3 O3
    obtain ⟨gl, cl, hfm⟩ := Joins.ownsRow_form O4 hl0
    cases hfm
    have hB := (O4.lt gl rfl).1
    have hP := MOwn.put (k := r) x O4 rfl hrl
    have hb5 : Below w.heap.size w4 (put4 w4 gl r x) := (Below.refl _ _).grown (grown_put4 w4 gl r x) G4.out.size (fun k e => by cases e; exact hB)
    have HP := Lib.hid hP
    have HC5 := Lib.hid (H4.out.below hg hb5)
    have HG5 := Lib.hid (grown_own G4.out hb5)
    have HS5 : Hid (ShortL most (l.set r x)) := Lib.hid ⟨by rw [List.length_set]; exact hlm, fun y hy => by
      rcases List.mem_or_eq_of_mem_set hy with h | rfl
      · exact S1.out.2 y h
      · exact hx⟩
    have f0 := O4.frozenAt (r * 4)
    have f1 := O4.frozenAt (r * 4 + 1)
    have f2 := O4.frozenAt (r * 4 + 2)
    have f3 := O4.frozenAt (r * 4 + 3)
    have hex : ∀ j, j < 4 → ∃ u, w4.cell? ⟨gl, r * 4 + j, none⟩ = some u := fun j hj => ⟨_, (O4.cellAt _ (by omega)).trans (List.getElem?_eq_getElem (by rw [mcells_length]; omega))⟩
    obtain ⟨z0, c0⟩ := hex 0 (by omega)
    obtain ⟨z1, c1⟩ := hex 1 (by omega)
    obtain ⟨z2, c2⟩ := hex 2 (by omega)
    obtain ⟨z3, c3⟩ := hex 3 (by omega)
    rw [Nat.add_zero] at c0
    clear hex O4 hP hb5 G4 H4 S1
    unfold put4 at HP HC5 HG5
    go_wp2
    go_ret
    exact ⟨_, l.set r x, rfl, HP.out, HS5.out, HC5.out, HG5.out⟩
  · have hl1 : l.length = 0 := by omega
    have hl2 : l = [] := List.length_eq_zero_iff.1 hl1
    subst hl2
    go_wp2
    go_ret
    exact ⟨_, [], rfl, O2.out, S1.out, H2.out, G2.out⟩

end Go.Proofs.YtiholijkijdlmaaDoor

/- The walks of the reference's draws of rings. -/
namespace Go.Proofs.YtiholijkijdlmaaDoor
open Go.RowKit

/-- A boxed ring. -/
def RB (w : World) (R : Nat) (q : Int) (u : Value) : Prop := w.heap[R]? = some (.cells #[.int .i64 q, u] 26 (0, 0))
theorem RB.new (w : World) (q : Int) (u : Value) : RB (w.alloc (.cells #[.int .i64 q, u] 26)) w.heap.size q u := heap_alloc_new _ _
theorem RB.lt {w : World} {R : Nat} {q : Int} {u : Value} (h : RB w R q u) : R < w.heap.size := (Array.getElem?_eq_some_iff.1 h).1
theorem RB.grown {w w' : World} {R g : Nat} {q : Int} {u : Value} (h : RB w R q u) (hg : w.grownBy w' (some g)) (hne : R ≠ g) : RB w' R q u := (hg.block R h.lt (fun e => hne (by cases e; rfl))).trans h
theorem RB.below {w w' : World} {R : Nat} {q : Int} {u : Value} (h : RB w R q u) (hb : Below w.heap.size w w') : RB w' R q u := (hb.block R h.lt).trans h
theorem RB.c0 {w : World} {R : Nat} {q : Int} {u : Value} (h : RB w R q u) : w.cell? ⟨R, 0, none⟩ = some (.int .i64 q) := cell_of_heap h 0
theorem RB.c1 {w : World} {R : Nat} {q : Int} {u : Value} (h : RB w R q u) : w.cell? ⟨R, 1, none⟩ = some u := cell_of_heap h 1
theorem RB.fr {w : World} {R : Nat} {q : Int} {u : Value} (h : RB w R q u) (j : Nat) : w.frozen? ⟨R, j, none⟩ = false := frozen_of_row _ _ _ _ _ h
theorem RB.set0 {w : World} {R : Nat} {q : Int} {u : Value} (p : Int) (h : RB w R q u) : RB (w.setCell ⟨R, 0, none⟩ (.int .i64 p)) R p u := heap_setCell_same _ _ 0 _ _ (.int .i64 p) h
theorem RB.set1 {w : World} {R : Nat} {q : Int} {u : Value} (v : Value) (h : RB w R q u) : RB (w.setCell ⟨R, 1, none⟩ v) R q v := heap_setCell_same _ _ 1 _ _ v h
theorem RB.far {w : World} {R g j : Nat} {q : Int} {u v : Value} (h : RB w R q u) (hne : R ≠ g) : RB (w.setCell ⟨g, j, none⟩ v) R q u := h.grown (grown_setCell _ _ _ _) hne
theorem RB.off {w : World} {R : Nat} {q : Int} {u : Value} {B n : Nat} {v : Value} {xs : List Value} (h : RB w R q u) (ho : w.ownsRow B 28 4 v n xs) : v.ownBlock ≠ some R := by
  rcases ho.2 with ⟨rfl, _⟩ | ⟨g, cap, cur, rfl, _, h3, _⟩
  · intro e; cases e
  · intro e
    have e2 : g = R := by cases e; rfl
    subst e2
    rw [h] at h3
    cases h3
/-- An own row of messages stays where a ring's box is written. -/
theorem own_offR {w : World} {R j B : Nat} {q : Int} {u v x : Value} {l : List MsgM} (h : MOwn w B v l) (hr : RB w R q u) : MOwn (w.setCell ⟨R, j, none⟩ x) B v l := World.ownsRow.kept h (grown_setCell _ _ _ _) (.inr (hr.off h))

set_option maxRecDepth 100000 in
set_option maxHeartbeats 3200000 in
theorem draw5_any {g : Nat} {a : Option Addr} {len cap : Nat} {w : World} (h : Curs g a len cap w) :
    Calls Tryd.prog 42 #[.pointer (some ⟨g, 0, none⟩)] w fun e w' => ∃ q u l, e = .returned (.agg #[.int .i64 q, u]) ∧ MOwn w' w.heap.size u l ∧ ShortL 6 l ∧ Curs g a len cap w' ∧ w.grownBy w' (some g) := by
  have hg := h.lt
  have HH := Lib.hid h
  clear h
  go_enter Tryd.func42, Tryd.ntmps42
  go_wp2_with fail
  have X0 := RB.new w 0 (.slice none 0 0)
  have G0 := grown_alloc w (.cells #[.int .i64 0, .slice none 0 0] 26) (some g)
  refine (draw4L_any 6 (by omega) (HH.out.alloc (.cells #[.int .i64 0, .slice none 0 0] 26))).mono ?_
  rintro e w1 ⟨u, l, rfl, ho, hs, h1, g1⟩
  obtain ⟨xa, xc, hxu⟩ := own_slice ho
  subst hxu
  have H1 := Lib.hid h1
  have G1 := Lib.hid (grown_trans G0 g1)
  have X1 := Lib.hid (X0.grown g1 (by omega))
  have O1 := Lib.hid (own_mono ho (A := w.heap.size) (by simp))
  have HB1 : w.heap.size + 1 ≤ w1.heap.size := X1.out.lt
  have HO1 := Lib.hid ho
  clear h1 g1 HH X0 G0 ho
  go_wp2_with fail
  refine (curBelow_any 3 (by omega) H1.out).mono ?_
  rintro e w2 ⟨r, _, rfl, h2, g2⟩
  have H2 := Lib.hid h2
  have G2 := Lib.hid (grown_trans G1.out g2)
  have X2 := Lib.hid (X1.out.grown g2 (by omega))
  have O2 := Lib.hid (show MOwn w2 w.heap.size (.slice xa l.length xc) l from own_thrown O1.out hg g2)
  clear h2 g2 H1 G1 X1 O1
  have d0 := X2.out.c0
  have d1 := X2.out.c1
  have f0 := X2.out.fr 0
  have f1 := X2.out.fr 1
  obtain ⟨q, hq⟩ : ∃ q, IntKind.i64.wrap ((l.length : Int) + (r : Int)) = q := ⟨_, rfl⟩
  have HX := Lib.hid ((X2.out.set0 q).set1 (.slice xa l.length xc))
  have HO := Lib.hid (own_offR (own_offR (j := 0) (x := .int .i64 q) O2.out X2.out) (j := 1) (x := .slice xa l.length xc) (X2.out.set0 q))
  have HB := Lib.hid ((below_set (B := w.heap.size) (g := w.heap.size) (j := 0) w2 (.int .i64 q) (Nat.le_refl _) G2.out.size).trans (below_set (B := w.heap.size) (g := w.heap.size) (j := 1) _ (.slice xa l.length xc) (Nat.le_refl _) (by simp; exact G2.out.size)))
  have HC := Lib.hid (H2.out.below hg HB.out)
  have HG := Lib.hid (grown_own G2.out HB.out)
  clear H2 G2 X2 O2 HB
  go_wp2
  exact bodyPost_ret (results_cell_row rfl _ _ _ _ _ _ _ rfl HX.out Tryd.underlying26 rfl (by kernel_rfl)) rfl ⟨q, _, l, rfl, HO.out, hs, HC.out, HG.out⟩

end Go.Proofs.YtiholijkijdlmaaDoor

/- The walk of the reference's draw of whatever ring. -/
namespace Go.Proofs.YtiholijkijdlmaaDoor
open Go.RowKit

set_option maxRecDepth 100000 in
set_option maxHeartbeats 3200000 in
theorem draw5A_any {g : Nat} {a : Option Addr} {len cap : Nat} {w : World} (h : Curs g a len cap w) :
    Calls Tryd.prog 19 #[.pointer (some ⟨g, 0, none⟩)] w fun e w' => ∃ q u l, e = .returned (.agg #[.int .i64 q, u]) ∧ MOwn w' w.heap.size u l ∧ ShortL 6 l ∧ Curs g a len cap w' ∧ w.grownBy w' (some g) := by
  have hg := h.lt
  have HH := Lib.hid h
  clear h
  go_enter Tryd.func19, Tryd.ntmps19
  go_wp2_with fail
  have X0 := RB.new w 0 (.slice none 0 0)
  have G0 := grown_alloc w (.cells #[.int .i64 0, .slice none 0 0] 26) (some g)
  refine (draw5_any (HH.out.alloc (.cells #[.int .i64 0, .slice none 0 0] 26))).mono ?_
  rintro e w1 ⟨q, u, l, rfl, ho, hs, h1, g1⟩
  obtain ⟨xa, xc, hxu⟩ := own_slice ho
  subst hxu
  have H1 := Lib.hid h1
  have G1 := Lib.hid (grown_trans G0 g1)
  have X1 := Lib.hid (X0.grown g1 (by omega))
  have O1 := Lib.hid (own_mono ho (A := w.heap.size) (by simp))
  have HB1 : w.heap.size < w1.heap.size := X1.out.lt
  clear h1 g1 HH X0 G0 ho
  go_wp2_with fail
  have Y2 := Lib.hid (RB.new w1 q (.slice xa l.length xc))
  have hb := (Below.refl w1.heap.size w1).alloc (Nat.le_refl _) (.cells #[.int .i64 q, .slice xa l.length xc] 26)
  have X2 := Lib.hid (X1.out.below hb)
  have O2 := Lib.hid (row_below O1.out hb)
  have H2 := Lib.hid (H1.out.alloc (.cells #[.int .i64 q, .slice xa l.length xc] 26))
  have G2 := Lib.hid (grown_trans G1.out (grown_alloc w1 (.cells #[.int .i64 q, .slice xa l.length xc] 26) (some g)))
  clear hb H1 G1 X1 O1
  generalize w1.alloc (.cells #[.int .i64 q, .slice xa l.length xc] 26) = w2 at X2 Y2 O2 H2 G2 ⊢
  obtain ⟨M, hM⟩ : ∃ M, w1.heap.size = M := ⟨_, rfl⟩
  rw [hM] at Y2 HB1 ⊢
  clear hM
  refine (curOnce_any 6 (by omega) H2.out).mono ?_
  rintro e w3 ⟨b, rfl, h3, g3⟩
  have H3 := Lib.hid h3
  have G3 := Lib.hid (grown_trans G2.out g3)
  have X3 := Lib.hid (X2.out.grown g3 (by omega))
  have Y3 := Lib.hid (Y2.out.grown g3 (by omega))
  have O3 := Lib.hid (show MOwn w3 w.heap.size (.slice xa l.length xc) l from own_thrown O2.out hg g3)
  clear h3 g3 H2 G2 X2 O2 Y2
  cases b
  · have H9 := H3
    have G9 := G3
    have X9 := X3
    have Y9 := Y3
    have O9 := O3
    clear H3 G3 X3 Y3 O3
    have d0 := Y9.out.c0
    have d1 := Y9.out.c1
    have e0 := X9.out.c0
    have e1 := X9.out.c1
    have f0 := X9.out.fr 0
    have f1 := X9.out.fr 1
    have HX := Lib.hid ((X9.out.set0 q).set1 (.slice xa l.length xc))
    have HO := Lib.hid (own_offR (own_offR (j := 0) (x := .int .i64 q) O9.out X9.out) (j := 1) (x := (.slice xa l.length xc)) (X9.out.set0 q))
    have HB := Lib.hid ((below_set (B := w.heap.size) (g := w.heap.size) (j := 0) w3 (.int .i64 q) (Nat.le_refl _) G9.out.size).trans (below_set (B := w.heap.size) (g := w.heap.size) (j := 1) _ (.slice xa l.length xc) (Nat.le_refl _) (by simpa using G9.out.size)))
    have HC := Lib.hid (H9.out.below hg HB.out)
    have HG := Lib.hid (grown_own G9.out HB.out)
    clear H9 G9 X9 O9 Y9 HB
    go_wp2
    exact bodyPost_ret (results_cell_row rfl _ _ _ _ _ _ _ rfl HX.out Tryd.underlying26 rfl (by kernel_rfl)) rfl ⟨q, _, l, rfl, HO.out, hs, HC.out, HG.out⟩
  go_wp2_with fail
  refine (curOnce_any 2 (by omega) H3.out).mono ?_
  rintro e w4 ⟨b, rfl, h4, g4⟩
  have H4 := Lib.hid h4
  have G4 := Lib.hid (grown_trans G3.out g4)
  have X4 := Lib.hid (X3.out.grown g4 (by omega))
  have Y4 := Lib.hid (Y3.out.grown g4 (by omega))
  have O4 := Lib.hid (show MOwn w4 w.heap.size (.slice xa l.length xc) l from own_thrown O3.out hg g4)
  clear h4 g4 H3 G3 X3 O3 Y3
  cases b
  · go_wp2_with fail
    refine (draw4LA_any 6 (by omega) H4.out).mono ?_
    rintro e w5 ⟨u, l', rfl, ho, hs', h5, g5⟩
    obtain ⟨ya, yc, hxu⟩ := own_slice ho
    subst hxu
    have Y5 := Lib.hid (Y4.out.grown g5 (by omega))
    have X5 := Lib.hid (X4.out.grown g5 (by omega))
    have HM4 := Y4.out.lt
    have O5 := Lib.hid (own_mono ho (A := w.heap.size) (by omega))
    have G5 := Lib.hid (grown_trans G4.out g5)
    have H5 := Lib.hid h5
    clear h5 g5 ho hs H4 G4 X4 Y4 O4
    have hs := hs'
    have b0 := Y5.out.c0
    have b1 := Y5.out.c1
    have b2 := Y5.out.fr 1
    have Y9 := Lib.hid (Y5.out.set1 (.slice ya l'.length yc))
    have X9 := Lib.hid (X5.out.far (g := M) (j := 1) (v := .slice ya l'.length yc) (by omega))
    have O9 := Lib.hid (own_offR O5.out Y5.out (j := 1) (x := .slice ya l'.length yc))
    have HB5 := below_set (B := w.heap.size) (g := M) (j := 1) w5 (.slice ya l'.length yc) (by omega) G5.out.size
    have H9 := Lib.hid (H5.out.below hg HB5)
    have G9 := Lib.hid (grown_own G5.out HB5)
    clear HB5 H5 G5 X5 Y5 O5
    have d0 := Y9.out.c0
    have d1 := Y9.out.c1
    have e0 := X9.out.c0
    have e1 := X9.out.c1
    have f0 := X9.out.fr 0
    have f1 := X9.out.fr 1
    have HX := Lib.hid ((X9.out.set0 q).set1 (.slice ya l'.length yc))
    have HO := Lib.hid (own_offR (own_offR (j := 0) (x := .int .i64 q) O9.out X9.out) (j := 1) (x := (.slice ya l'.length yc)) (X9.out.set0 q))
    have HB := Lib.hid ((below_set (B := w.heap.size) (g := w.heap.size) (j := 0) (w5.setCell ⟨M, 1, none⟩ (.slice ya l'.length yc)) (.int .i64 q) (Nat.le_refl _) G9.out.size).trans (below_set (B := w.heap.size) (g := w.heap.size) (j := 1) _ (.slice ya l'.length yc) (Nat.le_refl _) (by simpa using G9.out.size)))
    have HC := Lib.hid (H9.out.below hg HB.out)
    have HG := Lib.hid (grown_own G9.out HB.out)
    clear H9 G9 X9 O9 Y9 HB
    go_wp2
    exact bodyPost_ret (results_cell_row rfl _ _ _ _ _ _ _ rfl HX.out Tryd.underlying26 rfl (by kernel_rfl)) rfl ⟨q, _, l', rfl, HO.out, hs, HC.out, HG.out⟩
  · go_wp2_with fail
    refine (drawNum_any 32 (by omega) H4.out).mono ?_
    rintro e w5 ⟨p, rfl, h5, g5⟩
    have Y5 := Lib.hid (Y4.out.grown g5 (by omega))
    have X5 := Lib.hid (X4.out.grown g5 (by omega))
    have O5 := Lib.hid (show MOwn w5 w.heap.size (.slice xa l.length xc) l from own_thrown O4.out hg g5)
    have G5 := Lib.hid (grown_trans G4.out g5)
    have H5 := Lib.hid h5
    clear h5 g5 H4 G4 X4 Y4 O4
    have b0 := Y5.out.c0
    have b1 := Y5.out.c1
    have b2 := Y5.out.fr 0
    have Y9 := Lib.hid (Y5.out.set0 p)
    have X9 := Lib.hid (X5.out.far (g := M) (j := 0) (v := .int .i64 p) (by omega))
    have O9 := Lib.hid (own_offR O5.out Y5.out (j := 0) (x := .int .i64 p))
    have HB5 := below_set (B := w.heap.size) (g := M) (j := 0) w5 (.int .i64 p) (by omega) G5.out.size
    have H9 := Lib.hid (H5.out.below hg HB5)
    have G9 := Lib.hid (grown_own G5.out HB5)
    clear HB5 H5 G5 X5 Y5 O5
    have d0 := Y9.out.c0
    have d1 := Y9.out.c1
    have e0 := X9.out.c0
    have e1 := X9.out.c1
    have f0 := X9.out.fr 0
    have f1 := X9.out.fr 1
    have HX := Lib.hid ((X9.out.set0 p).set1 (.slice xa l.length xc))
    have HO := Lib.hid (own_offR (own_offR (j := 0) (x := .int .i64 p) O9.out X9.out) (j := 1) (x := (.slice xa l.length xc)) (X9.out.set0 p))
    have HB := Lib.hid ((below_set (B := w.heap.size) (g := w.heap.size) (j := 0) (w5.setCell ⟨M, 0, none⟩ (.int .i64 p)) (.int .i64 p) (Nat.le_refl _) G9.out.size).trans (below_set (B := w.heap.size) (g := w.heap.size) (j := 1) _ (.slice xa l.length xc) (Nat.le_refl _) (by simpa using G9.out.size)))
    have HC := Lib.hid (H9.out.below hg HB.out)
    have HG := Lib.hid (grown_own G9.out HB.out)
    clear H9 G9 X9 O9 Y9 HB
    go_wp2
    exact bodyPost_ret (results_cell_row rfl _ _ _ _ _ _ _ rfl HX.out Tryd.underlying26 rfl (by kernel_rfl)) rfl ⟨p, _, l, rfl, HO.out, hs, HC.out, HG.out⟩

end Go.Proofs.YtiholijkijdlmaaDoor
