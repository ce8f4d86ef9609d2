/- The walks of the reference's draws of lists of messages. -/
import Derived.Test.YtiigllhedlpccaaDoorDraw5
import Derived.Test.YtiigllhedlpccaaDoorMApp
import Derived.Test.YtiigllhedlpccaaDoorMsgT
namespace Go.Proofs.YtiigllhedlpccaaDoor
open Go.RowKit

/-- An own row, behind steps that turn the cursor alone. -/
theorem own_thrown {w w' : World} {B n size g : Nat} {E : TypeId} {v : Value} {xs : List Value} (h : w.ownsRow B E size v n xs) (hg : g < B) (hw : w.grownBy w' (some g)) : w'.ownsRow B E size v n xs :=
  h.kept hw (by
    cases e : v.ownBlock with
    | none => exact .inl rfl
    | some k => exact .inr (by have := (h.lt k e).1; intro e2; cases e2; omega))

/-- Drawn messages: few, their topics short. -/
def ShortL (n : Nat) (l : List MsgM) : Prop := l.length ≤ n ∧ ∀ x ∈ l, ShortM x

set_option maxRecDepth 100000 in
set_option maxHeartbeats 3200000 in
theorem draw4L_any {g : Nat} {a : Option Addr} {len cap : Nat} {w : World} (most : Nat) (hm : most ≤ 1000) (h : Curs g a len cap w) :
    Calls Tryd.prog 34 #[.pointer (some ⟨g, 0, none⟩), .int .i64 most] w fun e w' => ∃ u l, e = .returned u ∧ MOwn w' w.heap.size u l ∧ ShortL most l ∧ Curs g a len cap w' ∧ w.grownBy w' (some g) := by
  have hg := h.lt
  have HH := Lib.hid h
  clear h
  obtain ⟨i0, hi, hz0, hz1, hz2⟩ := msg_info
  have g9 : IntKind.i64.wrap ((most : Int) + 1) = (most : Int) + 1 := by rw [IntKind.wrap_i64]; omega
  go_enter Tryd.func34, Tryd.ntmps34
  go_wp2_with fail
  have R0 : MOwn (w.alloc (.cells #[] 25)) w.heap.size (.slice (some ⟨w.heap.size, 0, none⟩) 0 0) [] := World.ownsRow_lit (base := w.heap.size) (e := 25) (size := 4) w #[] 0 (Nat.le_refl _) (by unfold maxLen; omega) rfl
  have G0 := grown_alloc w (.cells #[] 25) (some g)
  have cb := curBelow_any (most + 1) (by omega) (HH.out.alloc (.cells #[] 25))
  rw [show ((most + 1 : Nat) : Int) = (most : Int) + 1 by omega] at cb
  refine cb.mono ?_
  clear cb
  rintro e w1 ⟨r, hr, rfl, h1, g1⟩
  have hrm : r ≤ most := by rcases hr with h | h <;> omega
  have H1 := Lib.hid h1
  have G1 := Lib.hid (grown_trans G0 g1)
  have R1 : Hid (MOwn w1 w.heap.size (.slice (some ⟨w.heap.size, 0, none⟩) 0 0) []) := Lib.hid (own_thrown R0 hg g1)
  clear h1 g1 HH R0 G0 hr
  go_wp2_with fail
  go_loopw [5, 6, 7] (fun u q n wr => ∃ (l : List MsgM) (z : Int) (k : Nat), q = .int .i64 z ∧ n = .int .i64 k ∧ l.length + k ≤ most ∧ Hid (∀ x ∈ l, ShortM x) ∧ Hid (MOwn wr w.heap.size u l) ∧ Hid (Curs g a len cap wr) ∧ Hid (w.grownBy wr (some g))) (fun _ _ n _ => (intOf n).toNat)
  case atStart => exact ⟨[], 0, r, rfl, rfl, by simp; omega, Lib.hid (by simp), R1, H1, G1⟩
  case round =>
    obtain ⟨l, z, k, rfl, rfl, hlk, HS, HO, HC, HG⟩ := hrel
    clear R1 H1 G1 hrm
    by_cases hk : 0 < k
    · go_wp2_with fail
      refine (curBelow_any 2 (by omega) HC.out).mono ?_
      rintro e w2 ⟨r2, _, rfl, h2, g2⟩
      have H2 := Lib.hid h2
      have G2 := Lib.hid (grown_trans HG.out g2)
      have O2 : Hid (MOwn w2 w.heap.size u5 l) := Lib.hid (own_thrown HO.out hg g2)
      clear h2 g2 HC HG HO
      go_wp2_with fail
      refine (draw4_any _ H2.out).mono ?_
      rintro e w3 ⟨x, rfl, hx, h3, g3⟩
      have H3 := Lib.hid h3
      have G3 := Lib.hid (grown_trans G2.out g3)
      have O3 : Hid (MOwn w3 w.heap.size u5 l) := Lib.hid (own_thrown O2.out hg g3)
      have hsz : w.heap.size ≤ w3.heap.size := G3.out.size
      clear h3 g3 H2 G2 O2
      go_wp2_with (at_builtin; refine wpList_append_own _ rfl _ _ 27 rfl w.heap.size 25 i0 (.agg #[.int .i64 0, .int .i64 0, .string ⟨#[]⟩, .int .i64 0]) 4 40 Tryd.underlying27 hi hz0 hz1 hz2 rfl (by decide) u5 l.length (mcells l) rfl (row_below O3.out ((Below.refl _ _).alloc (Nat.le_refl _) _)) ⟨w3.heap.size, 0, none⟩ 1 1 (mcells [x]) rfl rfl (msg_new w3 x _) (mcells_one [x]) (by unfold maxLen; omega) (by omega) (by simp; omega) ?_; intro v' w4 hown hgr _)
      have hB4 : Below w.heap.size w3 w4 := ((Below.refl _ _).alloc hsz _).trans ((Below.refl _ _).grown hgr (by simp; omega) (fun j h => (O3.out.lt j h).1))
      have HN : Hid (MOwn w4 w.heap.size v' (l ++ [x])) := Lib.hid (by unfold MOwn; rw [mcells_app, List.length_append]; exact hown)
      have HC4 := Lib.hid (H3.out.below hg hB4)
      have HG4 := Lib.hid (grown_own G3.out hB4)
      have HS4 : Hid (∀ y ∈ l ++ [x], ShortM y) := Lib.hid (fun y hy => by
        rcases List.mem_append.1 hy with h | h
        · exact HS.out y h
        · rw [List.mem_singleton.1 h]; exact hx)
      clear hown hgr hB4 H3 G3 O3 HS
      go_roundw
      case rel => exact ⟨l ++ [x], _, k - 1, rfl, congrArg (Value.int .i64) (by omega), by simp; omega, HS4, HN, HC4, HG4⟩
      case measure => simp only [intOf]; omega
    · go_wp2
      go_ret
      exact ⟨_, l, rfl, HO.out, ⟨by omega, HS.out⟩, HC.out, HG.out⟩

set_option maxRecDepth 100000 in
set_option maxHeartbeats 3200000 in
theorem draw4LA_any {g : Nat} {a : Option Addr} {len cap : Nat} {w : World} (most : Nat) (hm : most ≤ 1000) (h : Curs g a len cap w) :
    Calls Tryd.prog 22 #[.pointer (some ⟨g, 0, none⟩), .int .i64 most] w fun e w' => ∃ u l, e = .returned u ∧ MOwn w' w.heap.size u l ∧ ShortL most l ∧ Curs g a len cap w' ∧ w.grownBy w' (some g) := by
  have hg := h.lt
  have HH := Lib.hid h
  clear h
  go_enter Tryd.func22, Tryd.ntmps22
  go_wp2_with fail
  refine (draw4L_any most hm HH.out).mono ?_
  rintro e w1 ⟨u, l, rfl, ho1, hs1, h1, g1⟩
  obtain ⟨xa, xc, hxu⟩ := own_slice ho1
  subst hxu
  have O1 := Lib.hid ho1
  have S1 := Lib.hid hs1
  have H1 := Lib.hid h1
  have G1 := Lib.hid g1
  have hlm := hs1.1
  clear ho1 hs1 h1 g1 HH
  go_wp2_with fail
  refine (curOnce_any 6 (by omega) H1.out).mono ?_
  rintro e w2 ⟨b2, rfl, h2, g2⟩
  have H2 := Lib.hid h2
  have G2 := Lib.hid (grown_trans G1.out g2)
  have O2 : Hid (MOwn w2 w.heap.size (.slice xa l.length xc) l) := Lib.hid (own_thrown O1.out hg g2)
  clear h2 g2 H1 G1 O1
  cases b2
  · go_wp2
    go_ret
    exact ⟨_, l, rfl, O2.out, S1.out, H2.out, G2.out⟩
  by_cases hl0 : 0 < l.length
  · go_wp2_with fail
    refine (curBelow_any l.length (by omega) H2.out).mono ?_
    rintro e w3 ⟨r, hr, rfl, h3, g3⟩
    have hrl : r < l.length := by rcases hr with h | h <;> omega
    have H3 := Lib.hid h3
    have G3 := Lib.hid (grown_trans G2.out g3)
    have O3 : Hid (MOwn w3 w.heap.size (.slice xa l.length xc) l) := Lib.hid (own_thrown O2.out hg g3)
    clear h3 g3 H2 G2 O2 hr
    go_wp2_with fail
    refine (draw4A_any H3.out).mono ?_
    rintro e w4 ⟨x, rfl, hx, h4, g4⟩
    have H4 := Lib.hid h4
    have G4 := Lib.hid (grown_trans G3.out g4)
    have O4 := own_thrown O3.out hg g4
    clear h4 g4 H3 G3 O3
    obtain ⟨gl, cl, hfm⟩ := Joins.ownsRow_form O4 hl0
    cases hfm
    have hB := (O4.lt gl rfl).1
    have hP := MOwn.put (k := r) x O4 rfl hrl
    have hb5 : Below w.heap.size w4 (put4 w4 gl r x) := (Below.refl _ _).grown (grown_put4 w4 gl r x) G4.out.size (fun k e => by cases e; exact hB)
    have HP := Lib.hid hP
    have HC5 := Lib.hid (H4.out.below hg hb5)
    have HG5 := Lib.hid (grown_own G4.out hb5)
    have HS5 : Hid (ShortL most (l.set r x)) := Lib.hid ⟨by rw [List.length_set]; exact hlm, fun y hy => by
      rcases List.mem_or_eq_of_mem_set hy with h | rfl
      · exact S1.out.2 y h
      · exact hx⟩
    have f0 := O4.frozenAt (r * 4)
    have f1 := O4.frozenAt (r * 4 + 1)
    have f2 := O4.frozenAt (r * 4 + 2)
    have f3 := O4.frozenAt (r * 4 + 3)
    have hex : ∀ j, j < 4 → ∃ u, w4.cell? ⟨gl, r * 4 + j, none⟩ = some u := fun j hj => ⟨_, (O4.cellAt _ (by omega)).trans (List.getElem?_eq_getElem (by rw [mcells_length]; omega))⟩
    obtain ⟨z0, c0⟩ := hex 0 (by omega)
    obtain ⟨z1, c1⟩ := hex 1 (by omega)
    obtain ⟨z2, c2⟩ := hex 2 (by omega)
    obtain ⟨z3, c3⟩ := hex 3 (by omega)
    rw [Nat.add_zero] at c0
    clear hex O4 hP hb5 G4 H4 S1
    unfold put4 at HP HC5 HG5
    go_wp2
    go_ret
    exact ⟨_, l.set r x, rfl, HP.out, HS5.out, HC5.out, HG5.out⟩
  · have hl1 : l.length = 0 := by omega
    have hl2 : l = [] := List.length_eq_zero_iff.1 hl1
    subst hl2
    go_wp2
    go_ret
    exact ⟨_, [], rfl, O2.out, S1.out, H2.out, G2.out⟩

set_option maxRecDepth 100000 in
set_option maxHeartbeats 1600000 in
theorem drawMsgOk_any {a : Option Addr} {len cap : Nat} {w : World} (hlen : len ≤ 4096) (hc : CodeAt w.heap.size a len w) :
    Calls Tryd.prog 7 #[.slice a len cap] w fun e w' => ∃ x : MsgM, e = .returned (magg x) ∧ ShortM x ∧ Below w.heap.size w w' := by
  have HC := Lib.hid hc
  clear hc
  go_enter Tryd.func7, Tryd.ntmps7
  go_wp2_with fail
  have X0 := MBox.new w 25 (0, 0, ⟨#[]⟩, 0)
  have b0 : Below w.heap.size w (w.alloc (.cells #[.int .i64 0, .int .i64 0, .string ⟨#[]⟩, .int .i64 0] 25)) := (Below.refl _ _).alloc (Nat.le_refl _) _
  have s0 : (w.alloc (.cells #[.int .i64 0, .int .i64 0, .string ⟨#[]⟩, .int .i64 0] 25)).heap.size = w.heap.size + 1 := by simp
  have cn := curNew_any a len cap (w.alloc (.cells #[.int .i64 0, .int .i64 0, .string ⟨#[]⟩, .int .i64 0] 25)) hlen (by rw [s0]; exact (HC.out.below b0.block).mono (by omega))
  rw [s0] at cn
  refine cn.mono ?_
  clear cn
  rintro e w1 ⟨rfl, h1, b1⟩
  have H1 := Lib.hid h1
  have X1 := Lib.hid (X0.below (by rw [s0]; exact b1))
  have B1 := Lib.hid (b0.trans (b1.mono (by omega)))
  have hs1 : w.heap.size + 1 ≤ w1.heap.size := by have := b1.size; omega
  clear h1 b1 b0 X0
  go_wp2_with fail
  refine (draw4A_any H1.out).mono ?_
  rintro e w2 ⟨x, rfl, hx, h2, g2⟩
  have X2 := Lib.hid (X1.out.grown g2 (by omega))
  have B2 := Lib.hid (B1.out.grown g2 B1.out.size (fun k e => by cases e; omega))
  clear h2 g2 H1 X1 B1
  obtain ⟨d0, d1, d2, d3⟩ := X2.out.cells
  have f0 := X2.out.frozen 0 (by omega)
  have f1 := X2.out.frozen 1 (by omega)
  have f2 := X2.out.frozen 2 (by omega)
  have f3 := X2.out.frozen 3 (by omega)
  have HX := Lib.hid (X2.out.put x)
  have HB := Lib.hid (B2.out.trans (below_mput (A := w.heap.size) (B := w.heap.size) w2 x (Nat.le_refl _) B2.out.size))
  clear B2 X2
  unfold mput at HX HB
  dsimp only at d0 d1 d2 d3
  go_wp2
  exact bodyPost_ret (results_cell_row rfl _ _ _ _ _ _ _ rfl HX.out Tryd.underlying25 rfl (by kernel_rfl)) rfl ⟨x, rfl, hx, HB.out⟩

set_option maxRecDepth 100000 in
set_option maxHeartbeats 1600000 in
theorem drawMsgsOk_any {a : Option Addr} {len cap : Nat} {w : World} (hlen : len ≤ 4096) (hc : CodeAt w.heap.size a len w) :
    Calls Tryd.prog 8 #[.slice a len cap] w fun e w' => ∃ u l, e = .returned u ∧ MOwn w' w.heap.size u l ∧ ShortL 8 l ∧ Below w.heap.size w w' := by
  go_enter Tryd.func8, Tryd.ntmps8
  go_wp2_with fail
  refine (curNew_any a len cap w hlen hc).mono ?_
  rintro e w1 ⟨rfl, h1, b1⟩
  have H1 := Lib.hid h1
  have B1 := Lib.hid b1
  clear h1 b1 hc
  go_wp2_with fail
  refine (draw4LA_any 8 (by omega) H1.out).mono ?_
  rintro e w2 ⟨u, l, rfl, ho, hs, h2, g2⟩
  obtain ⟨xa, xc, hxu⟩ := own_slice ho
  subst hxu
  have O2 := Lib.hid (own_mono ho B1.out.size)
  have B2 := Lib.hid (B1.out.grown g2 B1.out.size (fun k hk => by cases hk; exact Nat.le_refl _))
  clear ho h2 g2 H1 B1
  go_wp2
  go_ret
  exact ⟨_, l, rfl, O2.out, hs, B2.out⟩

end Go.Proofs.YtiigllhedlpccaaDoor
