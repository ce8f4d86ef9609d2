/- The walk of the reference's any draw of what is kept. -/
import Derived.Test.YtgkfnmbjlfmcmaaGreatDoorZDrawK
import Derived.Test.YtgkfnmbjlfmcmaaGreatDoorZB4
set_option linter.unusedSimpArgs false
set_option linter.unusedVariables false
namespace Go.Proofs.YtgkfnmbjlfmcmaaGreatDoor
open Go.RowKit

set_option maxRecDepth 100000 in
set_option maxHeartbeats 6400000 in
theorem draw6A_any {g : Nat} {a : Option Addr} {len cap : Nat} {w : World} (h : Curs g a len cap w) :
    Calls Tryz.prog 17 #[.pointer (some ⟨g, 0, none⟩)] w fun e w' => ∃ u l, e = .returned u ∧ MOwn w' w.heap.size u l ∧ l.length ≤ 25 ∧ (∀ x ∈ l, ShortM x) ∧ Curs g a len cap w' ∧ w.grownBy w' (some g) := by
  have hg := h.lt
  have HH := Lib.hid h
  clear h
  obtain ⟨i0, hi, hz0, hz1, hz2⟩ := msg_info
  go_enter Tryz.func17, Tryz.ntmps17
  go_wp2_with fail
  refine (draw6_any HH.out).mono ?_
  rintro e w0 ⟨u, l, rfl, ho1, hs1, h1, g1⟩
  obtain ⟨xa, xc, hxu⟩ := own_slice ho1
  subst hxu
  have O0 := Lib.hid ho1
  have S1 : Hid (∀ x ∈ l, ShortM x) := Lib.hid hs1.2
  have H0 := Lib.hid h1
  have G0 := Lib.hid g1
  have hlm : l.length ≤ 25 := Nat.le_trans hs1.1 (by decide)
  clear ho1 hs1 h1 g1 HH
  go_wp2_with fail
  refine (curOnce_any 12 (by omega) H0.out).mono ?_
  rintro e w1 ⟨b1, rfl, h2, g2⟩
  have H1 := Lib.hid h2
  have G1 := Lib.hid (grown_trans G0.out g2)
  have O1 : Hid (MOwn w1 w.heap.size (.slice xa l.length xc) l) := Lib.hid (own_thrown O0.out hg g2)
  clear h2 g2 H0 G0 O0
  cases b1
  · skip
    go_wp2_with fail
    refine (curOnce_any 6 (by omega) H1.out).mono ?_
    rintro e w2 ⟨b2, rfl, h2, g2⟩
    have H2 := Lib.hid h2
    have G2 := Lib.hid (grown_trans G1.out g2)
    have O2 : Hid (MOwn w2 w.heap.size (.slice xa l.length xc) l) := Lib.hid (own_thrown O1.out hg g2)
    clear h2 g2 H1 G1 O1
    cases b2
    · go_wp2
      go_ret
      exact ⟨_, l, rfl, O2.out, hlm, S1.out, H2.out, G2.out⟩
    by_cases hl0 : 0 < l.length
    · go_wp2_with fail
      refine (curBelow_any l.length (by omega) H2.out).mono ?_
      rintro e w3 ⟨r, hr, rfl, h3, g3⟩
      have hrl : r < l.length := by rcases hr with h | h <;> omega
      have H3 := Lib.hid h3
      have G3 := Lib.hid (grown_trans G2.out g3)
      have O3 : Hid (MOwn w3 w.heap.size (.slice xa l.length xc) l) := Lib.hid (own_thrown O2.out hg g3)
      clear h3 g3 H2 G2 O2 hr
      go_wp2_with fail
      refine (draw4A_any H3.out).mono ?_
      rintro e w4 ⟨x, rfl, hx, h4, g4⟩
      have H4 := Lib.hid h4
      have G4 := Lib.hid (grown_trans G3.out g4)
      have O4 := own_thrown O3.out hg g4
      clear h4 g4 H3 G3 O3
      obtain ⟨gl, cl, hfm⟩ := Joins.ownsRow_form O4 hl0
      cases hfm
      have hB := (O4.lt gl rfl).1
      have hP := MOwn.put (k := r) x O4 rfl hrl
      have hb5 : Below w.heap.size w4 (put4 w4 gl r x) := (Below.refl _ _).grown (grown_put4 w4 gl r x) G4.out.size (fun k e => by cases e; exact hB)
      have HP := Lib.hid hP
      have HC5 := Lib.hid (H4.out.below hg hb5)
      have HG5 := Lib.hid (grown_own G4.out hb5)
      have HS5 : Hid ((l.set r x).length ≤ 25 ∧ ∀ y ∈ l.set r x, ShortM y) := Lib.hid ⟨by rw [List.length_set]; exact hlm, fun y hy => by
        rcases List.mem_or_eq_of_mem_set hy with h | rfl
        · exact S1.out y h
        · exact hx⟩
      have f0 := O4.frozenAt (r * 4)
      have f1 := O4.frozenAt (r * 4 + 1)
      have f2 := O4.frozenAt (r * 4 + 2)
      have f3 := O4.frozenAt (r * 4 + 3)
      have hex : ∀ j, j < 4 → ∃ u, w4.cell? ⟨gl, r * 4 + j, none⟩ = some u := fun j hj => ⟨_, (O4.cellAt _ (by omega)).trans (List.getElem?_eq_getElem (by rw [mcells_length]; omega))⟩
      obtain ⟨z0, c0⟩ := hex 0 (by omega)
      obtain ⟨z1, c1⟩ := hex 1 (by omega)
      obtain ⟨z2, c2⟩ := hex 2 (by omega)
      obtain ⟨z3, c3⟩ := hex 3 (by omega)
      rw [Nat.add_zero] at c0
      clear hex O4 hP hb5 G4 H4 S1
      unfold put4 at HP HC5 HG5
      go_wp2
      go_ret
      exact ⟨_, l.set r x, rfl, HP.out, HS5.out.1, HS5.out.2, HC5.out, HG5.out⟩
    · have hl1 : l.length = 0 := by omega
      have hl2 : l = [] := List.length_eq_zero_iff.1 hl1
      subst hl2
      go_wp2
      go_ret
      exact ⟨_, [], rfl, O2.out, hlm, S1.out, H2.out, G2.out⟩
  clear O1 S1 hlm
  have hsz1 : w.heap.size ≤ w1.heap.size := G1.out.size
  have R0 := Lib.hid (World.ownsRow_lit (base := w.heap.size) (e := 26) (size := 4) w1 #[] 0 hsz1 (by unfold maxLen; omega) rfl)
  have G01 := Lib.hid (grown_trans G1.out (grown_alloc w1 (.cells #[] 26) (some g)))
  have H01 := Lib.hid (H1.out.alloc (.cells #[] 26))
  clear H1 G1
  go_wp2_with fail
  go_loopw [3, 4] (fun u n wr => ∃ (xa : Option Addr) (xc : Nat) (l : List MsgM) (k : Nat), u = .slice xa k xc ∧ n = .int .i64 k ∧ k ≤ 25 ∧ Hid (l.length = k) ∧ Hid (∀ x ∈ l, ShortM x) ∧ Hid (MOwn wr w.heap.size (.slice xa k xc) l) ∧ Hid (Curs g a len cap wr) ∧ Hid (w.grownBy wr (some g))) (fun _ n _ => 26 - (intOf n).toNat)
  case atStart => exact ⟨_, _, [], 0, rfl, rfl, by omega, rfl, Lib.hid (by simp), R0, H01, G01⟩
  case round =>
    obtain ⟨xa, xc, l, k, rfl, rfl, hk, HL, HS, HO, HC, HG⟩ := hrel
    clear R0 H01 G01
    go_wp2_with fail
    refine (curBelow_any 2 (by omega) HC.out).mono ?_
    rintro e w2 ⟨r, hr, rfl, h2, g2⟩
    have hr2 : r < 2 := by rcases hr with h | h <;> omega
    have H2 := Lib.hid h2
    have G2 := Lib.hid (grown_trans HG.out g2)
    have O2 : Hid (MOwn w2 w.heap.size (.slice xa k xc) l) := Lib.hid (own_thrown HO.out hg g2)
    clear h2 g2 HC HG HO hr
    by_cases hlt : k < 24 + r
    · have cI := specInt_few (100 + k) w2 (by omega)
      rw [show ((100 + k : Nat) : Int) = 100 + (k : Int) by omega] at cI
      have CI := Lib.hid cI
      clear cI
      have hd : decide ((k : Int) < 24 + (r : Int)) = true := decide_eq_true (by omega)
      go_wp2_with fail
      refine CI.out.mono ?_
      rintro e w3 ⟨s, rfl, hs, b3⟩
      have hsz : w.heap.size ≤ w3.heap.size := Nat.le_trans G2.out.size b3.size
      have hB3 : Below w.heap.size w2 w3 := b3.mono G2.out.size
      have H3 := Lib.hid (H2.out.below hg hB3)
      have G3 := Lib.hid (grown_own G2.out hB3)
      have O3 : Hid (w3.ownsRow w.heap.size 26 4 (.slice xa k xc) k (mcells l)) := Lib.hid (by have h := row_below O2.out b3; unfold MOwn at h; rw [HL.out] at h; exact h)
      have HX : Hid (ShortM (1 + (k : Int), 0, (⟨#[98, 47]⟩ ++ s : ByteArray), 5)) := Lib.hid (by show (⟨#[98, 47]⟩ ++ s : ByteArray).size ≤ 13; rw [ByteArray.size_append]; show 2 + s.size ≤ 13; omega)
      clear b3 hB3 H2 G2 O2 CI
      have hs2 : (⟨#[98, 47]⟩ : ByteArray).size = 2 := rfl
      have e0 := (Below.refl w3.heap.size w3).alloc (Nat.le_refl _) (.cells #[.int .i64 (1 + (k : Int)), .int .i64 0, .string (⟨#[98, 47]⟩ ++ s : ByteArray), .int .i64 5] 26)
      have OA := Lib.hid (row_below O3.out e0)
      have HSR : Hid (SrcAt (w3.alloc (.cells #[.int .i64 (1 + (k : Int)), .int .i64 0, .string (⟨#[98, 47]⟩ ++ s : ByteArray), .int .i64 5] 26)) (.slice (some ⟨w3.heap.size, 0, none⟩) 1 1) 1 (mcells [(1 + (k : Int), 0, (⟨#[98, 47]⟩ ++ s : ByteArray), 5)])) := Lib.hid ⟨_, _, rfl, .inr ⟨_, rfl, msg_new w3 (1 + (k : Int), 0, (⟨#[98, 47]⟩ ++ s : ByteArray), 5) 26⟩⟩
      have BA := Lib.hid (e0.mono hsz)
      have HBA : Hid (w.heap.size ≤ (w3.alloc (.cells #[.int .i64 (1 + (k : Int)), .int .i64 0, .string (⟨#[98, 47]⟩ ++ s : ByteArray), .int .i64 5] 26)).heap.size) := Lib.hid (Nat.le_trans hsz e0.size)
      clear e0 O3
      generalize (Value.slice xa k xc) = us at OA ⊢
      go_wp2_with (at_builtin; go_must (refine wpList_append_src rfl _ _ 24 rfl w.heap.size 26 i0 (.agg #[.int .i64 0, .int .i64 0, .string ⟨#[]⟩, .int .i64 0]) 4 40 Tryz.underlying24 hi hz0 hz1 hz2 rfl (by decide) us (.slice (some ⟨w3.heap.size, 0, none⟩) 1 1) k 1 (mcells l) (mcells [(1 + (k : Int), 0, (⟨#[98, 47]⟩ ++ s : ByteArray), 5)]) rfl OA.out rfl HSR.out rfl (mcells_one _) (by unfold maxLen; omega) (by omega) HBA.out ?_); intro v' w4 hown hgr _)
      have hB4 : Below w.heap.size w3 w4 := BA.out.grown hgr HBA.out (fun j h => (OA.out.lt j h).1)
      have HC4 := Lib.hid (H3.out.below hg hB4)
      have HG4 := Lib.hid (grown_own G3.out hB4)
      have HLN : Hid ((l ++ [((1 + (k : Int), 0, (⟨#[98, 47]⟩ ++ s : ByteArray), 5) : MsgM)]).length = k + 1) := Lib.hid (by rw [List.length_append, HL.out]; rfl)
      have HN : Hid (MOwn w4 w.heap.size v' (l ++ [((1 + (k : Int), 0, (⟨#[98, 47]⟩ ++ s : ByteArray), 5) : MsgM)])) := Lib.hid (by unfold MOwn; rw [mcells_app, HLN.out]; exact hown)
      have HS4 : Hid (∀ y ∈ l ++ [((1 + (k : Int), 0, (⟨#[98, 47]⟩ ++ s : ByteArray), 5) : MsgM)], ShortM y) := Lib.hid (fun y hy => by
        rcases List.mem_append.1 hy with h | h
        · exact HS.out y h
        · rw [List.mem_singleton.1 h]; exact HX.out)
      obtain ⟨xa4, xc4, hv4⟩ := own_slice hown
      subst hv4
      clear hown hgr hB4 H3 G3 OA HS HSR BA HBA HX
      go_roundw
      case rel => exact ⟨xa4, xc4, l ++ [((1 + (k : Int), 0, (⟨#[98, 47]⟩ ++ s : ByteArray), 5) : MsgM)], k + 1, rfl, by go_num, by omega, HLN, HS4, HN, HC4, HG4⟩
      case measure => simp only [intOf]; omega
    · have hd : decide ((k : Int) < 24 + (r : Int)) = false := decide_eq_false (by omega)
      have S1 := Lib.hid HS.out
      have H1 := Lib.hid H2.out
      have G1 := Lib.hid G2.out
      obtain rfl : l.length = k := HL.out
      have O1 := Lib.hid O2.out
      have hlm : l.length ≤ 25 := hk
      clear HS H2 G2 O2 HL
      go_wp2_with fail
      refine (curOnce_any 6 (by omega) H1.out).mono ?_
      rintro e w2 ⟨b2, rfl, h2, g2⟩
      have H2 := Lib.hid h2
      have G2 := Lib.hid (grown_trans G1.out g2)
      have O2 : Hid (MOwn w2 w.heap.size (.slice xa l.length xc) l) := Lib.hid (own_thrown O1.out hg g2)
      clear h2 g2 H1 G1 O1
      cases b2
      · go_wp2
        go_ret
        exact ⟨_, l, rfl, O2.out, hlm, S1.out, H2.out, G2.out⟩
      by_cases hl0 : 0 < l.length
      · go_wp2_with fail
        refine (curBelow_any l.length (by omega) H2.out).mono ?_
        rintro e w3 ⟨r, hr, rfl, h3, g3⟩
        have hrl : r < l.length := by rcases hr with h | h <;> omega
        have H3 := Lib.hid h3
        have G3 := Lib.hid (grown_trans G2.out g3)
        have O3 : Hid (MOwn w3 w.heap.size (.slice xa l.length xc) l) := Lib.hid (own_thrown O2.out hg g3)
        clear h3 g3 H2 G2 O2 hr
        go_wp2_with fail
        refine (draw4A_any H3.out).mono ?_
        rintro e w4 ⟨x, rfl, hx, h4, g4⟩
        have H4 := Lib.hid h4
        have G4 := Lib.hid (grown_trans G3.out g4)
        have O4 := own_thrown O3.out hg g4
        clear h4 g4 H3 G3 O3
        obtain ⟨gl, cl, hfm⟩ := Joins.ownsRow_form O4 hl0
        cases hfm
        have hB := (O4.lt gl rfl).1
        have hP := MOwn.put (k := r) x O4 rfl hrl
        have hb5 : Below w.heap.size w4 (put4 w4 gl r x) := (Below.refl _ _).grown (grown_put4 w4 gl r x) G4.out.size (fun k e => by cases e; exact hB)
        have HP := Lib.hid hP
        have HC5 := Lib.hid (H4.out.below hg hb5)
        have HG5 := Lib.hid (grown_own G4.out hb5)
        have HS5 : Hid ((l.set r x).length ≤ 25 ∧ ∀ y ∈ l.set r x, ShortM y) := Lib.hid ⟨by rw [List.length_set]; exact hlm, fun y hy => by
          rcases List.mem_or_eq_of_mem_set hy with h | rfl
          · exact S1.out y h
          · exact hx⟩
        have f0 := O4.frozenAt (r * 4)
        have f1 := O4.frozenAt (r * 4 + 1)
        have f2 := O4.frozenAt (r * 4 + 2)
        have f3 := O4.frozenAt (r * 4 + 3)
        have hex : ∀ j, j < 4 → ∃ u, w4.cell? ⟨gl, r * 4 + j, none⟩ = some u := fun j hj => ⟨_, (O4.cellAt _ (by omega)).trans (List.getElem?_eq_getElem (by rw [mcells_length]; omega))⟩
        obtain ⟨z0, c0⟩ := hex 0 (by omega)
        obtain ⟨z1, c1⟩ := hex 1 (by omega)
        obtain ⟨z2, c2⟩ := hex 2 (by omega)
        obtain ⟨z3, c3⟩ := hex 3 (by omega)
        rw [Nat.add_zero] at c0
        clear hex O4 hP hb5 G4 H4 S1
        unfold put4 at HP HC5 HG5
        go_wp2
        go_ret
        exact ⟨_, l.set r x, rfl, HP.out, HS5.out.1, HS5.out.2, HC5.out, HG5.out⟩
      · have hl1 : l.length = 0 := by omega
        have hl2 : l = [] := List.length_eq_zero_iff.1 hl1
        subst hl2
        go_wp2
        go_ret
        exact ⟨_, [], rfl, O2.out, hlm, S1.out, H2.out, G2.out⟩

end Go.Proofs.YtgkfnmbjlfmcmaaGreatDoor
