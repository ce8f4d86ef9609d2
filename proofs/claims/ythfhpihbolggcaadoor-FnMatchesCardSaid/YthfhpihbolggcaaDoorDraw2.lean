/- The walks of the reference's draws of chapter 2: two short texts. -/
import Derived.Test.YthfhpihbolggcaaDoorName
namespace Go.Proofs.YthfhpihbolggcaaDoor
open Go.RowKit

set_option maxHeartbeats 1600000 in
theorem drawMatches_any {a : Option Addr} {len cap : Nat} {w : World} (hlen : len ≤ 4096) (hc : CodeAt w.heap.size a len w) :
    Calls Tryd.prog 21 #[.slice a len cap] w fun e w' => ∃ f t : ByteArray, e = .returned (.tuple #[.string f, .string t]) ∧ f.size ≤ 13 ∧ t.size ≤ 13 ∧ Below w.heap.size w w' := by
  go_enter Tryd.func21, Tryd.ntmps21
  go_wp2_with fail
  refine (curNew_any a len cap w hlen hc).mono ?_
  rintro e w1 ⟨rfl, h1, b1⟩
  have H1 := Lib.hid h1
  have B1 := Lib.hid b1
  clear h1 b1 hc
  go_wp2_with fail
  refine (drawFilter_any H1.out).mono ?_
  rintro e w2 ⟨f, rfl, hf, h2, g2⟩
  have hf2 : f.size ≤ 13 := by omega
  have H2 := Lib.hid h2
  have B2 := Lib.hid (B1.out.grown g2 B1.out.size (fun k hk => by cases hk; exact Nat.le_refl _))
  clear h2 g2 H1 B1 hf
  go_wp2_with fail
  refine (curOnce_any 8 (by omega) H2.out).mono ?_
  rintro e w3 ⟨b3, rfl, h3, g3⟩
  have H3 := Lib.hid h3
  have B3 := Lib.hid (B2.out.grown g3 B2.out.size (fun k hk => by cases hk; exact Nat.le_refl _))
  clear h3 g3 H2 B2
  cases b3
  · go_wp2_with fail
    refine (curOnce_any 8 (by omega) H3.out).mono ?_
    rintro e w4 ⟨b4, rfl, h4, g4⟩
    have H4 := Lib.hid h4
    have B4 := Lib.hid (B3.out.grown g4 B3.out.size (fun k hk => by cases hk; exact Nat.le_refl _))
    clear h4 g4 H3 B3
    cases b4
    · go_wp2_with fail
      refine (drawTopic_any H4.out).mono ?_
      rintro e w5 ⟨t, rfl, ht, h5, g5⟩
      have B5 := Lib.hid (B4.out.grown g5 B4.out.size (fun k hk => by cases hk; exact Nat.le_refl _))
      clear h5 g5 H4 B4
      go_wp2
      go_ret2
      exact ⟨f, t, rfl, hf2, by omega, B5.out⟩
    · go_wp2_with fail
      refine (drawName_any H4.out).mono ?_
      rintro e w5 ⟨t, rfl, ht, h5, g5⟩
      have B5 := Lib.hid (B4.out.grown g5 B4.out.size (fun k hk => by cases hk; exact Nat.le_refl _))
      clear h5 g5 H4 B4
      go_wp2
      go_ret2
      exact ⟨f, t, rfl, hf2, by omega, B5.out⟩
  · go_wp2_with fail
    refine (drawName_any H3.out).mono ?_
    rintro e w3b ⟨f2, rfl, hf, h3b, g3b⟩
    have H3b := Lib.hid h3b
    have B3b := Lib.hid (B3.out.grown g3b B3.out.size (fun k hk => by cases hk; exact Nat.le_refl _))
    clear h3b g3b H3 B3
    go_wp2_with fail
    refine (curOnce_any 8 (by omega) H3b.out).mono ?_
    rintro e w4 ⟨b4, rfl, h4, g4⟩
    have H4 := Lib.hid h4
    have B4 := Lib.hid (B3b.out.grown g4 B3b.out.size (fun k hk => by cases hk; exact Nat.le_refl _))
    clear h4 g4 H3b B3b
    cases b4
    · go_wp2_with fail
      refine (drawTopic_any H4.out).mono ?_
      rintro e w5 ⟨t, rfl, ht, h5, g5⟩
      have B5 := Lib.hid (B4.out.grown g5 B4.out.size (fun k hk => by cases hk; exact Nat.le_refl _))
      clear h5 g5 H4 B4
      go_wp2
      go_ret2
      exact ⟨f2, t, rfl, hf, by omega, B5.out⟩
    · go_wp2_with fail
      refine (drawName_any H4.out).mono ?_
      rintro e w5 ⟨t, rfl, ht, h5, g5⟩
      have B5 := Lib.hid (B4.out.grown g5 B4.out.size (fun k hk => by cases hk; exact Nat.le_refl _))
      clear h5 g5 H4 B4
      go_wp2
      go_ret2
      exact ⟨f2, t, rfl, hf, by omega, B5.out⟩

set_option maxHeartbeats 1600000 in
theorem drawCovers_any {a : Option Addr} {len cap : Nat} {w : World} (hlen : len ≤ 4096) (hc : CodeAt w.heap.size a len w) :
    Calls Tryd.prog 22 #[.slice a len cap] w fun e w' => ∃ f t : ByteArray, e = .returned (.tuple #[.string f, .string t]) ∧ f.size ≤ 13 ∧ t.size ≤ 13 ∧ Below w.heap.size w w' := by
  go_enter Tryd.func22, Tryd.ntmps22
  go_wp2_with fail
  refine (curNew_any a len cap w hlen hc).mono ?_
  rintro e w1 ⟨rfl, h1, b1⟩
  have H1 := Lib.hid h1
  have B1 := Lib.hid b1
  clear h1 b1 hc
  go_wp2_with fail
  refine (drawFilter_any H1.out).mono ?_
  rintro e w2 ⟨f, rfl, hf, h2, g2⟩
  have hf2 : f.size ≤ 13 := by omega
  have H2 := Lib.hid h2
  have B2 := Lib.hid (B1.out.grown g2 B1.out.size (fun k hk => by cases hk; exact Nat.le_refl _))
  clear h2 g2 H1 B1 hf
  go_wp2_with fail
  refine (curOnce_any 8 (by omega) H2.out).mono ?_
  rintro e w3 ⟨b3, rfl, h3, g3⟩
  have H3 := Lib.hid h3
  have B3 := Lib.hid (B2.out.grown g3 B2.out.size (fun k hk => by cases hk; exact Nat.le_refl _))
  clear h3 g3 H2 B2
  cases b3
  · go_wp2_with fail
    refine (drawFilter_any H3.out).mono ?_
    rintro e w5 ⟨t, rfl, ht, h5, g5⟩
    have B5 := Lib.hid (B3.out.grown g5 B3.out.size (fun k hk => by cases hk; exact Nat.le_refl _))
    clear h5 g5 H3 B3
    go_wp2
    go_ret2
    exact ⟨f, t, rfl, hf2, by omega, B5.out⟩
  · go_wp2_with fail
    refine (drawName_any H3.out).mono ?_
    rintro e w5 ⟨t, rfl, ht, h5, g5⟩
    have B5 := Lib.hid (B3.out.grown g5 B3.out.size (fun k hk => by cases hk; exact Nat.le_refl _))
    clear h5 g5 H3 B3
    go_wp2
    go_ret2
    exact ⟨t, f, rfl, by omega, hf2, B5.out⟩

end Go.Proofs.YthfhpihbolggcaaDoor
