/- The walk of the reference's draw for IdsFor. -/
import Derived.Test.YtcpoodhbakkmcaaGreatDoorZDrawU
set_option linter.unusedSimpArgs false
set_option linter.unusedVariables false
namespace Go.Proofs.YtcpoodhbakkmcaaGreatDoor
open Go.RowKit

set_option maxRecDepth 100000 in
set_option maxHeartbeats 1600000 in
theorem drawIdsFor_any {a : Option Addr} {len cap : Nat} {w : World} (hlen : len ≤ 4096) (hc : CodeAt w.heap.size a len w) :
    Calls Tryz.prog 11 #[.slice a len cap] w fun e w' => ∃ u l s, e = .returned (.tuple #[u, .string s]) ∧ KnotsAt w' u l ∧ FitT 300 l ∧ s.size ≤ 300 ∧ Below w.heap.size w w' := by
  go_enter Tryz.func11, Tryz.ntmps11
  go_wp2_with fail
  refine (curNew_any a len cap w hlen hc).mono ?_
  rintro e w1 ⟨rfl, h1, b1⟩
  have H1 := Lib.hid h1
  have B1 := Lib.hid b1
  have hg := h1.lt
  clear h1 b1 hc
  go_wp2_with fail
  refine (drawTA_any H1.out).mono ?_
  rintro e w2 ⟨u, l, rfl, k2, hf, h2, g2⟩
  have H2 := Lib.hid h2
  have G2 := Lib.hid g2
  have K2 := Lib.hid k2
  have HF := Lib.hid hf
  clear h2 g2 k2 hf H1
  go_wp2_with fail
  refine (curOnce_any 10 (by omega) H2.out).mono ?_
  rintro e w4 ⟨b, rfl, h4, g4⟩
  have H4 := Lib.hid h4
  have G4 := Lib.hid (grown_trans G2.out g4)
  have K4 := Lib.hid (K2.out.thrown hg g4)
  clear h4 g4 K2 G2 H2
  cases b
  · go_wp2_with fail
    refine (drawTopic_any H4.out).mono ?_
    rintro e w5 ⟨s, rfl, hs, h5, g5⟩
    have K5 := Lib.hid (K4.out.thrown hg g5).at
    have B5 := Lib.hid (B1.out.grown (grown_trans G4.out g5) B1.out.size (fun k hk => by cases hk; exact Nat.le_refl _))
    clear h5 g5 K4 G4 H4
    go_wp2
    go_ret2
    exact ⟨_, l, s, rfl, K5.out, HF.out, by omega, B5.out⟩
  · go_wp2_with fail
    refine (drawName_any H4.out).mono ?_
    rintro e w5 ⟨s, rfl, hs, h5, g5⟩
    have K5 := Lib.hid (K4.out.thrown hg g5).at
    have B5 := Lib.hid (B1.out.grown (grown_trans G4.out g5) B1.out.size (fun k hk => by cases hk; exact Nat.le_refl _))
    clear h5 g5 K4 G4 H4
    go_wp2
    go_ret2
    exact ⟨_, l, s, rfl, K5.out, HF.out, by omega, B5.out⟩

end Go.Proofs.YtcpoodhbakkmcaaGreatDoor
