/- The walk of the reference's draw for the law of KeptFor. -/
import Derived.Test.YtgkfnmbjlfmcmaaGreatDoorZDrawKA
set_option linter.unusedSimpArgs false
set_option linter.unusedVariables false
namespace Go.Proofs.YtgkfnmbjlfmcmaaGreatDoor
open Go.RowKit

set_option maxRecDepth 100000 in
set_option maxHeartbeats 3200000 in
theorem drawKeptFor_any {a : Option Addr} {len cap : Nat} {w : World} (hlen : len ≤ 4096) (hc : CodeAt w.heap.size a len w) :
    Calls Tryz.prog 8 #[.slice a len cap] w fun e w' => ∃ u l, ∃ f : ByteArray, e = .returned (.tuple #[u, .string f]) ∧ MOwn w' w.heap.size u l ∧ l.length ≤ 25 ∧ (∀ x ∈ l, ShortM x) ∧ f.size ≤ 13 ∧ Below w.heap.size w w' := by
  go_enter Tryz.func8, Tryz.ntmps8
  go_wp2_with fail
  refine (curNew_any a len cap w hlen hc).mono ?_
  rintro e w1 ⟨rfl, h1, b1⟩
  have hg : w.heap.size < w1.heap.size := h1.lt
  have hsz : w.heap.size ≤ w1.heap.size := b1.size
  have H1 := Lib.hid h1
  have B1 := Lib.hid b1
  clear h1 b1 hc
  go_wp2_with fail
  refine (draw6A_any H1.out).mono ?_
  rintro e w2 ⟨u, l, rfl, ho, hlm, hs, h2, g2⟩
  obtain ⟨xa, xc, hxu⟩ := own_slice ho
  subst hxu
  have O2 := Lib.hid ho
  have S2 := Lib.hid hs
  have H2 := Lib.hid h2
  have B2 := Lib.hid (B1.out.grown g2 B1.out.size (fun k e => by cases e; omega))
  clear h2 g2 ho H1 B1 hs
  go_wp2_with fail
  refine (curOnce_any 10 (by omega) H2.out).mono ?_
  rintro e w3 ⟨b, rfl, h3, g3⟩
  have H3 := Lib.hid h3
  have O3 : Hid (MOwn w3 w1.heap.size (.slice xa l.length xc) l) := Lib.hid (own_thrown O2.out hg g3)
  have B3 := Lib.hid (B2.out.grown g3 B2.out.size (fun k e => by cases e; omega))
  clear h3 g3 H2 O2 B2
  cases b
  · go_wp2_with fail
    refine (drawFilter_any H3.out).mono ?_
    rintro e w4 ⟨f, rfl, hf, h4, g4⟩
    have O4 : Hid (MOwn w4 w1.heap.size (.slice xa l.length xc) l) := Lib.hid (own_thrown O3.out hg g4)
    have B4 := Lib.hid (B3.out.grown g4 B3.out.size (fun k e => by cases e; omega))
    clear h4 g4 H3 O3 B3
    go_wp2
    go_ret2
    exact ⟨_, l, f, rfl, own_mono O4.out hsz, hlm, S2.out, by omega, B4.out⟩
  · go_wp2_with fail
    refine (drawName_any H3.out).mono ?_
    rintro e w4 ⟨f, rfl, hf, h4, g4⟩
    have O4 : Hid (MOwn w4 w1.heap.size (.slice xa l.length xc) l) := Lib.hid (own_thrown O3.out hg g4)
    have B4 := Lib.hid (B3.out.grown g4 B3.out.size (fun k e => by cases e; omega))
    clear h4 g4 H3 O3 B3
    go_wp2
    go_ret2
    exact ⟨_, l, f, rfl, own_mono O4.out hsz, hlm, S2.out, by omega, B4.out⟩

end Go.Proofs.YtgkfnmbjlfmcmaaGreatDoor
