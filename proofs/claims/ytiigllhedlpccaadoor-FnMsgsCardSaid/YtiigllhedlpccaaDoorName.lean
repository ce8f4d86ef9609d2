/- The walks of the reference's drawn names. -/
import Derived.Test.YtiigllhedlpccaaDoorBend
namespace Go.Proofs.YtiigllhedlpccaaDoor
open Go.RowKit

theorem pick_name6 {r : Nat} (h : r < 6) : ∃ x : ByteArray, (#[Value.string ⟨#[]⟩, Value.string ⟨#[97, 47, 98, 47, 99, 47, 97, 47, 98, 47, 99]⟩, Value.string ⟨#[97, 47, 98, 47, 99, 47, 97, 47, 98, 47, 99, 47, 35]⟩, Value.string ⟨#[97, 98, 99, 100, 101, 102, 103, 104, 105, 106, 107, 108]⟩, Value.string ⟨#[97, 98, 99, 100, 101, 102, 103, 104, 105, 106, 107, 108, 109]⟩, Value.string ⟨#[97, 47, 47, 98]⟩] : Array Value)[r]? = some (.string x) ∧ x.size ≤ 13 := by
  match r, h with
  | 0, _ => exact ⟨_, rfl, by decide⟩
  | 1, _ => exact ⟨_, rfl, by decide⟩
  | 2, _ => exact ⟨_, rfl, by decide⟩
  | 3, _ => exact ⟨_, rfl, by decide⟩
  | 4, _ => exact ⟨_, rfl, by decide⟩
  | 5, _ => exact ⟨_, rfl, by decide⟩

set_option maxRecDepth 100000 in
set_option maxHeartbeats 1600000 in
theorem drawName_any {g : Nat} {a : Option Addr} {len cap : Nat} {w : World} (h : Curs g a len cap w) :
    Calls Tryd.prog 33 #[.pointer (some ⟨g, 0, none⟩)] w fun e w' => ∃ s : ByteArray, e = .returned (.string s) ∧ s.size ≤ 13 ∧ Curs g a len cap w' ∧ w.grownBy w' (some g) := by
  have H0 := Lib.hid h
  clear h
  go_enter Tryd.func33, Tryd.ntmps33
  go_wp2_with fail
  refine (drawFilter_any H0.out).mono ?_
  rintro e w1 ⟨s, rfl, hs, h1, g1⟩
  have H1 := Lib.hid h1
  have G1 := Lib.hid g1
  clear h1 g1 H0
  go_wp2_with fail
  refine (curOnce_any 2 (by omega) H1.out).mono ?_
  rintro e w2 ⟨b, rfl, h2, g2⟩
  have H2 := Lib.hid h2
  have G2 := Lib.hid (grown_trans G1.out g2)
  clear h2 g2 H1 G1
  cases b
  · go_wp2_with fail
    refine (curOnce_any 5 (by omega) H2.out).mono ?_
    rintro e w4 ⟨b4, rfl, h4, g4⟩
    have H4 := Lib.hid h4
    have G4 := Lib.hid (grown_trans G2.out g4)
    clear h4 g4
    cases b4
    · go_wp2_with fail
      refine (curOnce_any 20 (by omega) H4.out).mono ?_
      rintro e w6 ⟨b6, rfl, h6, g6⟩
      have H6 := Lib.hid h6
      have G6 := Lib.hid (grown_trans G4.out g6)
      clear h6 g6
      cases b6
      · go_wp2
        go_ret
        exact ⟨_, rfl, by omega, H6.out, G6.out⟩
      · have hg6 := H6.out.lt
        go_wp2_with fail
        refine (curBelow_any 6 (by omega) (H6.out.alloc _)).mono ?_
        rintro e w7 ⟨r, hr, rfl, h7, g7⟩
        have hr6 : r < 6 := below_lt (by omega) hr
        obtain ⟨y, hy, hys⟩ := pick_name6 hr6
        have hcell := (pick_lit g7 hg6).trans hy
        have H7 := Lib.hid h7
        have G7 := Lib.hid (grown_trans G6.out (grown_trans (grown_alloc w6 _ (some g)) g7))
        clear h7 g7 hy hr
        go_wp2
        go_ret
        exact ⟨_, rfl, by omega, H7.out, G7.out⟩
    · go_wp2_with fail
      refine (bend_any s _ (by omega) (by decide) (by decide) H4.out).mono ?_
      rintro e w5 ⟨s, rfl, hs, h5, g5⟩
      have H4 := Lib.hid h5
      have G4 := Lib.hid (grown_trans G4.out g5)
      clear h5 g5
      go_wp2_with fail
      refine (curOnce_any 20 (by omega) H4.out).mono ?_
      rintro e w6 ⟨b6, rfl, h6, g6⟩
      have H6 := Lib.hid h6
      have G6 := Lib.hid (grown_trans G4.out g6)
      clear h6 g6
      cases b6
      · go_wp2
        go_ret
        exact ⟨_, rfl, by omega, H6.out, G6.out⟩
      · have hg6 := H6.out.lt
        go_wp2_with fail
        refine (curBelow_any 6 (by omega) (H6.out.alloc _)).mono ?_
        rintro e w7 ⟨r, hr, rfl, h7, g7⟩
        have hr6 : r < 6 := below_lt (by omega) hr
        obtain ⟨y, hy, hys⟩ := pick_name6 hr6
        have hcell := (pick_lit g7 hg6).trans hy
        have H7 := Lib.hid h7
        have G7 := Lib.hid (grown_trans G6.out (grown_trans (grown_alloc w6 _ (some g)) g7))
        clear h7 g7 hy hr
        go_wp2
        go_ret
        exact ⟨_, rfl, by omega, H7.out, G7.out⟩
  · go_wp2_with fail
    refine (drawTopic_any H2.out).mono ?_
    rintro e w3 ⟨s, rfl, hs, h3, g3⟩
    have H2 := Lib.hid h3
    have G2 := Lib.hid (grown_trans G2.out g3)
    clear h3 g3
    go_wp2_with fail
    refine (curOnce_any 5 (by omega) H2.out).mono ?_
    rintro e w4 ⟨b4, rfl, h4, g4⟩
    have H4 := Lib.hid h4
    have G4 := Lib.hid (grown_trans G2.out g4)
    clear h4 g4
    cases b4
    · go_wp2_with fail
      refine (curOnce_any 20 (by omega) H4.out).mono ?_
      rintro e w6 ⟨b6, rfl, h6, g6⟩
      have H6 := Lib.hid h6
      have G6 := Lib.hid (grown_trans G4.out g6)
      clear h6 g6
      cases b6
      · go_wp2
        go_ret
        exact ⟨_, rfl, by omega, H6.out, G6.out⟩
      · have hg6 := H6.out.lt
        go_wp2_with fail
        refine (curBelow_any 6 (by omega) (H6.out.alloc _)).mono ?_
        rintro e w7 ⟨r, hr, rfl, h7, g7⟩
        have hr6 : r < 6 := below_lt (by omega) hr
        obtain ⟨y, hy, hys⟩ := pick_name6 hr6
        have hcell := (pick_lit g7 hg6).trans hy
        have H7 := Lib.hid h7
        have G7 := Lib.hid (grown_trans G6.out (grown_trans (grown_alloc w6 _ (some g)) g7))
        clear h7 g7 hy hr
        go_wp2
        go_ret
        exact ⟨_, rfl, by omega, H7.out, G7.out⟩
    · go_wp2_with fail
      refine (bend_any s _ (by omega) (by decide) (by decide) H4.out).mono ?_
      rintro e w5 ⟨s, rfl, hs, h5, g5⟩
      have H4 := Lib.hid h5
      have G4 := Lib.hid (grown_trans G4.out g5)
      clear h5 g5
      go_wp2_with fail
      refine (curOnce_any 20 (by omega) H4.out).mono ?_
      rintro e w6 ⟨b6, rfl, h6, g6⟩
      have H6 := Lib.hid h6
      have G6 := Lib.hid (grown_trans G4.out g6)
      clear h6 g6
      cases b6
      · go_wp2
        go_ret
        exact ⟨_, rfl, by omega, H6.out, G6.out⟩
      · have hg6 := H6.out.lt
        go_wp2_with fail
        refine (curBelow_any 6 (by omega) (H6.out.alloc _)).mono ?_
        rintro e w7 ⟨r, hr, rfl, h7, g7⟩
        have hr6 : r < 6 := below_lt (by omega) hr
        obtain ⟨y, hy, hys⟩ := pick_name6 hr6
        have hcell := (pick_lit g7 hg6).trans hy
        have H7 := Lib.hid h7
        have G7 := Lib.hid (grown_trans G6.out (grown_trans (grown_alloc w6 _ (some g)) g7))
        clear h7 g7 hy hr
        go_wp2
        go_ret
        exact ⟨_, rfl, by omega, H7.out, G7.out⟩

end Go.Proofs.YtiigllhedlpccaaDoor
