/- The walks of the reference's drawn texts: short ones; of what was there nothing turns but the cursor's own block. -/
import Derived.Test.YtiigllhedlpccaaDoorCur
namespace Go.Proofs.YtiigllhedlpccaaDoor
open Go.RowKit

theorem pick_small6 {r : Nat} (h : r < 6) : ∃ x : ByteArray, (#[Value.string ⟨#[97]⟩, Value.string ⟨#[98]⟩, Value.string ⟨#[99]⟩, Value.string ⟨#[120, 49]⟩, Value.string ⟨#[43]⟩, Value.string ⟨#[43]⟩] : Array Value)[r]? = some (.string x) ∧ x.size ≤ 2 := by
  match r, h with
  | 0, _ => exact ⟨_, rfl, by decide⟩
  | 1, _ => exact ⟨_, rfl, by decide⟩
  | 2, _ => exact ⟨_, rfl, by decide⟩
  | 3, _ => exact ⟨_, rfl, by decide⟩
  | 4, _ => exact ⟨_, rfl, by decide⟩
  | 5, _ => exact ⟨_, rfl, by decide⟩

theorem pick_small4 {r : Nat} (h : r < 4) : ∃ x : ByteArray, (#[Value.string ⟨#[97]⟩, Value.string ⟨#[98]⟩, Value.string ⟨#[99]⟩, Value.string ⟨#[120, 49]⟩] : Array Value)[r]? = some (.string x) ∧ x.size ≤ 2 := by
  match r, h with
  | 0, _ => exact ⟨_, rfl, by decide⟩
  | 1, _ => exact ⟨_, rfl, by decide⟩
  | 2, _ => exact ⟨_, rfl, by decide⟩
  | 3, _ => exact ⟨_, rfl, by decide⟩

theorem size_app0 (s y : ByteArray) : (s ++ y).size = s.size + y.size := ByteArray.size_append
theorem size_slash : (⟨#[47]⟩ : ByteArray).size = 1 := rfl
theorem size_hash : (⟨#[47, 35]⟩ : ByteArray).size = 2 := rfl

set_option maxRecDepth 100000 in
set_option maxHeartbeats 1600000 in
theorem drawFilter_any {g : Nat} {a : Option Addr} {len cap : Nat} {w : World} (h : Curs g a len cap w) :
    Calls Tryd.prog 44 #[.pointer (some ⟨g, 0, none⟩)] w fun e w' => ∃ s : ByteArray, e = .returned (.string s) ∧ s.size ≤ 11 ∧ Curs g a len cap w' ∧ w.grownBy w' (some g) := by
  have HH := Lib.hid h
  clear h
  go_enter Tryd.func44, Tryd.ntmps44
  go_wp2_with fail
  refine (curBelow_any 3 (by omega) HH.out).mono ?_
  rintro e w1 ⟨r, hr, rfl, h1, g1⟩
  have H1 := Lib.hid h1
  have G1 := Lib.hid g1
  have hr3 : r ≤ 2 := by rcases hr with h | h <;> omega
  clear h1 g1 HH hr
  go_wp2_with fail
  go_loopw [3, 4] (fun sv nv wr => ∃ (s : ByteArray) (k : Nat), sv = .string s ∧ nv = .int .i64 k ∧ s.size + 3 * k ≤ 9 ∧ Hid (Curs g a len cap wr) ∧ Hid (w.grownBy wr (some g))) (fun _ nv _ => (intOf nv).toNat)
  case atStart => exact ⟨_, 1 + r, rfl, congrArg (Value.int .i64) (by omega), by show 0 + _ ≤ _; omega, H1, G1⟩
  case round =>
    obtain ⟨s, k, rfl, rfl, hsz, HR, HW⟩ := hrel
    clear H1 G1 hr3
    by_cases hk : 0 < k
    · have hg2 := HR.out.lt
      go_wp2_with fail
      all_goals
        refine (curBelow_any 6 (by omega) (HR.out.alloc _)).mono ?_
        rintro e w3 ⟨r3, hr3, rfl, h3, g3⟩
        obtain ⟨y, hy, hys⟩ := pick_small6 (r := r3) (by rcases hr3 with h | h <;> omega)
        have hr6 : r3 < 6 := by rcases hr3 with h | h <;> omega
        have hcell := (pick_lit g3 hg2).trans hy
        have HG3 := Lib.hid (grown_trans HW.out (grown_trans (grown_alloc wr _ (some g)) g3))
        have H3 := Lib.hid h3
        clear g3 h3 hy HR HW hr3
        go_wp2
        go_roundw
        case rel => exact ⟨_, k - 1, rfl, congrArg (Value.int .i64) (by omega), by simp only [size_app0, size_slash]; omega, H3, HG3⟩
        case measure => simp only [intOf]; omega
    · go_wp2_with fail
      refine (curBelow_any 5 (by omega) HR.out).mono ?_
      rintro e w3 ⟨r3, hr3, rfl, h3, g3⟩
      have HG3 := Lib.hid (grown_trans HW.out g3)
      have H3 := Lib.hid h3
      clear g3 h3 HR HW hr3
      go_wp2
      all_goals
        go_ret
        exact ⟨_, rfl, by first | omega | (simp only [size_app0, size_hash]; omega) | decide, H3.out, HG3.out⟩

set_option maxRecDepth 100000 in
set_option maxHeartbeats 1600000 in
theorem drawTopic_any {g : Nat} {a : Option Addr} {len cap : Nat} {w : World} (h : Curs g a len cap w) :
    Calls Tryd.prog 40 #[.pointer (some ⟨g, 0, none⟩)] w fun e w' => ∃ s : ByteArray, e = .returned (.string s) ∧ s.size ≤ 11 ∧ Curs g a len cap w' ∧ w.grownBy w' (some g) := by
  have HH := Lib.hid h
  clear h
  go_enter Tryd.func40, Tryd.ntmps40
  go_wp2_with fail
  refine (curBelow_any 3 (by omega) HH.out).mono ?_
  rintro e w1 ⟨r, hr, rfl, h1, g1⟩
  have H1 := Lib.hid h1
  have G1 := Lib.hid g1
  have hr3 : r ≤ 2 := by rcases hr with h | h <;> omega
  clear h1 g1 HH hr
  go_wp2_with fail
  go_loopw [3, 4] (fun sv nv wr => ∃ (s : ByteArray) (k : Nat), sv = .string s ∧ nv = .int .i64 k ∧ s.size + 3 * k ≤ 9 ∧ Hid (Curs g a len cap wr) ∧ Hid (w.grownBy wr (some g))) (fun _ nv _ => (intOf nv).toNat)
  case atStart => exact ⟨_, 1 + r, rfl, congrArg (Value.int .i64) (by omega), by show 0 + _ ≤ _; omega, H1, G1⟩
  case round =>
    obtain ⟨s, k, rfl, rfl, hsz, HR, HW⟩ := hrel
    clear H1 G1 hr3
    by_cases hk : 0 < k
    · have hg2 := HR.out.lt
      go_wp2_with fail
      all_goals
        refine (curBelow_any 4 (by omega) (HR.out.alloc _)).mono ?_
        rintro e w3 ⟨r3, hr3, rfl, h3, g3⟩
        obtain ⟨y, hy, hys⟩ := pick_small4 (r := r3) (by rcases hr3 with h | h <;> omega)
        have hr6 : r3 < 4 := by rcases hr3 with h | h <;> omega
        have hcell := (pick_lit g3 hg2).trans hy
        have HG3 := Lib.hid (grown_trans HW.out (grown_trans (grown_alloc wr _ (some g)) g3))
        have H3 := Lib.hid h3
        clear g3 h3 hy HR HW hr3
        go_wp2
        go_roundw
        case rel => exact ⟨_, k - 1, rfl, congrArg (Value.int .i64) (by omega), by simp only [size_app0, size_slash]; omega, H3, HG3⟩
        case measure => simp only [intOf]; omega
    · go_wp2
      go_ret
      exact ⟨_, rfl, by omega, HR.out, HW.out⟩

end Go.Proofs.YtiigllhedlpccaaDoor
