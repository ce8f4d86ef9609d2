/- The walks of the laws' texts by dice: a topic and a filter of at most three words. -/
import Derived.Test.YtiigllhedlpccaaDoorDice
namespace Go.Proofs.YtiigllhedlpccaaDoor
open Go.RowKit

theorem pick_topic1 {r : Nat} (h : r < 4) : ∃ x : ByteArray, (#[Value.string ⟨#[97]⟩, Value.string ⟨#[98]⟩, Value.string ⟨#[99]⟩, Value.string ⟨#[110, 101, 119, 115]⟩] : Array Value)[r]? = some (.string x) ∧ goodPart false x ∧ x.size ≤ 4 := by
  match r, h with
  | 0, _ => exact ⟨_, rfl, ⟨.inl (by decide), by decide⟩, by decide⟩
  | 1, _ => exact ⟨_, rfl, ⟨.inl (by decide), by decide⟩, by decide⟩
  | 2, _ => exact ⟨_, rfl, ⟨.inl (by decide), by decide⟩, by decide⟩
  | 3, _ => exact ⟨_, rfl, ⟨.inl (by decide), by decide⟩, by decide⟩

theorem pick_topic2 {r : Nat} (h : r < 3) : ∃ x : ByteArray, (#[Value.string ⟨#[97]⟩, Value.string ⟨#[98]⟩, Value.string ⟨#[55]⟩] : Array Value)[r]? = some (.string x) ∧ goodPart false x ∧ x.size ≤ 1 := by
  match r, h with
  | 0, _ => exact ⟨_, rfl, ⟨.inl (by decide), by decide⟩, by decide⟩
  | 1, _ => exact ⟨_, rfl, ⟨.inl (by decide), by decide⟩, by decide⟩
  | 2, _ => exact ⟨_, rfl, ⟨.inl (by decide), by decide⟩, by decide⟩

set_option maxRecDepth 100000 in
set_option maxHeartbeats 1600000 in
theorem topic_any {g : Nat} {a : Option Addr} {len cap : Nat} {w : World} (h : Rolls g a len cap w) :
    Calls Tryd.prog 13 #[.pointer (some ⟨g, 0, none⟩)] w fun e w' => ∃ (s : ByteArray) (n : Nat), e = .returned (.string s) ∧ n ≤ 3 ∧ NameN false s n ∧ s.size ≤ 8 ∧ Rolls g a len cap w' ∧ w.grownBy w' (some g) := by
  have hg := h.lt
  go_enter Tryd.func13, Tryd.ntmps13
  go_wp2_with fail
  refine (roll_below 4 (by omega) (by omega) (h.alloc _)).mono ?_
  rintro e w1 ⟨r, hr, rfl, h1, g1⟩
  obtain ⟨x, hx, hgood, hxs⟩ := pick_topic1 hr
  have hcell := (pick_lit g1 hg).trans hx
  have HG := Lib.hid (grown_trans (grown_alloc w _ (some g)) g1)
  have H1 := Lib.hid h1
  have HN := Lib.hid (NameN.one hgood)
  clear g1 h1 hx hgood h
  go_wp2_with fail
  refine (roll_below 3 (by omega) (by omega) H1.out).mono ?_
  rintro e w2 ⟨r2, hr2, rfl, h2, g2⟩
  have HG2 := Lib.hid (grown_trans HG.out g2)
  have H2 := Lib.hid h2
  clear g2 h2 H1 HG hcell
  go_wp2_with fail
  go_loopw [3, 4] (fun sv nv wr => ∃ (s : ByteArray) (k n : Nat), sv = .string s ∧ nv = .int .i64 k ∧ k + n ≤ 3 ∧ Hid (NameN false s n) ∧ s.size ≤ 2 + 2 * n ∧ Hid (Rolls g a len cap wr) ∧ Hid (w.grownBy wr (some g))) (fun _ nv _ => (intOf nv).toNat)
  case atStart => exact ⟨x, r2, 1, rfl, rfl, by omega, HN, by omega, H2, HG2⟩
  case round =>
    obtain ⟨s, k, n, rfl, rfl, hkn, HS, hsz, HR, HW⟩ := hrel
    clear HN H2 HG2 hxs hr2
    by_cases hk : 0 < k
    · have hg2 := HR.out.lt
      go_wp2_with fail
      refine (roll_below 3 (by omega) (by omega) (HR.out.alloc _)).mono ?_
      rintro e w3 ⟨r3, hr3, rfl, h3, g3⟩
      obtain ⟨y, hy, hgy, hys⟩ := pick_topic2 hr3
      have hcell := (pick_lit g3 hg2).trans hy
      have HG3 := Lib.hid (grown_trans HW.out (grown_trans (grown_alloc wr _ (some g)) g3))
      have H3 := Lib.hid h3
      have HN := Lib.hid (NameN.next HS.out hgy)
      clear g3 h3 hy hgy HR HW HS
      go_wp2
      go_roundw
      case rel => exact ⟨_, k - 1, n + 1, rfl, congrArg (Value.int .i64) (by omega), by omega, HN, by rw [size_app1]; omega, H3, HG3⟩
      case measure => simp only [intOf]; omega
    · go_wp2
      go_ret
      exact ⟨s, n, rfl, by omega, HS.out, by omega, HR.out, HW.out⟩

end Go.Proofs.YtiigllhedlpccaaDoor
