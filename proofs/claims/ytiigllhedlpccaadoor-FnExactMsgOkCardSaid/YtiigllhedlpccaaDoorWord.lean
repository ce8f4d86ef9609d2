/- The walks of spec.l1IsWord, impl.inRanges and impl.wordOk: each says whether a text is a word, and leaves what was there. -/
import Derived.Test.YtiigllhedlpccaaDoorRows
import Derived.Test.YtiigllhedlpccaaDoorMath
import Derived.Test.YtiigllhedlpccaaDoorMem
import Derived.WalkKit
import Derived.WalkSpells
import Derived.WalkLawsBesides
import Derived.Lib.Hide
namespace Go.Proofs.YtiigllhedlpccaaDoor
open Go.RowKit

theorem isWord_bad {s : ByteArray} {k : Nat} (h : k < s.size) (hb : ¬ ((97 ≤ (s[k].toNat : Int) ∧ (s[k].toNat : Int) ≤ 122) ∨ (48 ≤ (s[k].toNat : Int) ∧ (s[k].toNat : Int) ≤ 57))) : isWord s = false := by
  unfold isWord; rw [lowAll_bad s k h (low_no hb)]; rfl

theorem lowAll_next {s : ByteArray} {k : Nat} (h : k < s.size) (hl : lowAll (s.data.toList.take k) = true) (hb : (97 ≤ (s[k].toNat : Int) ∧ (s[k].toNat : Int) ≤ 122) ∨ (48 ≤ (s[k].toNat : Int) ∧ (s[k].toNat : Int) ≤ 57)) : lowAll (s.data.toList.take (k + 1)) = true := by
  rw [lowAll_snoc s k h, hl, low_yes hb]; rfl

theorem isWord_end {s : ByteArray} (hl : lowAll (s.data.toList.take s.size) = true) : isWord s = (decide (1 ≤ s.size) && decide (s.size ≤ 12)) := by
  unfold isWord; rw [lowAll_full] at hl; rw [hl]; rfl

set_option maxRecDepth 100000 in
set_option maxHeartbeats 400000 in
theorem specWord_any (s : ByteArray) (w : World) (hs : s.size ≤ maxLen) :
    Calls Tryd.prog 39 #[.string s] w fun e w' => e = .returned (.bool (isWord s)) ∧ w = w' := by
  unfold maxLen at hs
  go_enter Tryd.func39, Tryd.ntmps39
  go_wp2
  go_loop [3] (fun i => ∃ k : Nat, k ≤ s.size ∧ i = .int .i64 k ∧ lowAll (s.data.toList.take k) = true) (fun i => s.size - (intOf i).toNat)
  case atStart => exact ⟨0, Nat.zero_le _, rfl, rfl⟩
  case round =>
    obtain ⟨k, hk, rfl, hl⟩ := hrel
    have HL := Lib.hid hl
    clear hl
    by_cases hlt : k < s.size
    · go_wp2
      all_goals first
        | (go_round
           case rel => exact ⟨k + 1, by omega, by go_num, lowAll_next hlt HL.out (by grind)⟩
           case measure => simp [intOf]; omega)
        | (go_ret; exact ⟨ret_bool (isWord_bad hlt (by grind)).symm, rfl⟩)
    · obtain rfl : k = s.size := by omega
      have HE := isWord_end HL.out
      clear HL
      have HF := Lib.hid HE
      clear HE
      go_wp2
      all_goals
        go_ret
        exact ⟨ret_bool (by rw [HF.out]; grind), rfl⟩

end Go.Proofs.YtiigllhedlpccaaDoor
