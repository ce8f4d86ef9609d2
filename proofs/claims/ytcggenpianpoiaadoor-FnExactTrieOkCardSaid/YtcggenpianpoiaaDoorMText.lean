/- The walk of the text that the exact laws lay in as a mark. -/
import Derived.Test.YtcggenpianpoiaaDoorBase
import Derived.Test.YtcggenpianpoiaaDoorBytes
import Derived.Test.YtcggenpianpoiaaDoorMem
import Derived.BigQuiet
import Derived.Deep.QuietTactic
import Derived.Deep.RegionHeld3
namespace Go.Proofs.YtcggenpianpoiaaDoor
open Go.RowKit

/-- The last digit of k, as a byte. -/
def dg (k : Nat) : UInt8 := (48 + k % 10).toUInt8

/-- The digits of k ahead of 'out'. -/
def mdig : Nat → Nat → List UInt8 → List UInt8
  | 0, _, out => out
  | f + 1, k, out => if k = 0 then out else mdig f (k / 10) (dg k :: out)

/-- The text of mark k. -/
def mtext (k : Nat) : ByteArray := ⟨(109 :: mdig k k []).toArray⟩

theorem cons_bytes (x : UInt8) (o : List UInt8) : (ByteArray.mk [x].toArray ++ ByteArray.mk o.toArray) = ByteArray.mk (x :: o).toArray := by
  rw [ByteArray.mk_append_mk]; rfl

theorem mdig_zero (f : Nat) (o : List UInt8) : mdig f 0 o = o := by cases f <;> simp [mdig]

theorem mdig_step {i f : Nat} (o : List UInt8) (hi : 0 < i) (hf : i ≤ f) : mdig (f - 1) (i / 10) (dg i :: o) = mdig f i o := by
  obtain ⟨g, rfl⟩ : ∃ g, f = g + 1 := ⟨f - 1, by omega⟩
  rw [mdig, if_neg (by omega)]; rfl

set_option maxRecDepth 100000 in
set_option maxHeartbeats 400000 in
theorem markText_any (k : Nat) (w : World) (h1 : 1 ≤ k) (h2 : k ≤ 40000000) :
    Calls Tryd.prog 57 #[.int .i64 k] w fun e w' => e = .returned (.string (mtext k)) ∧ Below w.heap.size w w' := by
  go_enter Tryd.func57, Tryd.ntmps57
  go_wp2
  go_loopw [0, 3] (fun j out wr => ∃ (i f : Nat) (o : List UInt8), j = .int .i64 i ∧ out = .string ⟨o.toArray⟩ ∧ i ≤ f ∧ o.length + i ≤ k ∧ Hid (mdig f i o = mdig k k []) ∧ Hid (Below w.heap.size w wr)) (fun j _ _ => (intOf j).toNat)
  case atStart => exact ⟨k, k, [], rfl, rfl, Nat.le_refl _, by simp, rfl, Below.refl _ _⟩
  case round =>
    obtain ⟨i, f, o, rfl, rfl, hif, hlen, HD, HB⟩ := hrel
    by_cases hi : 0 < i
    · have hcv := conv_one (P := Tryd.prog) wr (src := 22) (dst := 9) (48 + i % 10) (by omega) Tryd.underlying22 Tryd.underlying5 Tryd.underlying9
      rw [show ((48 + i % 10 : Nat) : Int) = 48 + (i : Int) % 10 by omega] at hcv
      have hcv2 : ∀ x : UInt8, (48 + i % 10).toUInt8 = x → (convert 22 9 (.slice (some ⟨wr.heap.size, 0, none⟩) 1 1)).run Tryd.prog (wr.alloc (.cells #[.int .u8 (48 + (i : Int) % 10)] 5)) = .ok (.string ⟨[x].toArray⟩) (wr.alloc (.cells #[.int .u8 (48 + (i : Int) % 10)] 5)) := fun x hx => by rw [← hx]; exact hcv
      have hcv3 := hcv2 (dg i) rfl
      have HN : Hid (mdig (f - 1) (i / 10) (dg i :: o) = mdig k k []) := Lib.hid (by rw [mdig_step o hi hif]; exact HD.out)
      have H3 := Lib.hid hcv3
      clear hcv hcv2 HD hcv3
      obtain ⟨x, hx⟩ : ∃ x, dg i = x := ⟨_, rfl⟩
      rw [hx] at H3 HN
      clear hx
      have h3 := H3.out
      clear H3
      go_wp2
      go_roundw
      case rel => exact ⟨i / 10, f - 1, x :: o, congrArg (Value.int .i64) (by omega), congrArg Value.string (cons_bytes x o), by omega, by simp only [List.length_cons]; omega, HN, HB.out.alloc HB.out.size _⟩
      case measure => simp only [intOf]; omega
    · obtain rfl : i = 0 := by omega
      have HE : Hid (o = mdig k k []) := Lib.hid (by rw [← HD.out, mdig_zero])
      clear HD
      go_wp2
      go_ret
      exact ⟨by rw [mtext, ← HE.out]; exact congrArg (fun x => Ending.returned (Value.string x)) (cons_bytes 109 o), HB.out⟩

end Go.Proofs.YtcggenpianpoiaaDoor
