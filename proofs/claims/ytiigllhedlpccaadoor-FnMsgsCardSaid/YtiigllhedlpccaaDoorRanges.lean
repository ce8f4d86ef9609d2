/- The walks of impl.inRanges and impl.wordOk: whether a text is a word; what was there stays. -/
import Derived.Test.YtiigllhedlpccaaDoorWord
import Derived.Lib.OthersKept
namespace Go.Proofs.YtiigllhedlpccaaDoor
open Go.RowKit

/-- What the ranges a to z and 0 to 9 hold of a rune. -/
def lowR (r : Int) : Bool := (decide (97 ≤ r) && decide (r ≤ 122)) || (decide (48 ≤ r) && decide (r ≤ 57))

set_option maxRecDepth 100000 in
set_option maxHeartbeats 400000 in
theorem inRanges_any0 (r : Int) (b : Nat) (w : World) (hb : b < w.heap.size)
    (hc0 : w.cell? ⟨b, 0, none⟩ = some (.int .i32 97)) (hc1 : w.cell? ⟨b, 1, none⟩ = some (.int .i32 122))
    (hc2 : w.cell? ⟨b, 2, none⟩ = some (.int .i32 48)) (hc3 : w.cell? ⟨b, 3, none⟩ = some (.int .i32 57)) :
    Calls Tryd.prog 50 #[.int .i32 r, .slice (some ⟨b, 0, none⟩) 2 2] w fun e w' => e = .returned (.bool (lowR r)) ∧ Below w.heap.size w w' := by
  go_enter Tryd.func50, Tryd.ntmps50
  go_wp2
  refine wp_loop_rounds 3 ?_
  rw [rounds_succ]
  go_wp2
  · go_ret
    exact ⟨ret_bool (by unfold lowR; grind), (Below.refl _ _).alloc (Nat.le_refl _) _⟩
  all_goals
    rw [rounds_succ]
    go_wp2
    all_goals first
      | (go_ret; exact ⟨ret_bool (by unfold lowR; grind), ((Below.refl _ _).alloc (Nat.le_refl _) _).alloc (by simp) _⟩)
      | (rw [rounds_succ]; go_wp2; go_ret; exact ⟨ret_bool (by unfold lowR; grind), ((Below.refl _ _).alloc (Nat.le_refl _) _).alloc (by simp) _⟩)

theorem inRanges_any (r : Int) (v : Bool) (H : Hid (lowR r = v)) (w : World) :
    Calls Tryd.prog 50 #[.int .i32 r, .slice (some ⟨w.heap.size, 0, none⟩) 2 2] (w.alloc (.cells #[.int .i32 97, .int .i32 122, .int .i32 48, .int .i32 57] 78)) fun e w' => e = .returned (.bool v) ∧ Below (w.heap.size + 1) (w.alloc (.cells #[.int .i32 97, .int .i32 122, .int .i32 48, .int .i32 57] 78)) w' := by
  have hc : ∀ k, (w.alloc (.cells #[.int .i32 97, .int .i32 122, .int .i32 48, .int .i32 57] 78)).cell? ⟨w.heap.size, k, none⟩ = (#[.int .i32 97, .int .i32 122, .int .i32 48, .int .i32 57] : Array Value)[k]? := fun k => by rw [World.cell?_alloc_at _ _ _ _ rfl]
  refine (inRanges_any0 r w.heap.size _ (by simp) (hc 0) (hc 1) (hc 2) (hc 3)).mono ?_
  rintro e w' ⟨rfl, hb⟩
  exact ⟨ret_bool H.out, by simpa using hb⟩

theorem isWord_low {s : ByteArray} {k : Nat} (h : k < s.size) (hb : low s[k] = false) : isWord s = false := by
  unfold isWord; rw [lowAll_bad s k h hb]; rfl

theorem lowR_low {c : UInt8} : lowR (c.toNat : Int) = low c := by
  unfold lowR low; grind

theorem lowR_high {r : Nat} (h : 128 ≤ r) : lowR (r : Int) = false := by
  unfold lowR; grind

theorem decode_bad (s : ByteArray) (pos : Nat) (h : pos < s.size) (hb : low s[pos] = false) : lowR ((Utf8.decode s pos).1 : Int) = false := by
  by_cases ha : (s[pos]'h).toNat < 128
  · rw [decode_ascii s pos h ha]; show lowR ((s[pos].toNat : Nat) : Int) = false; rw [lowR_low, hb]
  · exact lowR_high (decode_high s pos h (by omega)).1

theorem low_ascii {c : UInt8} (h : low c = true) : c.toNat < 128 := by
  unfold low at h; grind

set_option maxRecDepth 100000 in
set_option maxHeartbeats 400000 in
theorem wordOk_any (s : ByteArray) (w : World) (hs : s.size ≤ maxLen) :
    Calls Tryd.prog 47 #[.string s] w fun e w' => e = .returned (.bool (isWord s)) ∧ Below w.heap.size w w' := by
  unfold maxLen at hs
  by_cases h1 : s.size < 1
  · go_enter Tryd.func47, Tryd.ntmps47
    go_wp2
    go_ret
    exact ⟨ret_bool (by unfold isWord; grind), Below.refl _ _⟩
  by_cases h2 : 12 < s.size
  · go_enter Tryd.func47, Tryd.ntmps47
    go_wp2
    go_ret
    exact ⟨ret_bool (by unfold isWord; grind), Below.refl _ _⟩
  go_enter Tryd.func47, Tryd.ntmps47
  go_wp2
  go_loopw [4] (fun _ wr => ∃ pos, wr.heap[w.heap.size]? = some (.stringIter s pos) ∧ pos ≤ s.size ∧ lowAll (s.data.toList.take pos) = true ∧ Below w.heap.size w wr) (fun _ wr => s.size - wr.iterPos w.heap.size)
  case atStart => exact ⟨0, World.iter_heap _ _ _, Nat.zero_le _, rfl, (Below.refl _ _).alloc (Nat.le_refl _) _⟩
  case round =>
    obtain ⟨pos, hit, hp, hl, hbl⟩ := hrel
    have hwlt : w.heap.size < wr.heap.size := (Array.getElem?_eq_some_iff.1 hit).1
    have HL := Lib.hid hl
    have HI := Lib.hid hit
    clear hl hit
    by_cases hlt : pos < s.size
    · cases hlo : low s[pos]
      · obtain ⟨w2, hw2⟩ : ∃ w2, wr.iterAt w.heap.size s (pos + (Utf8.decode s pos).2) = w2 := ⟨_, rfl⟩
        have hnx : ∀ ty, (Instr.next (.pointer (some ⟨w.heap.size, 0, none⟩)) true ty).run Tryd.prog wr = .ok (.tuple #[.bool true, .int .i64 pos, .int .i32 (Utf8.decode s pos).1]) w2 := fun ty => by rw [← hw2]; exact Lib.run_next_any_at wr _ s pos ty HI.out hlt
        obtain ⟨r, hr⟩ : ∃ r : Int, ((Utf8.decode s pos).1 : Int) = r := ⟨_, rfl⟩
        rw [hr] at hnx
        have hbad := decode_bad s pos hlt hlo
        rw [hr] at hbad
        have HB := Lib.hid hbad
        have HW := Lib.hid (show Below w.heap.size w w2 by rw [← hw2]; exact Lib.below_iterAt hbl (Nat.le_refl _) _ _)
        have hsz : w.heap.size < w2.heap.size := by rw [← hw2, Lib.iterAt_size]; exact hwlt
        have HE := Lib.hid (isWord_low hlt hlo)
        clear hw2 hbl hr hbad hlo
        go_wp2_with (go_at_call 50; refine (inRanges_any r false HB w2).mono ?_; rintro e w' ⟨rfl, hb2⟩)
        go_ret
        exact ⟨ret_bool HE.out.symm, (HW.out.alloc (Nat.le_of_lt hsz) _).trans (hb2.mono (by omega))⟩
      · obtain ⟨w2, hw2⟩ : ∃ w2, wr.iterAt w.heap.size s (pos + 1) = w2 := ⟨_, rfl⟩
        have hnx : ∀ ty, (Instr.next (.pointer (some ⟨w.heap.size, 0, none⟩)) true ty).run Tryd.prog wr = .ok (.tuple #[.bool true, .int .i64 pos, .int .i32 (s[pos].toNat : Int)]) w2 := fun ty => by rw [← hw2]; exact Lib.run_next_ascii_at wr _ s pos ty HI.out hlt (low_ascii hlo)
        have HB : Hid (lowR (s[pos].toNat : Int) = true) := Lib.hid (by rw [lowR_low]; exact hlo)
        have HN : Hid (lowAll (s.data.toList.take (pos + 1)) = true) := Lib.hid (by rw [lowAll_snoc s pos hlt, HL.out, hlo]; rfl)
        obtain ⟨r, hr⟩ : ∃ r : Int, (s[pos].toNat : Int) = r := ⟨_, rfl⟩
        rw [hr] at hnx HB
        have HW := Lib.hid (show Below w.heap.size w w2 by rw [← hw2]; exact Lib.below_iterAt hbl (Nat.le_refl _) _ _)
        have HJ : Hid (w2.heap[w.heap.size]? = some (.stringIter s (pos + 1))) := Lib.hid (by rw [← hw2]; exact Lib.iterAt_heap _ _ _ _ _ HI.out)
        have hsz : w.heap.size < w2.heap.size := by rw [← hw2, Lib.iterAt_size]; exact hwlt
        clear hw2 hbl hr hlo
        go_wp2_with (go_at_call 50; refine (inRanges_any r true HB w2).mono ?_; rintro e w' ⟨rfl, hb2⟩)
        go_roundw
        case rel =>
          refine ⟨pos + 1, ?_, by omega, HN.out, (HW.out.alloc (Nat.le_of_lt hsz) _).trans (hb2.mono (by omega))⟩
          rw [hb2.block _ (by omega), Below.heap_alloc _ _ _ hsz]; exact HJ.out
        case measure =>
          have e1 : wr.iterPos w.heap.size = pos := iterPos_of HI.out
          have e2 : w'.iterPos w.heap.size = pos + 1 := iterPos_of (by rw [hb2.block _ (by omega), Below.heap_alloc _ _ _ hsz]; exact HJ.out)
          rw [e1, e2]; omega
    · have hnx : ∀ ty, (Instr.next (.pointer (some ⟨w.heap.size, 0, none⟩)) true ty).run Tryd.prog wr = .ok (.tuple #[.bool false]) wr := fun ty => Lib.run_next_end_at wr _ s pos ty HI.out hlt
      obtain rfl : pos = s.size := by omega
      have HE := Lib.hid (isWord_end HL.out)
      have HW := Lib.hid hbl
      clear hbl HL
      go_wp2
      go_ret
      exact ⟨ret_bool (by rw [HE.out]; grind), HW.out⟩

end Go.Proofs.YtiigllhedlpccaaDoor
