/- The walks of the reference's draws of what is kept. -/
import Derived.Test.YtgkfnmbjlfmcmaaGreatDoorZDraw5
import Derived.Test.YtgkfnmbjlfmcmaaGreatDoorZB2
import Derived.Test.YtgkfnmbjlfmcmaaGreatDoorZSKept
import Derived.Test.YtgkfnmbjlfmcmaaGreatDoorZB3
set_option linter.unusedSimpArgs false
set_option linter.unusedVariables false
namespace Go.Proofs.YtgkfnmbjlfmcmaaGreatDoor
open Go.RowKit

/-- A drawn keep: few, their topics short. -/
def ShortK (l : List MsgM) : Prop := l.length ≤ 24 ∧ ∀ x ∈ l, ShortM x

theorem keptM_short {l : List MsgM} {m : MsgM} (h : ShortK l) (hm : ShortM m) : ShortK (keptM l m).1 :=
  ⟨keptM_few m h.1, fun y hy => by
    rcases keptM_mem hy with h1 | h1
    · exact h.2 y h1
    · rw [h1]; exact hm⟩

set_option maxRecDepth 100000 in
set_option maxHeartbeats 3200000 in
theorem draw6_any {g : Nat} {a : Option Addr} {len cap : Nat} {w : World} (h : Curs g a len cap w) :
    Calls Tryz.prog 36 #[.pointer (some ⟨g, 0, none⟩)] w fun e w' => ∃ u l, e = .returned u ∧ MOwn w' w.heap.size u l ∧ ShortK l ∧ Curs g a len cap w' ∧ w.grownBy w' (some g) := by
  have hg := h.lt
  have HH := Lib.hid h
  clear h
  go_enter Tryz.func36, Tryz.ntmps36
  go_wp2_with fail
  have R0 : MOwn (w.alloc (.cells #[] 26)) w.heap.size (.slice (some ⟨w.heap.size, 0, none⟩) 0 0) [] := World.ownsRow_lit (base := w.heap.size) (e := 26) (size := 4) w #[] 0 (Nat.le_refl _) (by unfold maxLen; omega) rfl
  have G0 := grown_alloc w (.cells #[] 26) (some g)
  refine (curBelow_any 8 (by omega) (HH.out.alloc (.cells #[] 26))).mono ?_
  rintro e w1 ⟨r, hr, rfl, h1, g1⟩
  have hrm : r ≤ 8 := by rcases hr with h | h <;> omega
  have H1 := Lib.hid h1
  have G1 := Lib.hid (grown_trans G0 g1)
  have R1 : Hid (MOwn w1 w.heap.size (.slice (some ⟨w.heap.size, 0, none⟩) 0 0) []) := Lib.hid (own_thrown R0 hg g1)
  clear h1 g1 HH R0 G0 hr
  go_wp2_with fail
  go_loopw [3, 4, 5] (fun u q n wr => ∃ (l : List MsgM) (z : Int) (k : Nat), q = .int .i64 z ∧ n = .int .i64 k ∧ k ≤ 8 ∧ Hid (ShortK l) ∧ Hid (MOwn wr w.heap.size u l) ∧ Hid (Curs g a len cap wr) ∧ Hid (w.grownBy wr (some g))) (fun _ _ n _ => (intOf n).toNat)
  case atStart => exact ⟨[], 0, r, rfl, rfl, hrm, Lib.hid ⟨by simp, by simp⟩, R1, H1, G1⟩
  case round =>
    obtain ⟨l, z, k, rfl, rfl, hlk, HS, HO, HC, HG⟩ := hrel
    clear R1 H1 G1 hrm
    by_cases hk : 0 < k
    · go_wp2_with fail
      refine (draw4_any _ HC.out).mono ?_
      rintro e w3 ⟨x, rfl, hx, h3, g3⟩
      have H3 := Lib.hid h3
      have G3 := Lib.hid (grown_trans HG.out g3)
      have O3 : Hid (MOwn w3 w.heap.size u3 l) := Lib.hid (own_thrown HO.out hg g3)
      have hsz : w.heap.size ≤ w3.heap.size := G3.out.size
      have HX := Lib.hid hx
      clear h3 g3 HC HG HO hx
      go_wp2_with fail
      refine (specKept_any u3 l x w3 (by have := HS.out.1; omega) (fun y hy => Nat.le_trans (HS.out.2 y hy) (by decide)) (Nat.le_trans HX.out (by decide)) (own_msgs_at O3.out)).mono ?_
      rintro e w4 ⟨v4, rfl, ho4, b4⟩
      have hB4 : Below w.heap.size w3 w4 := b4.mono hsz
      have HN : Hid (MOwn w4 w.heap.size v4 (keptM l x).1) := Lib.hid (own_mono ho4 hsz)
      have HC4 := Lib.hid (H3.out.below hg hB4)
      have HG4 := Lib.hid (grown_own G3.out hB4)
      have HS4 := Lib.hid (keptM_short HS.out HX.out)
      clear hB4 H3 G3 O3 HS HX ho4 b4
      generalize (keptM l x).1 = L4 at HN HS4
      generalize (keptM l x).2 = t4
      go_wp2
      go_roundw
      case rel => exact ⟨L4, _, k - 1, rfl, congrArg (Value.int .i64) (by omega), by omega, HS4, HN, HC4, HG4⟩
      case measure => simp only [intOf]; omega
    · go_wp2
      go_ret
      exact ⟨_, l, rfl, HO.out, HS.out, HC.out, HG.out⟩

end Go.Proofs.YtgkfnmbjlfmcmaaGreatDoor
