/- The walk of impl.RingOk. -/
import Derived.Test.YtfdikopfpeiilaaDoorZIMsg
import Derived.Test.YtfdikopfpeiilaaDoorZSRing
set_option linter.unusedSimpArgs false
set_option linter.unusedVariables false
namespace Go.Proofs.YtfdikopfpeiilaaDoor
open Go.RowKit

set_option maxRecDepth 100000 in
set_option maxHeartbeats 1600000 in
theorem implRingOk_any (cap : Int) (v : Value) (l : List MsgM) (m : Int) (w : World) (hl : l.length ≤ 1048576) (hs : ∀ x ∈ l, x.2.2.1.size ≤ 1048576) (hv : MsgsAt w v l) (hm : w.cell? ⟨0, 0, none⟩ = some (.int .i64 m)) :
    Calls Tryd.prog 9 #[.agg #[.int .i64 cap, v]] w fun e w' => e = .returned (.bool (ringB cap l)) ∧ Below w.heap.size w w' := by
  have C2 := Lib.hid (fun w' (h : MsgsAt w' v l) hm => implMsgsOk_any v l m w' hl hs h hm)
  have HB : Hid (ringB cap l = ((decide (0 ≤ cap) && decide (cap ≤ 32)) && msgsB l && decide ((l.length : Int) ≤ cap))) := rfl
  have HV := Lib.hid hv
  have HM := Lib.hid hm
  obtain ⟨ua, uc, rfl, _, _, _⟩ := hv
  generalize msgsB l = b2 at C2 HB
  clear hm hs
  go_enter Tryd.func9, Tryd.ntmps9
  by_cases h1 : 0 ≤ cap
  · have g1 : decide (0 ≤ cap) = true := decide_eq_true h1
    by_cases h2 : cap ≤ 32
    · have g2 : decide (cap ≤ 32) = true := decide_eq_true h2
      by_cases h3 : (l.length : Int) ≤ cap
      · have g3 : decide ((l.length : Int) ≤ cap) = true := decide_eq_true h3
        go_wp2_with fail
        have ha := (Below.refl w.heap.size w).alloc (Nat.le_refl _) (.cells #[.int .i64 cap, .slice ua l.length uc] 29)
        refine (C2.out _ (HV.out.below ha) ((ha.cell (World.block_lt_of_cell? _ _ HM.out)).trans HM.out)).mono ?_
        rintro e w1 ⟨rfl, hb⟩
        have HE := Lib.hid (below_end ha hb)
        clear ha hb
        go_wp2
        go_ret
        exact ⟨ret_bool (by rw [HB.out, g1, g2, g3]; simp), HE.out⟩
      · have g3 : decide ((l.length : Int) ≤ cap) = false := decide_eq_false h3
        go_wp2
        go_ret
        exact ⟨ret_bool (by rw [HB.out, g3]; simp), (Below.refl _ _).alloc (Nat.le_refl _) _⟩
    · have g2 : decide (cap ≤ 32) = false := decide_eq_false h2
      go_wp2
      go_ret
      exact ⟨ret_bool (by rw [HB.out, g2]; simp), (Below.refl _ _).alloc (Nat.le_refl _) _⟩
  · have g1 : decide (0 ≤ cap) = false := decide_eq_false h1
    go_wp2
    go_ret
    exact ⟨ret_bool (by rw [HB.out, g1]; simp), (Below.refl _ _).alloc (Nat.le_refl _) _⟩

end Go.Proofs.YtfdikopfpeiilaaDoor
