/- The walks of impl.idOk and impl.idsOk: numbers from 0 to 99 that rise. -/
import Derived.Test.YtcggenpianpoiaaDoorSTrie1
namespace Go.Proofs.YtcggenpianpoiaaDoor
open Go.RowKit

theorem implId_any (x : Int) (w : World) :
    Calls Tryd.prog 38 #[.int .i64 x] w fun e w' => e = .returned (.bool (idOk x)) ∧ w = w' := by
  unfold idOk
  by_cases h : 0 ≤ x
  · have h1 : decide (0 ≤ x) = true := decide_eq_true h
    rw [h1]
    obtain ⟨b, hb⟩ : ∃ b, decide (x ≤ 99) = b := ⟨_, rfl⟩
    rw [hb]
    cases b
    all_goals
      go_enter Tryd.func38, Tryd.ntmps38
      go_wp2
      go_ret
      exact ⟨rfl, rfl⟩
  · have h1 : decide (0 ≤ x) = false := decide_eq_false h
    rw [h1]
    go_enter Tryd.func38, Tryd.ntmps38
    go_wp2
    go_ret
    exact ⟨rfl, rfl⟩

set_option maxRecDepth 100000 in
set_option maxHeartbeats 1600000 in
theorem implRises_any (v : Value) (l : List Int) (w : World) (hl : l.length ≤ 4000000) (hv : IntsAt w v l) :
    Calls Tryd.prog 92 #[v] w fun e w' => e = .returned (.bool (rises l)) ∧ w = w' := by
  obtain ⟨a, c, rfl, hc1, hc2, hc3⟩ := hv
  have HC := Lib.hid hc3
  clear hc3
  go_enter Tryd.func92, Tryd.ntmps92
  go_wp2
  go_loopw [7] (fun i wr => ∃ k : Nat, k ≤ l.length ∧ i = .int .i64 k ∧ Hid (risesTo l k = true) ∧ wr = w) (fun i _ => l.length - (intOf i).toNat)
  case atStart => exact ⟨0, Nat.zero_le _, rfl, rfl, rfl⟩
  case round =>
    obtain ⟨k, hk, rfl, HR, rfl⟩ := hrel
    by_cases hlt : k < l.length
    · obtain ⟨b, o, rfl, hin⟩ : ∃ b o, a = some ⟨b, o, none⟩ ∧ IntsIn wr b o l := by
        rcases HC.out with h | h
        · subst h; simp at hlt
        · exact h
      have hcell := hin k hlt
      have hi1 : (k : Int) < (l.length : Int) := by omega
      have HS := Lib.hid (risesTo_succ l k)
      have HX := Lib.hid (risesTo_bad hlt)
      rw [getD_at hlt] at HS HX
      have ci := fun wx => implId_any l[k] wx
      cases hid : idOk l[k]
      · have HE : Hid (rises l = false) := Lib.hid (HX.out (by rw [hid]; rfl))
        rw [hid] at ci
        have CI := Lib.hid ci
        obtain ⟨x, hx⟩ : ∃ x, l[k] = x := ⟨_, rfl⟩
        rw [hx] at hcell CI
        clear hid hx hin HS HX ci
        go_wp2_with (go_at_call 38; refine (CI.out _).mono ?_; rintro e w' ⟨rfl, rfl⟩)
        go_ret
        exact ⟨ret_bool HE.out.symm, rfl⟩
      · rw [hid] at ci
        have CI := Lib.hid ci
        have HID := Lib.hid hid
        clear ci hid
        by_cases h0 : k = 0
        · have HN : Hid (risesTo l (k + 1) = true) := Lib.hid (by rw [HS.out, HR.out, HID.out, decide_eq_true h0]; rfl)
          have g1 : decide (0 < k) = false := decide_eq_false (by omega)
          have g2 : decide ((0 : Int) < (k : Int)) = false := decide_eq_false (by omega)
          obtain ⟨x, hx⟩ : ∃ x, l[k] = x := ⟨_, rfl⟩
          rw [hx] at hcell CI
          clear hx hin HS HX h0 HR HID
          go_wp2_with (go_at_call 38; refine (CI.out _).mono ?_; rintro e w' ⟨rfl, rfl⟩)
          go_roundw
          case rel => exact ⟨k + 1, by omega, by go_num, HN, by trivial⟩
          case measure => simp [intOf]; omega
        · have hk1 : k - 1 < l.length := by omega
          have hprev := hin (k - 1) hk1
          rw [getD_at hk1] at HS HX
          have g1 : decide (0 < k) = true := decide_eq_true (by omega)
          have g2 : decide ((0 : Int) < (k : Int)) = true := decide_eq_true (by omega)
          have g3 : IntKind.i64.wrap ((k : Int) - 1) = (k : Int) - 1 := by rw [IntKind.wrap_i64]; omega
          have g4 : (0 : Int) ≤ (k : Int) - 1 := by omega
          have g4b : (1 : Int) ≤ (k : Int) := by omega
          have g5 : (k : Int) - 1 < (l.length : Int) := by omega
          have g6 : ((k : Int) - 1).toNat = k - 1 := by omega
          by_cases hlt2 : l[k - 1] < l[k]
          · have HN : Hid (risesTo l (k + 1) = true) := Lib.hid (by rw [HS.out, HR.out, HID.out, decide_eq_true hlt2]; simp)
            have g7 : decide (l[k] ≤ l[k - 1]) = false := decide_eq_false (by omega)
            obtain ⟨x, hx⟩ : ∃ x, l[k] = x := ⟨_, rfl⟩
            obtain ⟨y, hy⟩ : ∃ y, l[k - 1] = y := ⟨_, rfl⟩
            rw [hx] at hcell CI g7
            rw [hy] at hprev g7
            clear hx hy hin HS HX h0 HR HID hlt2
            go_wp2_with (go_at_call 38; refine (CI.out _).mono ?_; rintro e w' ⟨rfl, rfl⟩)
            go_roundw
            case rel => exact ⟨k + 1, by omega, by go_num, HN, by trivial⟩
            case measure => simp [intOf]; omega
          · have HE : Hid (rises l = false) := Lib.hid (HX.out (by rw [HID.out, decide_eq_false h0, decide_eq_false hlt2]; rfl))
            have g7 : decide (l[k] ≤ l[k - 1]) = true := decide_eq_true (by omega)
            obtain ⟨x, hx⟩ : ∃ x, l[k] = x := ⟨_, rfl⟩
            obtain ⟨y, hy⟩ : ∃ y, l[k - 1] = y := ⟨_, rfl⟩
            rw [hx] at hcell CI g7
            rw [hy] at hprev g7
            clear hx hy hin HS HX h0 HR HID hlt2
            go_wp2_with (go_at_call 38; refine (CI.out _).mono ?_; rintro e w' ⟨rfl, rfl⟩)
            go_ret
            exact ⟨ret_bool HE.out.symm, rfl⟩
    · obtain rfl : k = l.length := by omega
      have HE : Hid (rises l = true) := HR
      clear HR
      go_wp2
      go_ret
      exact ⟨ret_bool HE.out.symm, rfl⟩

end Go.Proofs.YtcggenpianpoiaaDoor
