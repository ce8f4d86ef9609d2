/- Small texts, laid together. -/
import Derived.Test.YtcpoodhbakkmcaaGreatDoorZSTrie1
import Derived.Test.YtcpoodhbakkmcaaGreatDoorZOwn
import Derived.Test.YtcpoodhbakkmcaaGreatDoorZB1
import Derived.Deep.RegionHeld
set_option linter.unusedSimpArgs false
set_option linter.unusedVariables false
/- The walks of impl.idOk and impl.idsOk: numbers from 0 to 99 that rise. -/
namespace Go.Proofs.YtcpoodhbakkmcaaGreatDoor
open Go.RowKit

theorem implId_any (x : Int) (w : World) :
    Calls Tryz.prog 20 #[.int .i64 x] w fun e w' => e = .returned (.bool (idOk x)) ∧ w = w' := by
  unfold idOk
  by_cases h : 0 ≤ x
  · have h1 : decide (0 ≤ x) = true := decide_eq_true h
    rw [h1]
    obtain ⟨b, hb⟩ : ∃ b, decide (x ≤ 99) = b := ⟨_, rfl⟩
    rw [hb]
    cases b
    all_goals
      go_enter Tryz.func20, Tryz.ntmps20
      go_wp2
      go_ret
      exact ⟨rfl, rfl⟩
  · have h1 : decide (0 ≤ x) = false := decide_eq_false h
    rw [h1]
    go_enter Tryz.func20, Tryz.ntmps20
    go_wp2
    go_ret
    exact ⟨rfl, rfl⟩

set_option maxRecDepth 100000 in
set_option maxHeartbeats 1600000 in
theorem implRises_any (v : Value) (l : List Int) (w : World) (hl : l.length ≤ 4000000) (hv : IntsAt w v l) :
    Calls Tryz.prog 66 #[v] w fun e w' => e = .returned (.bool (rises l)) ∧ w = w' := by
  obtain ⟨a, c, rfl, hc1, hc2, hc3⟩ := hv
  have HC := Lib.hid hc3
  clear hc3
  go_enter Tryz.func66, Tryz.ntmps66
  go_wp2
  go_loopw [7] (fun i wr => ∃ k : Nat, k ≤ l.length ∧ i = .int .i64 k ∧ Hid (risesTo l k = true) ∧ wr = w) (fun i _ => l.length - (intOf i).toNat)
  case atStart => exact ⟨0, Nat.zero_le _, rfl, rfl, rfl⟩
  case round =>
    obtain ⟨k, hk, rfl, HR, rfl⟩ := hrel
    by_cases hlt : k < l.length
    · obtain ⟨b, o, rfl, hin⟩ : ∃ b o, a = some ⟨b, o, none⟩ ∧ IntsIn wr b o l := by
        rcases HC.out with h | h
        · subst h; simp at hlt
        · exact h
      have hcell := hin k hlt
      have hi1 : (k : Int) < (l.length : Int) := by omega
      have HS := Lib.hid (risesTo_succ l k)
      have HX := Lib.hid (risesTo_bad hlt)
      rw [getD_at hlt] at HS HX
      have ci := fun wx => implId_any l[k] wx
      cases hid : idOk l[k]
      · have HE : Hid (rises l = false) := Lib.hid (HX.out (by rw [hid]; rfl))
        rw [hid] at ci
        have CI := Lib.hid ci
        obtain ⟨x, hx⟩ : ∃ x, l[k] = x := ⟨_, rfl⟩
        rw [hx] at hcell CI
        clear hid hx hin HS HX ci
        go_wp2_with (go_at_call 20; refine (CI.out _).mono ?_; rintro e w' ⟨rfl, rfl⟩)
        go_ret
        exact ⟨ret_bool HE.out.symm, rfl⟩
      · rw [hid] at ci
        have CI := Lib.hid ci
        have HID := Lib.hid hid
        clear ci hid
        by_cases h0 : k = 0
        · have HN : Hid (risesTo l (k + 1) = true) := Lib.hid (by rw [HS.out, HR.out, HID.out, decide_eq_true h0]; rfl)
          have g1 : decide (0 < k) = false := decide_eq_false (by omega)
          have g2 : decide ((0 : Int) < (k : Int)) = false := decide_eq_false (by omega)
          obtain ⟨x, hx⟩ : ∃ x, l[k] = x := ⟨_, rfl⟩
          rw [hx] at hcell CI
          clear hx hin HS HX h0 HR HID
          go_wp2_with (go_at_call 20; refine (CI.out _).mono ?_; rintro e w' ⟨rfl, rfl⟩)
          go_roundw
          case rel => exact ⟨k + 1, by omega, by go_num, HN, by trivial⟩
          case measure => simp [intOf]; omega
        · have hk1 : k - 1 < l.length := by omega
          have hprev := hin (k - 1) hk1
          rw [getD_at hk1] at HS HX
          have g1 : decide (0 < k) = true := decide_eq_true (by omega)
          have g2 : decide ((0 : Int) < (k : Int)) = true := decide_eq_true (by omega)
          have g3 : IntKind.i64.wrap ((k : Int) - 1) = (k : Int) - 1 := by rw [IntKind.wrap_i64]; omega
          have g4 : (0 : Int) ≤ (k : Int) - 1 := by omega
          have g4b : (1 : Int) ≤ (k : Int) := by omega
          have g5 : (k : Int) - 1 < (l.length : Int) := by omega
          have g6 : ((k : Int) - 1).toNat = k - 1 := by omega
          by_cases hlt2 : l[k - 1] < l[k]
          · have HN : Hid (risesTo l (k + 1) = true) := Lib.hid (by rw [HS.out, HR.out, HID.out, decide_eq_true hlt2]; simp)
            have g7 : decide (l[k] ≤ l[k - 1]) = false := decide_eq_false (by omega)
            obtain ⟨x, hx⟩ : ∃ x, l[k] = x := ⟨_, rfl⟩
            obtain ⟨y, hy⟩ : ∃ y, l[k - 1] = y := ⟨_, rfl⟩
            rw [hx] at hcell CI g7
            rw [hy] at hprev g7
            clear hx hy hin HS HX h0 HR HID hlt2
            go_wp2_with (go_at_call 20; refine (CI.out _).mono ?_; rintro e w' ⟨rfl, rfl⟩)
            go_roundw
            case rel => exact ⟨k + 1, by omega, by go_num, HN, by trivial⟩
            case measure => simp [intOf]; omega
          · have HE : Hid (rises l = false) := Lib.hid (HX.out (by rw [HID.out, decide_eq_false h0, decide_eq_false hlt2]; rfl))
            have g7 : decide (l[k] ≤ l[k - 1]) = true := decide_eq_true (by omega)
            obtain ⟨x, hx⟩ : ∃ x, l[k] = x := ⟨_, rfl⟩
            obtain ⟨y, hy⟩ : ∃ y, l[k - 1] = y := ⟨_, rfl⟩
            rw [hx] at hcell CI g7
            rw [hy] at hprev g7
            clear hx hy hin HS HX h0 HR HID hlt2
            go_wp2_with (go_at_call 20; refine (CI.out _).mono ?_; rintro e w' ⟨rfl, rfl⟩)
            go_ret
            exact ⟨ret_bool HE.out.symm, rfl⟩
    · obtain rfl : k = l.length := by omega
      have HE : Hid (rises l = true) := HR
      clear HR
      go_wp2
      go_ret
      exact ⟨ret_bool HE.out.symm, rfl⟩

end Go.Proofs.YtcpoodhbakkmcaaGreatDoor

/- The walks of the reference's functions that make tries: NewTrie, copies. -/
namespace Go.Proofs.YtcpoodhbakkmcaaGreatDoor
open Go.RowKit

theorem ints_length (l : List Int) : (ints l).length = l.length := by simp [ints]
theorem ints_oneCell' (l : List Int) : ∀ u ∈ ints l, u.oneCell' = true := by
  intro u hu
  obtain ⟨x, _, rfl⟩ := List.mem_map.1 hu
  rfl

set_option maxRecDepth 100000 in
set_option maxHeartbeats 400000 in
theorem specCopy_any (v : Value) (l : List Int) (w : World) (hl : l.length ≤ 4000000) (hv : IntsAt w v l) :
    Calls Tryz.prog 120 #[v] w fun e w' => ∃ u, e = .returned u ∧ w'.ownsRow w.heap.size 2 1 u l.length (ints l) ∧ Below w.heap.size w w' := by
  obtain ⟨a, c, rfl, hc1, hc2, hc3⟩ := hv
  obtain ⟨i, hi, hz0, hz1, hz2⟩ := info_parts (P := Tryz.prog) (e := 2) (z := .int .i64 0) (size := 1) (bytes := 8) (by kernel_rfl)
  have HO := Lib.hid (World.ownsRow_lit (base := w.heap.size) (e := 2) (size := 1) w #[] 0 (Nat.le_refl _) (by unfold maxLen; omega) rfl)
  have HL := Lib.hid (ints_length l)
  cases a with
  | none =>
    have hl0 : l = [] := by
      rcases hc3 with h | ⟨b, o, h, _⟩
      · exact h
      · cases h
    subst hl0
    go_enter Tryz.func120, Tryz.ntmps120
    go_wp2_with (at_builtin; refine wpList_append_empty rfl _ _ 33 rfl w.heap.size 2 i 1 Tryz.underlying33 hi hz1 _ 0 [] rfl HO.out c rfl ?_)
    go_wp2
    go_ret
    exact ⟨_, rfl, HO.out, (Below.refl _ _).alloc (Nat.le_refl _) _⟩
  | some ad =>
    have HN : Hid (∀ j u, (ints l)[j]? = some u → w.cell? (ad.add j) = some u) := Lib.hid (fun j u hu => by
      rcases hc3 with h | ⟨b, o, h, hin⟩
      · subst h; simp [ints] at hu
      · cases h
        have hj : j < l.length := by
          rcases Nat.lt_or_ge j l.length with h | h
          · exact h
          · rw [List.getElem?_eq_none (by rw [HL.out]; exact h)] at hu; cases hu
        have := hin j hj
        rw [ints, List.getElem?_map, List.getElem?_eq_getElem hj] at hu
        cases hu
        unfold Addr.add
        split
        · simp_all
        · exact this)
    have HN2 : Hid (∀ j u, (ints l)[j]? = some u → (w.alloc (.cells #[] 2)).cell? (ad.add j) = some u) := Lib.hid (fun j u hu => by
      have := HN.out j u hu
      rw [World.cell?_alloc_lt _ _ _ (World.block_lt_of_cell? _ _ this)]; exact this)
    clear hc3 HN
    go_enter Tryz.func120, Tryz.ntmps120
    go_wp2_with (at_builtin; refine wpList_append_own _ rfl _ _ 33 rfl w.heap.size 2 i (.int .i64 0) 1 8 Tryz.underlying33 hi hz0 hz1 hz2 rfl (by decide) _ 0 [] rfl HO.out ad l.length c (ints l) rfl (by rw [HL.out]; omega) HN2.out (ints_oneCell' l) (by unfold maxLen; omega) (by omega) (by simp) ?_; intro v' w' hown hgr _)
    have HE : Hid (w'.ownsRow w.heap.size 2 1 v' l.length (ints l)) := Lib.hid (by simpa using hown)
    have HB : Hid (Below w.heap.size w w') := Lib.hid (((Below.refl _ _).alloc (Nat.le_refl _) _).grown hgr (by simp) (fun k h => by cases h; exact Nat.le_refl _))
    clear hown hgr
    go_wp2
    go_ret
    exact ⟨_, rfl, HE.out, HB.out⟩

end Go.Proofs.YtcpoodhbakkmcaaGreatDoor
