/- The walks of the reference's small functions on tries. -/
import Derived.Test.YtcpoodhbakkmcaaGreatDoorRows
import Derived.Test.YtcpoodhbakkmcaaGreatDoorZB1
import Derived.Test.YtcpoodhbakkmcaaGreatDoorZB2
import Derived.Test.YtcpoodhbakkmcaaGreatDoorZCut
import Derived.BigQuiet
import Derived.Deep.QuietTactic
import Derived.WalkSpells
import Derived.WalkLawsBesides
set_option linter.unusedSimpArgs false
set_option linter.unusedVariables false
namespace Go.Proofs.YtcpoodhbakkmcaaGreatDoor
open Go.RowKit

theorem specId_any (x : Int) (w : World) :
    Calls Tryz.prog 94 #[.int .i64 x] w fun e w' => e = .returned (.bool (idOk x)) ∧ w = w' := by
  have c := specIn_any x 0 99 w
  have e : (decide (0 ≤ x) && decide (x ≤ 99)) = idOk x := rfl
  rw [e] at c
  obtain ⟨b, hb⟩ : ∃ b, idOk x = b := ⟨_, rfl⟩
  rw [hb] at c ⊢
  clear e hb
  go_enter Tryz.func94, Tryz.ntmps94
  go_wp2_with fail
  refine c.mono ?_
  rintro e w' ⟨rfl, rfl⟩
  go_wp2
  go_ret
  exact ⟨rfl, rfl⟩

theorem byte_yes {s : ByteArray} {j : Nat} {c : UInt8} (h : j < s.size) (e : ((s[j].toNat : Int) == (c.toNat : Int)) = true) : s.data.toList[j]? = some c := by
  have hj : j < s.data.toList.length := h
  rw [List.getElem?_eq_getElem hj]
  have : s[j] = c := UInt8.toNat_inj.1 (by rw [beq_iff_eq] at e; omega)
  exact congrArg some this

theorem byte_no {s : ByteArray} {j : Nat} {c : UInt8} (h : j < s.size) (e : ((s[j].toNat : Int) == (c.toNat : Int)) = false) : s.data.toList[j]? ≠ some c := by
  have hj : j < s.data.toList.length := h
  rw [List.getElem?_eq_getElem hj]
  intro k
  have : s[j] = c := Option.some.inj k
  rw [this] at e; simp at e

set_option maxRecDepth 100000 in
set_option maxHeartbeats 400000 in
theorem specAbove_any (s : ByteArray) (w : World) (hs : s.size ≤ maxLen) :
    Calls Tryz.prog 61 #[.string s] w fun e w' => e = .returned (.string (above s)) ∧ w = w' := by
  unfold maxLen at hs
  go_enter Tryz.func61, Tryz.ntmps61
  go_wp2
  go_loop [3] (fun i => ∃ k : Nat, k ≤ s.size ∧ i = .int .i64 ((k : Int) - 1) ∧ Hid (above s = aboveTo s k)) (fun i => (intOf i + 1).toNat)
  case atStart => exact ⟨s.size, Nat.le_refl _, by first | rfl | go_num, rfl⟩
  case round =>
    obtain ⟨k, hk, rfl, HA⟩ := hrel
    by_cases h0 : 0 < k
    · obtain ⟨j, rfl⟩ : ∃ j, k = j + 1 := ⟨k - 1, by omega⟩
      have hj : j < s.size := by omega
      cases hb : ((s[j].toNat : Int) == ((47 : UInt8).toNat : Int))
      · have HN : Hid (above s = aboveTo s j) := Lib.hid (by rw [HA.out, aboveTo, if_neg (byte_no hj hb)])
        have hb2 : ((s[j].toNat : Int) == 47) = false := hb
        clear HA hb
        go_wp2
        go_round
        case rel => exact ⟨j, by omega, rfl, HN⟩
        case measure => simp only [intOf]; omega
      · have HN : Hid (above s = s.extract 0 j) := Lib.hid (by rw [HA.out, aboveTo, if_pos (byte_yes hj hb)])
        have hb2 : ((s[j].toNat : Int) == 47) = true := hb
        clear HA hb
        go_wp2
        go_ret
        exact ⟨ret_str HN.out.symm, rfl⟩
    · obtain rfl : k = 0 := by omega
      have HN : Hid (above s = ⟨#[]⟩) := Lib.hid (by rw [HA.out, aboveTo])
      clear HA
      go_wp2
      go_ret
      exact ⟨ret_str HN.out.symm, rfl⟩

set_option maxRecDepth 100000 in
set_option maxHeartbeats 800000 in
theorem specFind_any (v : Value) (l : List KnotM) (p : ByteArray) (w : World) (hl : l.length ≤ 4000000) (hv : KnotsAt w v l) :
    Calls Tryz.prog 60 #[v, .string p] w fun e w' => e = .returned (.int .i64 (find l p)) ∧ w = w' := by
  obtain ⟨a, c, rfl, hc1, hc2, hc3⟩ := hv
  have HC := Lib.hid hc3
  clear hc3
  go_enter Tryz.func60, Tryz.ntmps60
  go_wp2
  go_loop [5] (fun i => ∃ k : Nat, k ≤ l.length ∧ i = .int .i64 k ∧ Hid (find l p = findFrom p (l.drop k) k)) (fun i => l.length - (intOf i).toNat)
  case atStart => exact ⟨0, Nat.zero_le _, rfl, rfl⟩
  case round =>
    obtain ⟨k, hk, rfl, HF⟩ := hrel
    by_cases hlt : k < l.length
    · obtain ⟨b, o, rfl, hin⟩ : ∃ b o, a = some ⟨b, o, none⟩ ∧ KnotsIn w b o l := by
        rcases HC.out with h | h
        · subst h; simp at hlt
        · exact h
      have hcell := (hin k hlt).1
      clear hin
      have e1 : l.drop k = l[k] :: l.drop (k + 1) := List.drop_eq_getElem_cons hlt
      cases ht : ((l[k].1).toList == p.toList)
      · have HN : Hid (find l p = findFrom p (l.drop (k + 1)) (k + 1)) := Lib.hid (by rw [HF.out, e1, findFrom, if_neg (by rw [ht]; decide)])
        obtain ⟨q, hq⟩ : ∃ q, l[k].1 = q := ⟨_, rfl⟩
        rw [hq] at hcell ht
        clear hq e1 HF
        go_wp2
        go_round
        case rel => exact ⟨k + 1, by omega, by go_num, HN⟩
        case measure => simp [intOf]; omega
      · have HN : Hid (find l p = (k : Int)) := Lib.hid (by rw [HF.out, e1, findFrom, if_pos ht])
        obtain ⟨q, hq⟩ : ∃ q, l[k].1 = q := ⟨_, rfl⟩
        rw [hq] at hcell ht
        clear hq e1 HF
        go_wp2
        go_ret
        exact ⟨ret_int HN.out.symm, rfl⟩
    · obtain rfl : k = l.length := by omega
      have HN : Hid (find l p = -1) := Lib.hid (by rw [HF.out, List.drop_length]; rfl)
      clear HF
      go_wp2
      go_ret
      exact ⟨ret_int HN.out.symm, rfl⟩

theorem childB_hit {l : List KnotM} {p : ByteArray} {k : Nat} (h1 : 1 ≤ k) (h : k < l.length) (e : ((above l[k].1).toList == p.toList) = true) : childB l p = true := by
  rw [childB, List.any_eq_true]
  refine ⟨l[k], ?_, e⟩
  have : l[k] = (l.drop 1)[k - 1]'(by simp; omega) := by rw [List.getElem_drop]; congr 1; omega
  rw [this]; exact List.getElem_mem _

/-- None of the knots from the first up to the k-th is a child. -/
def noChildTo (l : List KnotM) (p : ByteArray) (k : Nat) : Prop := ∀ j (hj : j < l.length), 1 ≤ j → j < k → ((above l[j].1).toList == p.toList) = false

theorem childB_none {l : List KnotM} {p : ByteArray} (h : noChildTo l p l.length) : childB l p = false := by
  cases e : childB l p
  · rfl
  · rw [childB, List.any_eq_true] at e
    obtain ⟨x, hx, ht⟩ := e
    obtain ⟨j, hj, rfl⟩ := List.getElem_of_mem hx
    rw [List.getElem_drop] at ht
    simp only [List.length_drop] at hj
    rw [h (1 + j) (by omega) (by omega) (by omega)] at ht
    cases ht

set_option maxRecDepth 100000 in
set_option maxHeartbeats 800000 in
theorem specChild_any (v : Value) (l : List KnotM) (p : ByteArray) (w : World) (hl : l.length ≤ 4000000) (hs : ∀ x ∈ l, x.1.size ≤ maxLen) (hv : KnotsAt w v l) :
    Calls Tryz.prog 62 #[v, .string p] w fun e w' => e = .returned (.bool (childB l p)) ∧ w = w' := by
  obtain ⟨a, c, rfl, hc1, hc2, hc3⟩ := hv
  have HC := Lib.hid hc3
  have HS := Lib.hid hs
  clear hc3 hs
  go_enter Tryz.func62, Tryz.ntmps62
  go_wp2
  go_loop [5] (fun i => ∃ k : Nat, 1 ≤ k ∧ i = .int .i64 k ∧ Hid (noChildTo l p k)) (fun i => l.length - (intOf i).toNat)
  case atStart => exact ⟨1, Nat.le_refl _, rfl, Lib.hid (fun j hj h1 h2 => by omega)⟩
  case round =>
    obtain ⟨k, hk, rfl, HF⟩ := hrel
    by_cases hlt : k < l.length
    · obtain ⟨b, o, rfl, hin⟩ : ∃ b o, a = some ⟨b, o, none⟩ ∧ KnotsIn w b o l := by
        rcases HC.out with h | h
        · subst h; simp at hlt
        · exact h
      have hcell := (hin k hlt).1
      clear hin
      have ca := specAbove_any l[k].1 w (HS.out _ (List.getElem_mem hlt))
      cases ht : ((above l[k].1).toList == p.toList)
      · have HN : Hid (noChildTo l p (k + 1)) := Lib.hid (fun j hj h1 h2 => by
          by_cases e : j = k
          · subst e; exact ht
          · exact HF.out j hj h1 (by omega))
        obtain ⟨q, hq⟩ : ∃ q, l[k].1 = q := ⟨_, rfl⟩
        rw [hq] at hcell ht ca
        obtain ⟨u, hu⟩ : ∃ u, above q = u := ⟨_, rfl⟩
        rw [hu] at ca ht
        clear hq HF hu
        go_wp2_with fail
        refine ca.mono ?_
        rintro e w' ⟨rfl, rfl⟩
        clear ca
        go_wp2
        go_round
        case rel => exact ⟨k + 1, by omega, by go_num, HN⟩
        case measure => simp [intOf]; omega
      · have HN := Lib.hid (childB_hit hk hlt ht)
        obtain ⟨q, hq⟩ : ∃ q, l[k].1 = q := ⟨_, rfl⟩
        rw [hq] at hcell ht ca
        obtain ⟨u, hu⟩ : ∃ u, above q = u := ⟨_, rfl⟩
        rw [hu] at ca ht
        clear hq HF hu
        go_wp2_with fail
        refine ca.mono ?_
        rintro e w' ⟨rfl, rfl⟩
        clear ca
        go_wp2
        go_ret
        exact ⟨ret_bool HN.out.symm, rfl⟩
    · have HN : Hid (childB l p = false) := Lib.hid (childB_none (fun j hj h1 h2 => HF.out j hj h1 (by omega)))
      clear HF
      go_wp2
      go_ret
      exact ⟨ret_bool HN.out.symm, rfl⟩

theorem getD_at {l : List Int} {k : Nat} (h : k < l.length) : l.getD k 0 = l[k] := by rw [List.getD_eq_getElem?_getD, List.getElem?_eq_getElem h]; rfl

set_option maxRecDepth 100000 in
set_option maxHeartbeats 1600000 in
theorem specRises_any (v : Value) (l : List Int) (w : World) (hl : l.length ≤ 4000000) (hv : IntsAt w v l) :
    Calls Tryz.prog 59 #[v] w fun e w' => e = .returned (.bool (rises l)) ∧ Below w.heap.size w w' := by
  obtain ⟨a, c, rfl, hc1, hc2, hc3⟩ := hv
  have HC := Lib.hid hc3
  clear hc3
  go_enter Tryz.func59, Tryz.ntmps59
  go_wp2
  go_loopw [3] (fun i wr => ∃ k : Nat, k ≤ l.length ∧ i = .int .i64 k ∧ Hid (risesTo l k = true) ∧ Hid (Below w.heap.size w wr)) (fun i _ => l.length - (intOf i).toNat)
  case atStart => exact ⟨0, Nat.zero_le _, rfl, rfl, Below.refl _ _⟩
  case round =>
    obtain ⟨k, hk, rfl, HR, HB⟩ := hrel
    by_cases hlt : k < l.length
    · obtain ⟨b, o, rfl, hin⟩ : ∃ b o, a = some ⟨b, o, none⟩ ∧ IntsIn w b o l := by
        rcases HC.out with h | h
        · subst h; simp at hlt
        · exact h
      have hin2 := hin.below HB.out
      have hcell := hin2 k hlt
      have hi1 : (k : Int) < (l.length : Int) := by omega
      have HS := Lib.hid (risesTo_succ l k)
      have HX := Lib.hid (risesTo_bad hlt)
      rw [getD_at hlt] at HS HX
      have ci := fun wx => specId_any l[k] wx
      cases hid : idOk l[k]
      · have HE : Hid (rises l = false) := Lib.hid (HX.out (by rw [hid]; rfl))
        rw [hid] at ci
        have CI := Lib.hid ci
        obtain ⟨x, hx⟩ : ∃ x, l[k] = x := ⟨_, rfl⟩
        rw [hx] at hcell CI
        clear hid hx hin hin2 HS HX ci
        go_wp2_with fail
        go_quiet ((go_at_call 94; exact Calls.quiet_of_same (quiet_back (CI.out _))))
        go_wp2
        go_ret
        exact ⟨ret_bool HE.out.symm, below_drewN HB.out _⟩
      · rw [hid] at ci
        have CI := Lib.hid ci
        have HID := Lib.hid hid
        clear ci hid
        by_cases h0 : k = 0
        · have HN : Hid (risesTo l (k + 1) = true) := Lib.hid (by rw [HS.out, HR.out, HID.out, decide_eq_true h0]; rfl)
          have g1 : decide (0 < k) = false := decide_eq_false (by omega)
          have g2 : decide ((0 : Int) < (k : Int)) = false := decide_eq_false (by omega)
          obtain ⟨x, hx⟩ : ∃ x, l[k] = x := ⟨_, rfl⟩
          rw [hx] at hcell CI
          clear hx hin hin2 HS HX h0 HR HID
          go_wp2_with fail
          go_quiet ((go_at_call 94; exact Calls.quiet_of_same (quiet_back (CI.out _))))
          go_wp2
          go_roundw
          case rel => exact ⟨k + 1, by omega, by go_num, HN, below_drewN HB.out _⟩
          case measure => simp [intOf]; omega
        · have hk1 : k - 1 < l.length := by omega
          have hprev := hin2 (k - 1) hk1
          rw [getD_at hk1] at HS HX
          have g1 : decide (0 < k) = true := decide_eq_true (by omega)
          have g2 : decide ((0 : Int) < (k : Int)) = true := decide_eq_true (by omega)
          have g3 : IntKind.i64.wrap ((k : Int) - 1) = (k : Int) - 1 := by rw [IntKind.wrap_i64]; omega
          have g4 : (0 : Int) ≤ (k : Int) - 1 := by omega
          have g4b : (1 : Int) ≤ (k : Int) := by omega
          have g5 : (k : Int) - 1 < (l.length : Int) := by omega
          have g6 : ((k : Int) - 1).toNat = k - 1 := by omega
          by_cases hlt2 : l[k - 1] < l[k]
          · have HN : Hid (risesTo l (k + 1) = true) := Lib.hid (by rw [HS.out, HR.out, HID.out, decide_eq_true hlt2]; simp)
            have g7 : decide (l[k] ≤ l[k - 1]) = false := decide_eq_false (by omega)
            obtain ⟨x, hx⟩ : ∃ x, l[k] = x := ⟨_, rfl⟩
            obtain ⟨y, hy⟩ : ∃ y, l[k - 1] = y := ⟨_, rfl⟩
            rw [hx] at hcell CI g7
            rw [hy] at hprev g7
            clear hx hy hin hin2 HS HX h0 HR HID hlt2
            go_wp2_with fail
            go_quiet ((go_at_call 94; exact Calls.quiet_of_same (quiet_back (CI.out _))))
            go_wp2
            go_roundw
            case rel => exact ⟨k + 1, by omega, by go_num, HN, below_drewN HB.out _⟩
            case measure => simp [intOf]; omega
          · have HE : Hid (rises l = false) := Lib.hid (HX.out (by rw [HID.out, decide_eq_false h0, decide_eq_false hlt2]; rfl))
            have g7 : decide (l[k] ≤ l[k - 1]) = true := decide_eq_true (by omega)
            obtain ⟨x, hx⟩ : ∃ x, l[k] = x := ⟨_, rfl⟩
            obtain ⟨y, hy⟩ : ∃ y, l[k - 1] = y := ⟨_, rfl⟩
            rw [hx] at hcell CI g7
            rw [hy] at hprev g7
            clear hx hy hin hin2 HS HX h0 HR HID hlt2
            go_wp2_with fail
            go_quiet ((go_at_call 94; exact Calls.quiet_of_same (quiet_back (CI.out _))))
            go_wp2
            go_ret
            exact ⟨ret_bool HE.out.symm, below_drewN HB.out _⟩
    · obtain rfl : k = l.length := by omega
      have HE : Hid (rises l = true) := HR
      clear HR
      go_wp2
      go_ret
      exact ⟨ret_bool HE.out.symm, HB.out⟩

end Go.Proofs.YtcpoodhbakkmcaaGreatDoor
