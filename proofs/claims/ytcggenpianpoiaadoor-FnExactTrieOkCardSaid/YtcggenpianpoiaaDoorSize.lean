/- The walks of the exact laws' measures of knots, and of their looks whether two rows of knots are alike. -/
import Derived.Test.YtcggenpianpoiaaDoorOwn
import Derived.BigQuiet
import Derived.Deep.RegionHeld
import Derived.Deep.QuietTactic
namespace Go.Proofs.YtcggenpianpoiaaDoor
open Go.RowKit

/-- What is left behind n more. -/
def szI (n : Nat) (left : Int) : Int := if left - n < 0 then -1 else left - n
def szK (x : KnotM) (left : Int) : Int := if left - x.1.size < 0 then -1 else szI x.2.length (left - x.1.size)
def szTo : List KnotM → Int → Int
  | [], a => a
  | x :: l, a => if szK x a < 0 then -1 else szTo l (szK x a)
def szKs (l : List KnotM) (left : Int) : Int := if left - l.length < 0 then -1 else szTo l (left - l.length)

theorem szI_le (n : Nat) (a : Int) (h : 0 ≤ a) : szI n a ≤ a := by unfold szI; split <;> omega
theorem szK_le (x : KnotM) (a : Int) (h : 0 ≤ a) : szK x a ≤ a := by
  unfold szK; split
  · omega
  · have := szI_le x.2.length (a - x.1.size) (by omega); omega
theorem szK_small {x : KnotM} {a : Int} (h : 0 ≤ szK x a) : (x.1.size : Int) ≤ a ∧ (x.2.length : Int) ≤ a := by
  unfold szK szI at h; split at h
  · omega
  · split at h <;> omega
theorem szTo_small : ∀ {l : List KnotM} {a : Int}, 0 ≤ a → 0 ≤ szTo l a → ∀ x ∈ l, (x.1.size : Int) ≤ a ∧ (x.2.length : Int) ≤ a
  | x :: l, a, h0, h, y, hy => by
    unfold szTo at h
    split at h
    · omega
    · rename_i h2
      have h3 : 0 ≤ szK x a := by omega
      have h4 := szK_le x a h0
      rcases List.mem_cons.1 hy with rfl | hy
      · exact szK_small h3
      · have := szTo_small h3 h y hy; omega
theorem szKs_small {l : List KnotM} {a : Int} (h0 : 0 ≤ a) (h : 0 ≤ szKs l a) : (l.length : Int) ≤ a ∧ ∀ x ∈ l, (x.1.size : Int) ≤ a ∧ (x.2.length : Int) ≤ a := by
  unfold szKs at h
  split at h
  · omega
  · exact ⟨by omega, fun x hx => by have := szTo_small (by omega) h x hx; omega⟩

set_option maxRecDepth 100000 in
set_option maxHeartbeats 400000 in
theorem szInts_any (v : Value) (l : List Int) (left : Int) (w : World) (h0 : 0 ≤ left) (h1 : left ≤ 1048576) (hv : IntsAt w v l) :
    Calls Tryd.prog 85 #[v, .int .i64 left] w fun e w' => e = .returned (.int .i64 (szI l.length left)) ∧ w = w' := by
  obtain ⟨a, c, rfl, hc1, hc2, _⟩ := hv
  obtain ⟨n, hn⟩ : ∃ n, l.length = n := ⟨_, rfl⟩
  rw [hn] at hc1 ⊢
  unfold maxLen at hc2
  have g1 : IntKind.i64.wrap (left - n) = left - n := by rw [IntKind.wrap_i64]; omega
  by_cases h : left - n < 0
  · have HE : Hid (szI n left = -1) := Lib.hid (by unfold szI; rw [if_pos h])
    have g2 : decide (left - n < 0) = true := decide_eq_true h
    clear hc1 hc2 hn
    go_enter Tryd.func85, Tryd.ntmps85
    go_wp2
    go_ret
    exact ⟨ret_int HE.out.symm, rfl⟩
  · have HE : Hid (szI n left = left - n) := Lib.hid (by unfold szI; rw [if_neg h])
    have g2 : decide (left - n < 0) = false := decide_eq_false h
    clear hc1 hc2 hn
    go_enter Tryd.func85, Tryd.ntmps85
    go_wp2
    go_ret
    exact ⟨ret_int HE.out.symm, rfl⟩

theorem szI_two (n : Nat) (a : Int) (_h : 0 ≤ a) : (szI n a < 0 ∧ szI n a = -1) ∨ ¬ szI n a < 0 := by unfold szI; split <;> omega

set_option maxRecDepth 100000 in
set_option maxHeartbeats 400000 in
theorem szKnot_any (v : Value) (x : KnotM) (left : Int) (w : World) (h0 : 0 ≤ left) (h1 : left ≤ 1048576) (hp : x.1.size ≤ maxLen) (hv : IntsAt w v x.2) :
    Calls Tryd.prog 54 #[.agg #[.string x.1, v], .int .i64 left] w fun e w' => e = .returned (.int .i64 (szK x left)) ∧ Below w.heap.size w w' := by
  obtain ⟨p, ids⟩ := x
  obtain ⟨n, hn⟩ : ∃ n, p.size = n := ⟨_, rfl⟩
  have HN := Lib.hid hn
  have hp : n ≤ maxLen := hn ▸ hp
  unfold maxLen at hp
  have HV := Lib.hid hv
  obtain ⟨ua, uc, rfl, _, _, _⟩ := hv
  have g1 : IntKind.i64.wrap (left - p.size) = left - p.size := by rw [IntKind.wrap_i64, hn]; omega
  by_cases h : left - p.size < 0
  · have HE : Hid (szK (p, ids) left = -1) := Lib.hid (by unfold szK; rw [if_pos h])
    have g2 : decide (left - p.size < 0) = true := decide_eq_true h
    clear hp hn HN
    go_enter Tryd.func54, Tryd.ntmps54
    go_wp2
    go_ret
    exact ⟨ret_int HE.out.symm, (Below.refl _ _).alloc (Nat.le_refl _) _⟩
  · have HE : Hid (szK (p, ids) left = szI ids.length (left - p.size)) := Lib.hid (by unfold szK; rw [if_neg h])
    have g2 : decide (left - p.size < 0) = false := decide_eq_false h
    have CS := Lib.hid (fun wx (h : IntsAt wx (.slice ua ids.length uc) ids) => szInts_any _ ids (left - p.size) wx (by omega) (by omega) h)
    have H2 := Lib.hid (szI_two ids.length (left - p.size) (by omega))
    obtain ⟨r, hr⟩ : ∃ r, szI ids.length (left - p.size) = r := ⟨_, rfl⟩
    rw [hr] at CS H2 HE
    clear hp hn HN hr h
    go_enter Tryd.func54, Tryd.ntmps54
    go_wp2_with fail
    refine (CS.out _ (HV.out.alloc _)).mono ?_
    rintro e w2 ⟨rfl, rfl⟩
    rcases H2.out with ⟨h3, h4⟩ | h3
    · have g3 : decide (r < 0) = true := decide_eq_true h3
      subst h4
      clear H2 h3
      go_wp2
      go_ret
      exact ⟨ret_int HE.out.symm, (Below.refl _ _).alloc (Nat.le_refl _) _⟩
    · have g3 : decide (r < 0) = false := decide_eq_false (by omega)
      clear H2 h3
      go_wp2
      go_ret
      exact ⟨ret_int HE.out.symm, (Below.refl _ _).alloc (Nat.le_refl _) _⟩

set_option maxRecDepth 100000 in
set_option maxHeartbeats 800000 in
theorem szKnots_any (v : Value) (l : List KnotM) (left : Int) (w : World) (h0 : 0 ≤ left) (h1 : left ≤ 1048576) (hs : ∀ x ∈ l, x.1.size ≤ maxLen) (hv : KnotsAt w v l) :
    Calls Tryd.prog 19 #[v, .int .i64 left] w fun e w' => e = .returned (.int .i64 (szKs l left)) ∧ Below w.heap.size w w' := by
  obtain ⟨a, c, rfl, hc1, hc2, hc3⟩ := hv
  have HC := Lib.hid hc3
  have HS := Lib.hid hs
  unfold maxLen at hc2
  have g1 : IntKind.i64.wrap (left - l.length) = left - l.length := by rw [IntKind.wrap_i64]; omega
  clear hc3 hs
  by_cases h : left - l.length < 0
  · have HE : Hid (szKs l left = -1) := Lib.hid (by unfold szKs; rw [if_pos h])
    have g2 : decide (left - l.length < 0) = true := decide_eq_true h
    clear hc1 hc2
    go_enter Tryd.func19, Tryd.ntmps19
    go_wp2
    go_ret
    exact ⟨ret_int HE.out.symm, Below.refl _ _⟩
  · have HE : Hid (szKs l left = szTo l (left - l.length)) := Lib.hid (by unfold szKs; rw [if_neg h])
    have g2 : decide (left - l.length < 0) = false := decide_eq_false h
    go_enter Tryd.func19, Tryd.ntmps19
    go_wp2
    go_loopw [1, 5] (fun lv i wr => ∃ (k : Nat) (q : Int), k ≤ l.length ∧ i = .int .i64 k ∧ lv = .int .i64 q ∧ 0 ≤ q ∧ q ≤ 1048576 ∧ Hid (szTo l (left - l.length) = szTo (l.drop k) q) ∧ Hid (Below w.heap.size w wr)) (fun _ i _ => l.length - (intOf i).toNat)
    case atStart => exact ⟨0, _, Nat.zero_le _, rfl, rfl, by omega, by omega, rfl, Below.refl _ _⟩
    case round =>
      obtain ⟨k, q, hk, rfl, rfl, hq0, hq1, HR, HB⟩ := hrel
      by_cases hlt : k < l.length
      · obtain ⟨b, o, rfl, hin⟩ : ∃ b o, a = some ⟨b, o, none⟩ ∧ KnotsIn w b o l := by
          rcases HC.out with h | h
          · subst h; simp at hlt
          · exact h
        obtain ⟨hp, u0, hu0, hids⟩ := (hin.below HB.out) k hlt
        have CZ := Lib.hid (szKnot_any u0 l[k] q wr hq0 hq1 (HS.out _ (List.getElem_mem hlt)) hids)
        obtain ⟨ua, uc, rfl, _, _, _⟩ := hids
        have HD : Hid (szTo (l.drop k) q = if szK l[k] q < 0 then -1 else szTo (l.drop (k + 1)) (szK l[k] q)) := Lib.hid (by rw [List.drop_eq_getElem_cons hlt]; rfl)
        have hle := szK_le l[k] q hq0
        obtain ⟨x, hx⟩ : ∃ x, l[k] = x := ⟨_, rfl⟩
        rw [hx] at hp hu0 CZ HD hle
        clear hin hx
        obtain ⟨r, hr⟩ : ∃ r, szK x q = r := ⟨_, rfl⟩
        rw [hr] at CZ HD hle
        clear hr
        go_wp2_with fail
        refine CZ.out.mono ?_
        clear CZ
        rintro e w2 ⟨rfl, hb⟩
        have HB2 := Lib.hid (below_end HB.out hb)
        clear hb HB
        by_cases h3 : r < 0
        · have g3 : decide (r < 0) = true := decide_eq_true h3
          have HF : Hid (szKs l left = -1) := Lib.hid (by rw [HE.out, HR.out, HD.out, if_pos h3])
          clear HE HR HD
          go_wp2
          go_ret
          exact ⟨ret_int HF.out.symm, HB2.out⟩
        · have g3 : decide (r < 0) = false := decide_eq_false h3
          have HN : Hid (szTo l (left - l.length) = szTo (l.drop (k + 1)) r) := Lib.hid (by rw [HR.out, HD.out, if_neg h3])
          have h4 : 0 ≤ r := by omega
          have h5 : r ≤ 1048576 := by omega
          clear HE HR HD
          go_wp2
          go_roundw
          case rel => exact ⟨k + 1, r, by omega, by go_num, rfl, h4, h5, HN, HB2⟩
          case measure => simp [intOf]; omega
      · obtain rfl : k = l.length := by omega
        have HF : Hid (szKs l left = q) := Lib.hid (by rw [HE.out, HR.out, List.drop_length]; rfl)
        go_wp2
        go_ret
        exact ⟨ret_int HF.out.symm, HB.out⟩

end Go.Proofs.YtcggenpianpoiaaDoor
