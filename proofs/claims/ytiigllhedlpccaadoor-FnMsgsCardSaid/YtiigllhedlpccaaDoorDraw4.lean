/- The walks of the reference's draws of numbers and of messages. -/
import Derived.Test.YtiigllhedlpccaaDoorName
import Derived.Test.YtiigllhedlpccaaDoorMsg
import Derived.Test.YtiigllhedlpccaaDoorSIn
namespace Go.Proofs.YtiigllhedlpccaaDoor
open Go.RowKit

theorem pick_odd {r : Nat} (h : r < 10) : ∃ x : Int, (#[Value.int .i64 (-1), Value.int .i64 0, Value.int .i64 1, Value.int .i64 2147483648, Value.int .i64 (-2147483648), Value.int .i64 1099511627776, Value.int .i64 4611686018427387904, Value.int .i64 (-4611686018427387904), Value.int .i64 9223372036854775807, Value.int .i64 (-9223372036854775808)] : Array Value)[r]? = some (.int .i64 x) := by
  match r, h with
  | 0, _ => exact ⟨_, rfl⟩
  | 1, _ => exact ⟨_, rfl⟩
  | 2, _ => exact ⟨_, rfl⟩
  | 3, _ => exact ⟨_, rfl⟩
  | 4, _ => exact ⟨_, rfl⟩
  | 5, _ => exact ⟨_, rfl⟩
  | 6, _ => exact ⟨_, rfl⟩
  | 7, _ => exact ⟨_, rfl⟩
  | 8, _ => exact ⟨_, rfl⟩
  | 9, _ => exact ⟨_, rfl⟩

theorem pick_four {r : Nat} (h : r < 4) (a b c d : Int) : ∃ x : Int, (#[Value.int .i64 a, Value.int .i64 b, Value.int .i64 c, Value.int .i64 d] : Array Value)[r]? = some (.int .i64 x) := by
  match r, h with
  | 0, _ => exact ⟨_, rfl⟩
  | 1, _ => exact ⟨_, rfl⟩
  | 2, _ => exact ⟨_, rfl⟩
  | 3, _ => exact ⟨_, rfl⟩

set_option maxRecDepth 100000 in
set_option maxHeartbeats 1600000 in
theorem drawOdd_any {g : Nat} {a : Option Addr} {len cap : Nat} {w : World} (h : Curs g a len cap w) :
    Calls Tryd.prog 42 #[.pointer (some ⟨g, 0, none⟩)] w fun e w' => ∃ x : Int, e = .returned (.int .i64 x) ∧ Curs g a len cap w' ∧ w.grownBy w' (some g) := by
  have hg := h.lt
  have HH := Lib.hid h
  clear h
  go_enter Tryd.func42, Tryd.ntmps42
  go_wp2_with fail
  refine (curBelow_any 10 (by omega) (HH.out.alloc _)).mono ?_
  rintro e w1 ⟨r, hr, rfl, h1, g1⟩
  have hr10 : r < 10 := by rcases hr with h | h <;> omega
  obtain ⟨x, hx⟩ := pick_odd hr10
  have hcell := (pick_lit g1 hg).trans hx
  have HG := Lib.hid (grown_trans (grown_alloc w _ (some g)) g1)
  have H1 := Lib.hid h1
  clear g1 h1 hx hr HH
  go_wp2
  go_ret
  exact ⟨x, rfl, H1.out, HG.out⟩

theorem specMin_any (x y : Int) (w : World) :
    Calls Tryd.prog 43 #[.int .i64 x, .int .i64 y] w fun e w' => e = .returned (.int .i64 (min x y)) ∧ w = w' := by
  by_cases h : x < y
  · go_enter Tryd.func43, Tryd.ntmps43
    go_wp2
    go_ret
    exact ⟨ret_int (by omega), rfl⟩
  · go_enter Tryd.func43, Tryd.ntmps43
    go_wp2
    go_ret
    exact ⟨ret_int (by omega), rfl⟩

set_option maxRecDepth 100000 in
set_option maxHeartbeats 1600000 in
theorem drawNum_any {g : Nat} {a : Option Addr} {len cap : Nat} {w : World} (most : Nat) (hm : most ≤ 1000000) (h : Curs g a len cap w) :
    Calls Tryd.prog 32 #[.pointer (some ⟨g, 0, none⟩), .int .i64 most] w fun e w' => ∃ x : Int, e = .returned (.int .i64 x) ∧ Curs g a len cap w' ∧ w.grownBy w' (some g) := by
  have HH := Lib.hid h
  have g9 : IntKind.i64.wrap ((most : Int) + 1) = (most : Int) + 1 := by rw [IntKind.wrap_i64]; omega
  clear h
  go_enter Tryd.func32, Tryd.ntmps32
  go_wp2_with fail
  refine (curOnce_any 10 (by omega) HH.out).mono ?_
  rintro e w1 ⟨b1, rfl, h1, g1⟩
  have H1 := Lib.hid h1
  have G1 := Lib.hid g1
  clear h1 g1 HH
  cases b1
  · go_wp2_with fail
    refine (curOnce_any 2 (by omega) H1.out).mono ?_
    rintro e w2 ⟨b2, rfl, h2, g2⟩
    have H2 := Lib.hid h2
    have G2 := Lib.hid (grown_trans G1.out g2)
    clear h2 g2 H1 G1
    cases b2
    · go_wp2_with fail
      have cb := curBelow_any (most + 1) (by omega) H2.out
      rw [show ((most + 1 : Nat) : Int) = (most : Int) + 1 by omega] at cb
      refine cb.mono ?_
      clear cb
      rintro e w3 ⟨r, _, rfl, h3, g3⟩
      have H3 := Lib.hid h3
      have G3 := Lib.hid (grown_trans G2.out g3)
      clear h3 g3 H2 G2
      go_wp2
      go_ret
      exact ⟨_, rfl, H3.out, G3.out⟩
    · go_wp2_with fail
      have cm := specMin_any most 4 w2
      rw [show min (most : Int) 4 = ((min most 4 : Nat) : Int) by omega] at cm
      refine cm.mono ?_
      clear cm
      rintro e w2' ⟨rfl, rfl⟩
      obtain ⟨k, hk⟩ : ∃ k, min most 4 = k := ⟨_, rfl⟩
      rw [hk]
      have hk4 : k ≤ 4 := by omega
      clear hk
      go_wp2_with fail
      have cb := curBelow_any (k + 1) (by omega) H2.out
      rw [show ((k + 1 : Nat) : Int) = (k : Int) + 1 by omega] at cb
      refine cb.mono ?_
      clear cb
      rintro e w3 ⟨r, _, rfl, h3, g3⟩
      have H3 := Lib.hid h3
      have G3 := Lib.hid (grown_trans G2.out g3)
      clear h3 g3 H2 G2
      go_wp2
      go_ret
      exact ⟨_, rfl, H3.out, G3.out⟩
  · go_wp2_with fail
    refine (drawOdd_any H1.out).mono ?_
    rintro e w2 ⟨x, rfl, h2, g2⟩
    have H2 := Lib.hid h2
    have G2 := Lib.hid (grown_trans G1.out g2)
    have hg2 := h2.lt
    clear h2 g2 H1 G1
    go_wp2_with fail
    refine (curBelow_any 4 (by omega) (H2.out.alloc _)).mono ?_
    rintro e w3 ⟨r, hr, rfl, h3, g3⟩
    have hr4 : r < 4 := by rcases hr with h | h <;> omega
    obtain ⟨y, hy⟩ := pick_four hr4 (-1) most (most + 1) x
    have hcell := (pick_lit g3 hg2).trans hy
    have G3 := Lib.hid (grown_trans G2.out (grown_trans (grown_alloc w2 _ (some g)) g3))
    have H3 := Lib.hid h3
    clear g3 h3 hy H2 G2 hr
    go_wp2
    go_ret
    exact ⟨y, rfl, H3.out, G3.out⟩

end Go.Proofs.YtiigllhedlpccaaDoor
