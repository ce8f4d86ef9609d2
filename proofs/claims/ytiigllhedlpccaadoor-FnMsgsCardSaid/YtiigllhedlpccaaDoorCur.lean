/- The walks of the reference's cursor: a byte, a number from 0 to n - 1; of what was there nothing turns but the cursor's own block. -/
import Derived.Test.YtiigllhedlpccaaDoorTexts
namespace Go.Proofs.YtiigllhedlpccaaDoor
open Go.RowKit

/-- Block g holds a cursor over the bytes that lie in 'a'. -/
def CurAt (g : Nat) (a : Option Addr) (len cap : Nat) (w : World) : Prop :=
  ∃ (i : Nat) (h : Int), w.heap[g]? = some (.cells #[.slice a len cap, .int .i64 i, .int .i64 h] 62 (0, 0)) ∧ i ≤ len ∧ len ≤ 4096

/-- The whole of what a walk over a cursor carries on. -/
structure Curs (g : Nat) (a : Option Addr) (len cap : Nat) (w : World) : Prop where
  cur : CurAt g a len cap w
  code : CodeAt g a len w

theorem Curs.lt {g : Nat} {a : Option Addr} {len cap : Nat} {w : World} (h : Curs g a len cap w) : g < w.heap.size := by
  obtain ⟨_, _, hh, _⟩ := h.cur
  exact (Array.getElem?_eq_some_iff.1 hh).1

theorem Curs.after {g : Nat} {a : Option Addr} {len cap : Nat} {w w' : World} (h : Curs g a len cap w) (hb : Below w.heap.size w w') : Curs g a len cap w' := by
  have hlt := h.lt
  obtain ⟨i, x, hh, r⟩ := h.cur
  exact ⟨⟨i, x, (hb.block g hlt).trans hh, r⟩, h.code.below fun k hk => hb.block k (by omega)⟩

theorem Curs.alloc {g : Nat} {a : Option Addr} {len cap : Nat} {w : World} (h : Curs g a len cap w) (o : Obj) : Curs g a len cap (w.alloc o) :=
  h.after ((Below.refl _ _).alloc (Nat.le_refl _) o)

theorem mask_i64 (x : Int) : ∃ r : Nat, r ≤ 255 ∧ bits .and .i64 x 255 = r := by
  have h : 0 ≤ bits .and .i64 x 255 ∧ bits .and .i64 x 255 ≤ 255 := and_i64 x 255 (by decide)
  exact ⟨(bits .and .i64 x 255).toNat, by omega, by omega⟩

set_option maxRecDepth 100000 in
set_option maxHeartbeats 1600000 in
theorem curByte_any {g : Nat} {a : Option Addr} {len cap : Nat} {w : World} (hd : Curs g a len cap w) :
    Calls Tryd.prog 41 #[.pointer (some ⟨g, 0, none⟩)] w fun e w' => ∃ r : Nat, r < 256 ∧ e = .returned (.int .i64 r) ∧ Curs g a len cap w' ∧ w.grownBy w' (some g) := by
  have hglt := hd.lt
  obtain ⟨⟨i, h, hh, hi, hlen⟩, hc⟩ := hd
  have c2 : w.cell? ⟨g, 2, none⟩ = some (.int .i64 h) := by simp [World.cell?, hh]
  have f2 : w.frozen? ⟨g, 2, none⟩ = false := by simp [World.frozen?, hh]
  have HH := Lib.hid hh
  clear hh
  go_enter Tryd.func41, Tryd.ntmps41
  go_wp2_with fail
  generalize wrap64 (wrap64 (h * 6364136223846793005) + 1442695040888963407) = h2
  generalize wrap64 (h * 6364136223846793005) = y1
  have hh3 : (w.setCell ⟨g, 2, none⟩ (.int .i64 h2)).heap[g]? = some (.cells #[.slice a len cap, .int .i64 i, .int .i64 h2] 62 (0, 0)) := heap_setCell_same w g 2 _ _ (.int .i64 h2) HH.out
  have hg3 := grown_setCell w g 2 (.int .i64 h2)
  have hcd := CodeAt.below hc (w' := w.setCell ⟨g, 2, none⟩ (.int .i64 h2)) (fun k hk => Below.heap_setCell _ _ _ _ (by simp; omega))
  have hlt2 : g < (w.setCell ⟨g, 2, none⟩ (.int .i64 h2)).heap.size := by simp [World.setCell]; exact hglt
  generalize w.setCell ⟨g, 2, none⟩ (.int .i64 h2) = w2 at hh3 hg3 hcd hlt2 ⊢
  clear HH c2 f2 hc
  have c0 : w2.cell? ⟨g, 0, none⟩ = some (.slice a len cap) := by simp [World.cell?, hh3]
  have c1 : w2.cell? ⟨g, 1, none⟩ = some (.int .i64 i) := by simp [World.cell?, hh3]
  have c2 : w2.cell? ⟨g, 2, none⟩ = some (.int .i64 h2) := by simp [World.cell?, hh3]
  have f1 : w2.frozen? ⟨g, 1, none⟩ = false := by simp [World.frozen?, hh3]
  have HH := Lib.hid hh3
  have HG := Lib.hid hg3
  have HC := Lib.hid hcd
  clear hh3 hg3 hcd
  go_quiet (fail)
  go_wp2_with fail
  obtain ⟨r, hr1, hr2⟩ := mask_i64 (bits BinOp.xor IntKind.i64 (h2 / 8589934592) (h2 / 35184372088832))
  rw [hr2]
  clear hr2
  generalize bits BinOp.xor IntKind.i64 (h2 / 8589934592) (h2 / 35184372088832) = y2
  generalize h2 / 8589934592 = y3
  generalize h2 / 35184372088832 = y4
  clear c2
  by_cases hil : i < len
  · obtain ⟨b, o, rfl, hcc⟩ : ∃ b o, a = some ⟨b, o, none⟩ ∧ ∀ j, j < len → ∃ z : Nat, z < 256 ∧ w2.cell? ⟨b, o + j, none⟩ = some (.int .u8 z) := by
      rcases HC.out with h | ⟨b, o, h1, _, h2⟩
      · omega
      · exact ⟨b, o, h1, h2⟩
    obtain ⟨z, hz, hcell⟩ := hcc i hil
    clear hcc
    go_quiet (fail)
    go_wp2_with fail
    go_quiet (fail)
    go_wp2_with fail
    obtain ⟨r2, hr3, hr4⟩ := mask_i64 ((r : Int) + (z : Int))
    rw [hr4]
    go_ret
    refine ⟨r2, by omega, rfl, ⟨⟨i + 1, h2, heap_setCell_same (w2.drewN _) g 1 _ _ _ HH.out, hil, hlen⟩, ?_⟩, grown_trans (grown_trans HG.out (grown_drewN _ _ _)) (grown_setCell (w2.drewN _) g 1 _)⟩
    exact HC.out.below fun k hk => Below.heap_setCell _ _ _ _ (by simp; omega)
  · go_quiet (fail)
    go_wp2_with fail
    go_ret
    exact ⟨r, by omega, rfl, ⟨⟨i, h2, HH.out, hi, hlen⟩, HC.out⟩, grown_trans HG.out ⟨rfl, rfl, rfl, Nat.le_refl _, fun _ _ _ => rfl⟩⟩

/-- r is from 0 to n - 1, or 0 where n is 0. -/
def BelowN (n r : Nat) : Prop := r < n ∨ (n = 0 ∧ r = 0)

set_option maxRecDepth 100000 in
set_option maxHeartbeats 1600000 in
/-- A number from 0 to n - 1; 0 where n is 0. -/
theorem curBelow_any {g : Nat} {a : Option Addr} {len cap : Nat} (n : Nat) {w : World} (hn2 : n ≤ 2147483648) (hd : Curs g a len cap w) :
    Calls Tryd.prog 30 #[.pointer (some ⟨g, 0, none⟩), .int .i64 n] w fun e w' => ∃ r : Nat, BelowN n r ∧ e = .returned (.int .i64 r) ∧ Curs g a len cap w' ∧ w.grownBy w' (some g) := by
  by_cases h0 : n = 0
  · subst h0
    go_enter Tryd.func30, Tryd.ntmps30
    go_wp2
    go_ret
    exact ⟨0, .inr ⟨rfl, rfl⟩, rfl, hd, grown_refl _ _⟩
  by_cases h1 : n ≤ 256
  · have HD := Lib.hid hd
    clear hd
    go_enter Tryd.func30, Tryd.ntmps30
    go_wp2_with fail
    refine (curByte_any HD.out).mono ?_
    rintro e w1 ⟨r, hr, rfl, h1, g1⟩
    have H1 := Lib.hid h1
    have G1 := Lib.hid g1
    clear h1 g1 HD
    go_wp2
    go_ret
    exact ⟨r % n, .inl (Nat.mod_lt _ (by omega)), congrArg (fun x => Ending.returned (Value.int .i64 x)) (by simp), H1.out, G1.out⟩
  · have HD := Lib.hid hd
    clear hd
    go_enter Tryd.func30, Tryd.ntmps30
    go_wp2_with fail
    refine (curByte_any HD.out).mono ?_
    rintro e w1 ⟨r1, hr1, rfl, h1, g1⟩
    have H1 := Lib.hid h1
    have G1 := Lib.hid g1
    clear h1 g1 HD
    go_wp2_with fail
    refine (curByte_any H1.out).mono ?_
    rintro e w2 ⟨r2, hr2, rfl, h2, g2⟩
    have H2 := Lib.hid h2
    have G2 := Lib.hid (grown_trans G1.out g2)
    clear h2 g2 H1 G1
    go_wp2_with fail
    refine (curByte_any H2.out).mono ?_
    rintro e w3 ⟨r3, hr3, rfl, h3, g3⟩
    have H3 := Lib.hid h3
    have G3 := Lib.hid (grown_trans G2.out g3)
    clear h3 g3 H2 G2
    go_wp2_with fail
    refine (curByte_any H3.out).mono ?_
    rintro e w4 ⟨r4, hr4, rfl, h4, g4⟩
    have H4 := Lib.hid h4
    have G4 := Lib.hid (grown_trans G3.out g4)
    clear h4 g4 H3 G3
    go_wp2
    go_ret
    exact ⟨(r1 * 16777216 + r2 * 65536 + r3 * 256 + r4) % n, .inl (Nat.mod_lt _ (by omega)), congrArg (fun x => Ending.returned (Value.int .i64 x)) (by simp), H4.out, G4.out⟩

/-- True once in n: either. -/
theorem curOnce_any {g : Nat} {a : Option Addr} {len cap : Nat} (n : Nat) {w : World} (hn2 : n ≤ 2147483648) (hd : Curs g a len cap w) :
    Calls Tryd.prog 31 #[.pointer (some ⟨g, 0, none⟩), .int .i64 n] w fun e w' => ∃ b : Bool, e = .returned (.bool b) ∧ Curs g a len cap w' ∧ w.grownBy w' (some g) := by
  go_enter Tryd.func31, Tryd.ntmps31
  go_wp2_with fail
  refine (curBelow_any n hn2 hd).mono ?_
  rintro e w1 ⟨r, _, rfl, h1, g1⟩
  have H1 := Lib.hid h1
  have G1 := Lib.hid g1
  clear h1 g1 hd
  go_wp2
  go_ret
  exact ⟨_, rfl, H1.out, G1.out⟩

set_option maxRecDepth 100000 in
set_option maxHeartbeats 1600000 in
theorem curNew_any (a : Option Addr) (len cap : Nat) (w : World) (hlen : len ≤ 4096) (hc : CodeAt w.heap.size a len w) :
    Calls Tryd.prog 20 #[.slice a len cap] w fun e w' => e = .returned (.pointer (some ⟨w.heap.size, 0, none⟩)) ∧ Curs w.heap.size a len cap w' ∧ Below w.heap.size w w' := by
  have HC := Lib.hid hc
  clear hc
  go_enter Tryd.func20, Tryd.ntmps20
  go_wp2
  go_loop [3, 4] (fun hv i => ∃ (k : Nat) (h : Int), k ≤ len ∧ i = .int .i64 k ∧ hv = .int .i64 h) (fun _ i => len - (intOf i).toNat)
  case atStart => exact ⟨0, _, Nat.zero_le _, rfl, rfl⟩
  case round =>
    obtain ⟨k, h, hk, rfl, rfl⟩ := hrel
    by_cases hlt : k < len
    · obtain ⟨b, o, rfl, hcc⟩ : ∃ b o, a = some ⟨b, o, none⟩ ∧ ∀ j, j < len → ∃ z : Nat, z < 256 ∧ w.cell? ⟨b, o + j, none⟩ = some (.int .u8 z) := by
        rcases HC.out with h | ⟨b, o, h1, _, h2⟩
        · omega
        · exact ⟨b, o, h1, h2⟩
      obtain ⟨z, hz, hcell⟩ := hcc k hlt
      clear hcc
      go_wp2
      go_round
      case rel => exact ⟨k + 1, _, by omega, by go_num, rfl⟩
      case measure => simp [intOf]; omega
    · obtain rfl : k = len := by omega
      go_wp2
      go_ret
      exact ⟨rfl, ⟨⟨0, h, heap_alloc_new w _, Nat.zero_le _, hlen⟩, HC.out.below fun k hk => Below.heap_alloc _ _ _ hk⟩, (Below.refl _ _).alloc (Nat.le_refl _) _⟩

end Go.Proofs.YtiigllhedlpccaaDoor
