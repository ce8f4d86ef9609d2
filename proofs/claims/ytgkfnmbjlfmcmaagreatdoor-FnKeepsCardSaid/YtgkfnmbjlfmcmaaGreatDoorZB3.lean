/- Small texts, laid together. -/
import Derived.Test.YtgkfnmbjlfmcmaaGreatDoorZB2
import Derived.Test.YtgkfnmbjlfmcmaaGreatDoorZB1
import Derived.Laws.Rows
import Derived.Test.YtgkfnmbjlfmcmaaGreatDoorZCut
set_option linter.unusedSimpArgs false
set_option linter.unusedVariables false
/- The walks of the reference's cursor: a byte, a number from 0 to n - 1; of what was there nothing turns but the cursor's own block. -/
namespace Go.Proofs.YtgkfnmbjlfmcmaaGreatDoor
open Go.RowKit

/-- Block g holds a cursor over the bytes that lie in 'a'. -/
def CurAt (g : Nat) (a : Option Addr) (len cap : Nat) (w : World) : Prop :=
  ∃ (i : Nat) (h : Int), w.heap[g]? = some (.cells #[.slice a len cap, .int .i64 i, .int .i64 h] 62 (0, 0)) ∧ i ≤ len ∧ len ≤ 4096

/-- The whole of what a walk over a cursor carries on. -/
structure Curs (g : Nat) (a : Option Addr) (len cap : Nat) (w : World) : Prop where
  cur : CurAt g a len cap w
  code : CodeAt g a len w

theorem Curs.lt {g : Nat} {a : Option Addr} {len cap : Nat} {w : World} (h : Curs g a len cap w) : g < w.heap.size := by
  obtain ⟨_, _, hh, _⟩ := h.cur
  exact (Array.getElem?_eq_some_iff.1 hh).1

theorem Curs.after {g : Nat} {a : Option Addr} {len cap : Nat} {w w' : World} (h : Curs g a len cap w) (hb : Below w.heap.size w w') : Curs g a len cap w' := by
  have hlt := h.lt
  obtain ⟨i, x, hh, r⟩ := h.cur
  exact ⟨⟨i, x, (hb.block g hlt).trans hh, r⟩, h.code.below fun k hk => hb.block k (by omega)⟩

theorem Curs.alloc {g : Nat} {a : Option Addr} {len cap : Nat} {w : World} (h : Curs g a len cap w) (o : Obj) : Curs g a len cap (w.alloc o) :=
  h.after ((Below.refl _ _).alloc (Nat.le_refl _) o)

theorem mask_i64 (x : Int) : ∃ r : Nat, r ≤ 255 ∧ bits .and .i64 x 255 = r := by
  have h : 0 ≤ bits .and .i64 x 255 ∧ bits .and .i64 x 255 ≤ 255 := and_i64 x 255 (by decide)
  exact ⟨(bits .and .i64 x 255).toNat, by omega, by omega⟩

set_option maxRecDepth 100000 in
set_option maxHeartbeats 1600000 in
theorem curByte_any {g : Nat} {a : Option Addr} {len cap : Nat} {w : World} (hd : Curs g a len cap w) :
    Calls Tryz.prog 40 #[.pointer (some ⟨g, 0, none⟩)] w fun e w' => ∃ r : Nat, r < 256 ∧ e = .returned (.int .i64 r) ∧ Curs g a len cap w' ∧ w.grownBy w' (some g) := by
  have hglt := hd.lt
  obtain ⟨⟨i, h, hh, hi, hlen⟩, hc⟩ := hd
  have c2 : w.cell? ⟨g, 2, none⟩ = some (.int .i64 h) := by simp [World.cell?, hh]
  have f2 : w.frozen? ⟨g, 2, none⟩ = false := by simp [World.frozen?, hh]
  have HH := Lib.hid hh
  clear hh
  go_enter Tryz.func40, Tryz.ntmps40
  go_wp2_with fail
  generalize wrap64 (wrap64 (h * 6364136223846793005) + 1442695040888963407) = h2
  generalize wrap64 (h * 6364136223846793005) = y1
  have hh3 : (w.setCell ⟨g, 2, none⟩ (.int .i64 h2)).heap[g]? = some (.cells #[.slice a len cap, .int .i64 i, .int .i64 h2] 62 (0, 0)) := heap_setCell_same w g 2 _ _ (.int .i64 h2) HH.out
  have hg3 := grown_setCell w g 2 (.int .i64 h2)
  have hcd := CodeAt.below hc (w' := w.setCell ⟨g, 2, none⟩ (.int .i64 h2)) (fun k hk => Below.heap_setCell _ _ _ _ (by simp; omega))
  have hlt2 : g < (w.setCell ⟨g, 2, none⟩ (.int .i64 h2)).heap.size := by simp [World.setCell]; exact hglt
  generalize w.setCell ⟨g, 2, none⟩ (.int .i64 h2) = w2 at hh3 hg3 hcd hlt2 ⊢
  clear HH c2 f2 hc
  have c0 : w2.cell? ⟨g, 0, none⟩ = some (.slice a len cap) := by simp [World.cell?, hh3]
  have c1 : w2.cell? ⟨g, 1, none⟩ = some (.int .i64 i) := by simp [World.cell?, hh3]
  have c2 : w2.cell? ⟨g, 2, none⟩ = some (.int .i64 h2) := by simp [World.cell?, hh3]
  have f1 : w2.frozen? ⟨g, 1, none⟩ = false := by simp [World.frozen?, hh3]
  have HH := Lib.hid hh3
  have HG := Lib.hid hg3
  have HC := Lib.hid hcd
  clear hh3 hg3 hcd
  go_quiet (fail)
  go_wp2_with fail
  obtain ⟨r, hr1, hr2⟩ := mask_i64 (bits BinOp.xor IntKind.i64 (h2 / 8589934592) (h2 / 35184372088832))
  rw [hr2]
  clear hr2
  generalize bits BinOp.xor IntKind.i64 (h2 / 8589934592) (h2 / 35184372088832) = y2
  generalize h2 / 8589934592 = y3
  generalize h2 / 35184372088832 = y4
  clear c2
  by_cases hil : i < len
  · obtain ⟨b, o, rfl, hcc⟩ : ∃ b o, a = some ⟨b, o, none⟩ ∧ ∀ j, j < len → ∃ z : Nat, z < 256 ∧ w2.cell? ⟨b, o + j, none⟩ = some (.int .u8 z) := by
      rcases HC.out with h | ⟨b, o, h1, _, h2⟩
      · omega
      · exact ⟨b, o, h1, h2⟩
    obtain ⟨z, hz, hcell⟩ := hcc i hil
    clear hcc
    go_quiet (fail)
    go_wp2_with fail
    go_quiet (fail)
    go_wp2_with fail
    obtain ⟨r2, hr3, hr4⟩ := mask_i64 ((r : Int) + (z : Int))
    rw [hr4]
    go_ret
    refine ⟨r2, by omega, rfl, ⟨⟨i + 1, h2, heap_setCell_same (w2.drewN _) g 1 _ _ _ HH.out, hil, hlen⟩, ?_⟩, grown_trans (grown_trans HG.out (grown_drewN _ _ _)) (grown_setCell (w2.drewN _) g 1 _)⟩
    exact HC.out.below fun k hk => Below.heap_setCell _ _ _ _ (by simp; omega)
  · go_quiet (fail)
    go_wp2_with fail
    go_ret
    exact ⟨r, by omega, rfl, ⟨⟨i, h2, HH.out, hi, hlen⟩, HC.out⟩, grown_trans HG.out ⟨rfl, rfl, rfl, Nat.le_refl _, fun _ _ _ => rfl⟩⟩

/-- r is from 0 to n - 1, or 0 where n is 0. -/
def BelowN (n r : Nat) : Prop := r < n ∨ (n = 0 ∧ r = 0)

set_option maxRecDepth 100000 in
set_option maxHeartbeats 1600000 in
/-- A number from 0 to n - 1; 0 where n is 0. -/
theorem curBelow_any {g : Nat} {a : Option Addr} {len cap : Nat} (n : Nat) {w : World} (hn2 : n ≤ 2147483648) (hd : Curs g a len cap w) :
    Calls Tryz.prog 20 #[.pointer (some ⟨g, 0, none⟩), .int .i64 n] w fun e w' => ∃ r : Nat, BelowN n r ∧ e = .returned (.int .i64 r) ∧ Curs g a len cap w' ∧ w.grownBy w' (some g) := by
  by_cases h0 : n = 0
  · subst h0
    go_enter Tryz.func20, Tryz.ntmps20
    go_wp2
    go_ret
    exact ⟨0, .inr ⟨rfl, rfl⟩, rfl, hd, grown_refl _ _⟩
  by_cases h1 : n ≤ 256
  · have HD := Lib.hid hd
    clear hd
    go_enter Tryz.func20, Tryz.ntmps20
    go_wp2_with fail
    refine (curByte_any HD.out).mono ?_
    rintro e w1 ⟨r, hr, rfl, h1, g1⟩
    have H1 := Lib.hid h1
    have G1 := Lib.hid g1
    clear h1 g1 HD
    go_wp2
    go_ret
    exact ⟨r % n, .inl (Nat.mod_lt _ (by omega)), congrArg (fun x => Ending.returned (Value.int .i64 x)) (by simp), H1.out, G1.out⟩
  · have HD := Lib.hid hd
    clear hd
    go_enter Tryz.func20, Tryz.ntmps20
    go_wp2_with fail
    refine (curByte_any HD.out).mono ?_
    rintro e w1 ⟨r1, hr1, rfl, h1, g1⟩
    have H1 := Lib.hid h1
    have G1 := Lib.hid g1
    clear h1 g1 HD
    go_wp2_with fail
    refine (curByte_any H1.out).mono ?_
    rintro e w2 ⟨r2, hr2, rfl, h2, g2⟩
    have H2 := Lib.hid h2
    have G2 := Lib.hid (grown_trans G1.out g2)
    clear h2 g2 H1 G1
    go_wp2_with fail
    refine (curByte_any H2.out).mono ?_
    rintro e w3 ⟨r3, hr3, rfl, h3, g3⟩
    have H3 := Lib.hid h3
    have G3 := Lib.hid (grown_trans G2.out g3)
    clear h3 g3 H2 G2
    go_wp2_with fail
    refine (curByte_any H3.out).mono ?_
    rintro e w4 ⟨r4, hr4, rfl, h4, g4⟩
    have H4 := Lib.hid h4
    have G4 := Lib.hid (grown_trans G3.out g4)
    clear h4 g4 H3 G3
    go_wp2
    go_ret
    exact ⟨(r1 * 16777216 + r2 * 65536 + r3 * 256 + r4) % n, .inl (Nat.mod_lt _ (by omega)), congrArg (fun x => Ending.returned (Value.int .i64 x)) (by simp), H4.out, G4.out⟩

/-- True once in n: either. -/
theorem curOnce_any {g : Nat} {a : Option Addr} {len cap : Nat} (n : Nat) {w : World} (hn2 : n ≤ 2147483648) (hd : Curs g a len cap w) :
    Calls Tryz.prog 19 #[.pointer (some ⟨g, 0, none⟩), .int .i64 n] w fun e w' => ∃ b : Bool, e = .returned (.bool b) ∧ Curs g a len cap w' ∧ w.grownBy w' (some g) := by
  go_enter Tryz.func19, Tryz.ntmps19
  go_wp2_with fail
  refine (curBelow_any n hn2 hd).mono ?_
  rintro e w1 ⟨r, _, rfl, h1, g1⟩
  have H1 := Lib.hid h1
  have G1 := Lib.hid g1
  clear h1 g1 hd
  go_wp2
  go_ret
  exact ⟨_, rfl, H1.out, G1.out⟩

set_option maxRecDepth 100000 in
set_option maxHeartbeats 1600000 in
theorem curNew_any (a : Option Addr) (len cap : Nat) (w : World) (hlen : len ≤ 4096) (hc : CodeAt w.heap.size a len w) :
    Calls Tryz.prog 16 #[.slice a len cap] w fun e w' => e = .returned (.pointer (some ⟨w.heap.size, 0, none⟩)) ∧ Curs w.heap.size a len cap w' ∧ Below w.heap.size w w' := by
  have HC := Lib.hid hc
  clear hc
  go_enter Tryz.func16, Tryz.ntmps16
  go_wp2
  go_loop [3, 4] (fun hv i => ∃ (k : Nat) (h : Int), k ≤ len ∧ i = .int .i64 k ∧ hv = .int .i64 h) (fun _ i => len - (intOf i).toNat)
  case atStart => exact ⟨0, _, Nat.zero_le _, rfl, rfl⟩
  case round =>
    obtain ⟨k, h, hk, rfl, rfl⟩ := hrel
    by_cases hlt : k < len
    · obtain ⟨b, o, rfl, hcc⟩ : ∃ b o, a = some ⟨b, o, none⟩ ∧ ∀ j, j < len → ∃ z : Nat, z < 256 ∧ w.cell? ⟨b, o + j, none⟩ = some (.int .u8 z) := by
        rcases HC.out with h | ⟨b, o, h1, _, h2⟩
        · omega
        · exact ⟨b, o, h1, h2⟩
      obtain ⟨z, hz, hcell⟩ := hcc k hlt
      clear hcc
      go_wp2
      go_round
      case rel => exact ⟨k + 1, _, by omega, by go_num, rfl⟩
      case measure => simp [intOf]; omega
    · obtain rfl : k = len := by omega
      go_wp2
      go_ret
      exact ⟨rfl, ⟨⟨0, h, heap_alloc_new w _, Nat.zero_le _, hlen⟩, HC.out.below fun k hk => Below.heap_alloc _ _ _ hk⟩, (Below.refl _ _).alloc (Nat.le_refl _) _⟩

end Go.Proofs.YtgkfnmbjlfmcmaaGreatDoor

/- The walks of the reference's drawn texts: short ones; of what was there nothing turns but the cursor's own block. -/
namespace Go.Proofs.YtgkfnmbjlfmcmaaGreatDoor
open Go.RowKit

theorem pick_small6 {r : Nat} (h : r < 6) : ∃ x : ByteArray, (#[Value.string ⟨#[97]⟩, Value.string ⟨#[98]⟩, Value.string ⟨#[99]⟩, Value.string ⟨#[120, 49]⟩, Value.string ⟨#[43]⟩, Value.string ⟨#[43]⟩] : Array Value)[r]? = some (.string x) ∧ x.size ≤ 2 := by
  match r, h with
  | 0, _ => exact ⟨_, rfl, by decide⟩
  | 1, _ => exact ⟨_, rfl, by decide⟩
  | 2, _ => exact ⟨_, rfl, by decide⟩
  | 3, _ => exact ⟨_, rfl, by decide⟩
  | 4, _ => exact ⟨_, rfl, by decide⟩
  | 5, _ => exact ⟨_, rfl, by decide⟩

theorem pick_small4 {r : Nat} (h : r < 4) : ∃ x : ByteArray, (#[Value.string ⟨#[97]⟩, Value.string ⟨#[98]⟩, Value.string ⟨#[99]⟩, Value.string ⟨#[120, 49]⟩] : Array Value)[r]? = some (.string x) ∧ x.size ≤ 2 := by
  match r, h with
  | 0, _ => exact ⟨_, rfl, by decide⟩
  | 1, _ => exact ⟨_, rfl, by decide⟩
  | 2, _ => exact ⟨_, rfl, by decide⟩
  | 3, _ => exact ⟨_, rfl, by decide⟩

theorem size_app0 (s y : ByteArray) : (s ++ y).size = s.size + y.size := ByteArray.size_append
theorem size_slash : (⟨#[47]⟩ : ByteArray).size = 1 := rfl
theorem size_hash : (⟨#[47, 35]⟩ : ByteArray).size = 2 := rfl

set_option maxRecDepth 100000 in
set_option maxHeartbeats 1600000 in
theorem drawFilter_any {g : Nat} {a : Option Addr} {len cap : Nat} {w : World} (h : Curs g a len cap w) :
    Calls Tryz.prog 29 #[.pointer (some ⟨g, 0, none⟩)] w fun e w' => ∃ s : ByteArray, e = .returned (.string s) ∧ s.size ≤ 11 ∧ Curs g a len cap w' ∧ w.grownBy w' (some g) := by
  have HH := Lib.hid h
  clear h
  go_enter Tryz.func29, Tryz.ntmps29
  go_wp2_with fail
  refine (curBelow_any 3 (by omega) HH.out).mono ?_
  rintro e w1 ⟨r, hr, rfl, h1, g1⟩
  have H1 := Lib.hid h1
  have G1 := Lib.hid g1
  have hr3 : r ≤ 2 := by rcases hr with h | h <;> omega
  clear h1 g1 HH hr
  go_wp2_with fail
  go_loopw [3, 4] (fun sv nv wr => ∃ (s : ByteArray) (k : Nat), sv = .string s ∧ nv = .int .i64 k ∧ s.size + 3 * k ≤ 9 ∧ Hid (Curs g a len cap wr) ∧ Hid (w.grownBy wr (some g))) (fun _ nv _ => (intOf nv).toNat)
  case atStart => exact ⟨_, 1 + r, rfl, congrArg (Value.int .i64) (by omega), by show 0 + _ ≤ _; omega, H1, G1⟩
  case round =>
    obtain ⟨s, k, rfl, rfl, hsz, HR, HW⟩ := hrel
    clear H1 G1 hr3
    by_cases hk : 0 < k
    · have hg2 := HR.out.lt
      go_wp2_with fail
      all_goals
        refine (curBelow_any 6 (by omega) (HR.out.alloc _)).mono ?_
        rintro e w3 ⟨r3, hr3, rfl, h3, g3⟩
        obtain ⟨y, hy, hys⟩ := pick_small6 (r := r3) (by rcases hr3 with h | h <;> omega)
        have hr6 : r3 < 6 := by rcases hr3 with h | h <;> omega
        have hcell := (pick_lit g3 hg2).trans hy
        have HG3 := Lib.hid (grown_trans HW.out (grown_trans (grown_alloc wr _ (some g)) g3))
        have H3 := Lib.hid h3
        clear g3 h3 hy HR HW hr3
        go_wp2
        go_roundw
        case rel => exact ⟨_, k - 1, rfl, congrArg (Value.int .i64) (by omega), by simp only [size_app0, size_slash]; omega, H3, HG3⟩
        case measure => simp only [intOf]; omega
    · go_wp2_with fail
      refine (curBelow_any 5 (by omega) HR.out).mono ?_
      rintro e w3 ⟨r3, hr3, rfl, h3, g3⟩
      have HG3 := Lib.hid (grown_trans HW.out g3)
      have H3 := Lib.hid h3
      clear g3 h3 HR HW hr3
      go_wp2
      all_goals
        go_ret
        exact ⟨_, rfl, by first | omega | (simp only [size_app0, size_hash]; omega) | decide, H3.out, HG3.out⟩

set_option maxRecDepth 100000 in
set_option maxHeartbeats 1600000 in
theorem drawTopic_any {g : Nat} {a : Option Addr} {len cap : Nat} {w : World} (h : Curs g a len cap w) :
    Calls Tryz.prog 48 #[.pointer (some ⟨g, 0, none⟩)] w fun e w' => ∃ s : ByteArray, e = .returned (.string s) ∧ s.size ≤ 11 ∧ Curs g a len cap w' ∧ w.grownBy w' (some g) := by
  have HH := Lib.hid h
  clear h
  go_enter Tryz.func48, Tryz.ntmps48
  go_wp2_with fail
  refine (curBelow_any 3 (by omega) HH.out).mono ?_
  rintro e w1 ⟨r, hr, rfl, h1, g1⟩
  have H1 := Lib.hid h1
  have G1 := Lib.hid g1
  have hr3 : r ≤ 2 := by rcases hr with h | h <;> omega
  clear h1 g1 HH hr
  go_wp2_with fail
  go_loopw [3, 4] (fun sv nv wr => ∃ (s : ByteArray) (k : Nat), sv = .string s ∧ nv = .int .i64 k ∧ s.size + 3 * k ≤ 9 ∧ Hid (Curs g a len cap wr) ∧ Hid (w.grownBy wr (some g))) (fun _ nv _ => (intOf nv).toNat)
  case atStart => exact ⟨_, 1 + r, rfl, congrArg (Value.int .i64) (by omega), by show 0 + _ ≤ _; omega, H1, G1⟩
  case round =>
    obtain ⟨s, k, rfl, rfl, hsz, HR, HW⟩ := hrel
    clear H1 G1 hr3
    by_cases hk : 0 < k
    · have hg2 := HR.out.lt
      go_wp2_with fail
      all_goals
        refine (curBelow_any 4 (by omega) (HR.out.alloc _)).mono ?_
        rintro e w3 ⟨r3, hr3, rfl, h3, g3⟩
        obtain ⟨y, hy, hys⟩ := pick_small4 (r := r3) (by rcases hr3 with h | h <;> omega)
        have hr6 : r3 < 4 := by rcases hr3 with h | h <;> omega
        have hcell := (pick_lit g3 hg2).trans hy
        have HG3 := Lib.hid (grown_trans HW.out (grown_trans (grown_alloc wr _ (some g)) g3))
        have H3 := Lib.hid h3
        clear g3 h3 hy HR HW hr3
        go_wp2
        go_roundw
        case rel => exact ⟨_, k - 1, rfl, congrArg (Value.int .i64) (by omega), by simp only [size_app0, size_slash]; omega, H3, HG3⟩
        case measure => simp only [intOf]; omega
    · go_wp2
      go_ret
      exact ⟨_, rfl, by omega, HR.out, HW.out⟩

end Go.Proofs.YtgkfnmbjlfmcmaaGreatDoor

/- The walks of the laws' texts by dice: a topic and a filter of at most three words. -/
namespace Go.Proofs.YtgkfnmbjlfmcmaaGreatDoor
open Go.RowKit
set_option maxRecDepth 100000 in
set_option maxHeartbeats 1600000 in
theorem topic_any {g : Nat} {a : Option Addr} {len cap : Nat} {w : World} (h : Rolls g a len cap w) :
    Calls Tryz.prog 15 #[.pointer (some ⟨g, 0, none⟩)] w fun e w' => ∃ (s : ByteArray) (n : Nat), e = .returned (.string s) ∧ n ≤ 3 ∧ NameN false s n ∧ s.size ≤ 8 ∧ Rolls g a len cap w' ∧ w.grownBy w' (some g) := by
  have hg := h.lt
  go_enter Tryz.func15, Tryz.ntmps15
  go_wp2_with fail
  refine (roll_below 4 (by omega) (by omega) (h.alloc _)).mono ?_
  rintro e w1 ⟨r, hr, rfl, h1, g1⟩
  obtain ⟨x, hx, hgood, hxs⟩ := pick_topic1 hr
  have hcell := (pick_lit g1 hg).trans hx
  have HG := Lib.hid (grown_trans (grown_alloc w _ (some g)) g1)
  have H1 := Lib.hid h1
  have HN := Lib.hid (NameN.one hgood)
  clear g1 h1 hx hgood h
  go_wp2_with fail
  refine (roll_below 3 (by omega) (by omega) H1.out).mono ?_
  rintro e w2 ⟨r2, hr2, rfl, h2, g2⟩
  have HG2 := Lib.hid (grown_trans HG.out g2)
  have H2 := Lib.hid h2
  clear g2 h2 H1 HG hcell
  go_wp2_with fail
  go_loopw [3, 4] (fun sv nv wr => ∃ (s : ByteArray) (k n : Nat), sv = .string s ∧ nv = .int .i64 k ∧ k + n ≤ 3 ∧ Hid (NameN false s n) ∧ s.size ≤ 2 + 2 * n ∧ Hid (Rolls g a len cap wr) ∧ Hid (w.grownBy wr (some g))) (fun _ nv _ => (intOf nv).toNat)
  case atStart => exact ⟨x, r2, 1, rfl, rfl, by omega, HN, by omega, H2, HG2⟩
  case round =>
    obtain ⟨s, k, n, rfl, rfl, hkn, HS, hsz, HR, HW⟩ := hrel
    clear HN H2 HG2 hxs hr2
    by_cases hk : 0 < k
    · have hg2 := HR.out.lt
      go_wp2_with fail
      refine (roll_below 3 (by omega) (by omega) (HR.out.alloc _)).mono ?_
      rintro e w3 ⟨r3, hr3, rfl, h3, g3⟩
      obtain ⟨y, hy, hgy, hys⟩ := pick_topic2 hr3
      have hcell := (pick_lit g3 hg2).trans hy
      have HG3 := Lib.hid (grown_trans HW.out (grown_trans (grown_alloc wr _ (some g)) g3))
      have H3 := Lib.hid h3
      have HN := Lib.hid (NameN.next HS.out hgy)
      clear g3 h3 hy hgy HR HW HS
      go_wp2
      go_roundw
      case rel => exact ⟨_, k - 1, n + 1, rfl, congrArg (Value.int .i64) (by omega), by omega, HN, by rw [size_app1]; omega, H3, HG3⟩
      case measure => simp only [intOf]; omega
    · go_wp2
      go_ret
      exact ⟨s, n, rfl, by omega, HS.out, by omega, HR.out, HW.out⟩


end Go.Proofs.YtgkfnmbjlfmcmaaGreatDoor

/- The walks of impl.PartsOf and impl.TopicOk: is a text a topic? -/
namespace Go.Proofs.YtgkfnmbjlfmcmaaGreatDoor
open Go.RowKit

set_option maxRecDepth 100000 in
set_option maxHeartbeats 800000 in
theorem implTopic_any (s : ByteArray) (m : Int) (w : World) (hs : s.size ≤ 1048576) (hm : w.cell? ⟨0, 0, none⟩ = some (.int .i64 m)) :
    Calls Tryz.prog 51 #[.string s] w fun e w' => e = .returned (.bool (topicP (parts s 47))) ∧ Below w.heap.size w w' := by
  have hpos := parts_pos s 47
  have hple := parts_le s 47
  have hps : Hid (∀ p ∈ parts s 47, p.size ≤ s.size) := Lib.hid (fun p h => parts_size h)
  obtain ⟨l, hl⟩ : ∃ l, parts s 47 = l := ⟨_, rfl⟩
  have hc := implParts_any s m w hs hm
  rw [hl] at hpos hple hps hc ⊢
  clear hl hm
  by_cases h6 : l.length ≤ 6
  · go_enter Tryz.func51, Tryz.ntmps51
    go_wp2_with (go_at_call 66; refine hc.mono ?_; clear hc; rintro e w1 ⟨v, rfl, h1, h2⟩; obtain ⟨g, cap, rfl, hg1, hg2, hcell, _⟩ := row_open h1 hpos; have HC := Lib.hid hcell; have H2 := Lib.hid h2; clear h1 h2 hcell)
    go_loopw [13] (fun i wr => ∃ k : Nat, k ≤ l.length ∧ i = .int .i64 k ∧ Hid ((l.take k).all isWord = true) ∧ Hid (Below w1.heap.size w1 wr)) (fun i _ => l.length - (intOf i).toNat)
    case atStart => exact ⟨0, Nat.zero_le _, rfl, rfl, Below.refl _ _⟩
    case round =>
      obtain ⟨k, hk, rfl, HL, HW⟩ := hrel
      by_cases hlt : k < l.length
      · have hcx : wr.cell? ⟨g, k, none⟩ = some (.string l[k]) := (HW.out.cell hg2).trans (HC.out k hlt)
        have hsz : Hid (l[k].size ≤ maxLen) := Lib.hid (by have := hps.out _ (List.getElem_mem hlt); unfold maxLen; omega)
        cases hw : isWord l[k]
        · have HB := Lib.hid (topicP_bad hlt hw)
          have cw := wordOk_any l[k] wr hsz.out
          rw [hw] at cw
          clear hw
          go_wp2_with (go_at_call 67; refine cw.mono ?_; rintro e w' ⟨rfl, hb⟩)
          go_ret
          exact ⟨ret_bool HB.out.symm, H2.out.trans ((HW.out.trans (hb.mono HW.out.size)).mono H2.out.size)⟩
        · have HN : Hid ((l.take (k + 1)).all isWord = true) := Lib.hid (by rw [all_snoc l k hlt, HL.out, hw]; rfl)
          have cw := wordOk_any l[k] wr hsz.out
          rw [hw] at cw
          clear hw
          go_wp2_with (go_at_call 67; refine cw.mono ?_; rintro e w' ⟨rfl, hb⟩)
          go_roundw
          case rel => exact ⟨k + 1, by omega, by go_num, HN, HW.out.trans (hb.mono HW.out.size)⟩
          case measure => simp [intOf]; omega
      · obtain rfl : k = l.length := by omega
        have HE := Lib.hid (topicP_end HL.out)
        clear HL
        go_wp2
        go_ret
        exact ⟨ret_bool (by rw [HE.out]; grind), H2.out.trans (HW.out.mono H2.out.size)⟩
  · have hf : Hid (topicP l = false) := Lib.hid (by simp [topicP, h6])
    go_enter Tryz.func51, Tryz.ntmps51
    go_wp2_with (go_at_call 66; refine hc.mono ?_; clear hc; rintro e w1 ⟨v, rfl, h1, h2⟩; obtain ⟨g, cap, rfl, hg1, hg2, hcell, _⟩ := row_open h1 hpos; have HC := Lib.hid hcell; have H2 := Lib.hid h2; clear h1 h2 hcell)
    go_ret
    exact ⟨ret_bool hf.out.symm, H2.out⟩

end Go.Proofs.YtgkfnmbjlfmcmaaGreatDoor

/- The walk of impl.MsgOk: a message that embeds where it is from. -/
namespace Go.Proofs.YtgkfnmbjlfmcmaaGreatDoor
open Go.RowKit

theorem implTask_any (f : Int) (w : World) :
    Calls Tryz.prog 59 #[.int .i64 f] w fun e w' => e = .returned (.bool (decide (0 ≤ f) && decide (f ≤ 7))) ∧ w' = w := by
  by_cases h1 : 0 ≤ f
  · have g1 : decide (0 ≤ f) = true := decide_eq_true h1
    have g2 : decide (f ≤ 7) = decide (f < 8) := by congr 1; simp; omega
    go_enter Tryz.func59, Tryz.ntmps59
    go_wp2
    go_ret
    exact ⟨ret_bool (by rw [g1, g2]; simp), rfl⟩
  · have g1 : decide (0 ≤ f) = false := decide_eq_false h1
    go_enter Tryz.func59, Tryz.ntmps59
    go_wp2
    go_ret
    exact ⟨ret_bool rfl, rfl⟩

theorem implBody_any (f : Int) (w : World) :
    Calls Tryz.prog 60 #[.int .i64 f] w fun e w' => e = .returned (.bool (decide (0 ≤ f) && decide (f ≤ 9999))) ∧ w' = w := by
  by_cases h1 : 0 ≤ f
  · have g1 : decide (0 ≤ f) = true := decide_eq_true h1
    go_enter Tryz.func60, Tryz.ntmps60
    go_wp2
    go_ret
    exact ⟨ret_bool (by rw [g1]; simp), rfl⟩
  · have g1 : decide (0 ≤ f) = false := decide_eq_false h1
    go_enter Tryz.func60, Tryz.ntmps60
    go_wp2
    go_ret
    exact ⟨ret_bool rfl, rfl⟩

set_option maxRecDepth 100000 in
set_option maxHeartbeats 1600000 in
theorem messageOf_any (x : MsgM) (w : World) :
    Calls Tryz.prog 41 #[magg x] w fun e w' => e = .returned (magg x) ∧ Below w.heap.size w w' := by
  obtain ⟨q, f, p, d⟩ := x
  go_enter Tryz.func41, Tryz.ntmps41
  go_wp2
  refine bodyPost_ret (results_cell_row rfl _ _ (w.heap.size + 1) _ _ _ _ rfl (heap_alloc2_new _ _ _) Tryz.underlying69 rfl (by kernel_rfl)) rfl ?_
  exact ⟨rfl, ((Below.refl _ _).alloc (Nat.le_refl _) _).alloc (by simp) _⟩

set_option maxRecDepth 100000 in
set_option maxHeartbeats 1600000 in
theorem isRight_any (x : MsgM) (m : Int) (w : World) (hs : x.2.2.1.size ≤ 1048576) (hm : w.cell? ⟨0, 0, none⟩ = some (.int .i64 m)) :
    Calls Tryz.prog 42 #[magg x] w fun e w' => e = .returned (.bool (msgB x)) ∧ Below w.heap.size w w' := by
  obtain ⟨q, f, p, d⟩ := x
  dsimp only at hs
  have C2 := Lib.hid (fun w' => implTask_any f w')
  have C3 := Lib.hid (fun w' hm => implTopic_any p m w' hs hm)
  have C4 := Lib.hid (fun w' => implBody_any d w')
  have HB : Hid (msgB (q, f, p, d) = ((decide (1 ≤ q) && decide (q ≤ 100000)) && (decide (0 ≤ f) && decide (f ≤ 7)) && topicP (parts p 47) && (decide (0 ≤ d) && decide (d ≤ 9999)))) := rfl
  generalize (decide (0 ≤ f) && decide (f ≤ 7)) = b2 at C2 HB
  generalize topicP (parts p 47) = b3 at C3 HB
  generalize (decide (0 ≤ d) && decide (d ≤ 9999)) = b4 at C4 HB
  have HM := Lib.hid hm
  clear hs hm
  go_enter Tryz.func42, Tryz.ntmps42
  by_cases h1 : 1 ≤ q
  · by_cases h2 : q ≤ 100000
    · have g1 : decide (1 ≤ q) = true := decide_eq_true h1
      have g2 : decide (q ≤ 100000) = true := decide_eq_true h2
      go_wp2_with fail
      refine (C2.out _).mono ?_
      rintro e w1 ⟨rfl, rfl⟩
      cases b2
      · go_wp2
        go_ret
        exact ⟨ret_bool (by rw [HB.out]; simp), (Below.refl _ _).alloc (Nat.le_refl _) _⟩
      go_wp2_with fail
      have b0 : Below w.heap.size w (w.alloc (.cells #[.int .i64 q, .int .i64 f, .string p, .int .i64 d] 69)) := (Below.refl _ _).alloc (Nat.le_refl _) _
      have s0 : w.heap.size < (w.alloc (.cells #[.int .i64 q, .int .i64 f, .string p, .int .i64 d] 69)).heap.size := by simp
      have c0 : (w.alloc (.cells #[.int .i64 q, .int .i64 f, .string p, .int .i64 d] 69)).cell? ⟨w.heap.size, 3, none⟩ = some (.int .i64 d) := by rw [World.cell?_alloc_at _ _ _ _ rfl]; rfl
      have HM0 := Lib.hid ((b0.cell (World.block_lt_of_cell? _ _ HM.out)).trans HM.out)
      generalize w.alloc (.cells #[.int .i64 q, .int .i64 f, .string p, .int .i64 d] 69) = w0 at b0 s0 c0 HM0 ⊢
      refine (C3.out _ HM0.out).mono ?_
      rintro e w1 ⟨rfl, hb⟩
      have c1 := (below_cell hb s0).trans c0
      have B1 := Lib.hid (b0.trans (hb.mono b0.size))
      clear b0 s0 c0 hb
      cases b3
      · go_wp2
        go_ret
        exact ⟨ret_bool (by rw [HB.out]; simp), B1.out⟩
      go_wp2_with fail
      refine (C4.out _).mono ?_
      rintro e w2 ⟨rfl, rfl⟩
      go_wp2
      go_ret
      exact ⟨ret_bool (by rw [HB.out, decide_eq_true h1, decide_eq_true h2]; simp), B1.out⟩
    · have g1 : decide (1 ≤ q) = true := decide_eq_true h1
      have g2 : decide (q ≤ 100000) = false := decide_eq_false h2
      go_wp2
      go_ret
      exact ⟨ret_bool (by rw [HB.out, g2]; simp), (Below.refl _ _).alloc (Nat.le_refl _) _⟩
  · have g1 : decide (1 ≤ q) = false := decide_eq_false h1
    go_wp2
    go_ret
    exact ⟨ret_bool (by rw [HB.out, g1]; simp), (Below.refl _ _).alloc (Nat.le_refl _) _⟩

set_option maxRecDepth 100000 in
set_option maxHeartbeats 800000 in
theorem implMsgOk_any (x : MsgM) (m : Int) (w : World) (hs : x.2.2.1.size ≤ 1048576) (hm : w.cell? ⟨0, 0, none⟩ = some (.int .i64 m)) :
    Calls Tryz.prog 22 #[magg x] w fun e w' => e = .returned (.bool (msgB x)) ∧ Below w.heap.size w w' := by
  have C1 := Lib.hid (fun w' => messageOf_any x w')
  have C2 := Lib.hid (fun w' hm => isRight_any x m w' hs hm)
  have HM := Lib.hid hm
  generalize msgB x = b at C2 ⊢
  obtain ⟨q, f, p, d⟩ := x
  clear hs hm
  go_enter Tryz.func22, Tryz.ntmps22
  go_wp2_with fail
  have b0 : Below w.heap.size w (w.alloc (.cells #[.int .i64 q, .int .i64 f, .string p, .int .i64 d] 26)) := (Below.refl _ _).alloc (Nat.le_refl _) _
  have HM0 := Lib.hid ((b0.cell (World.block_lt_of_cell? _ _ HM.out)).trans HM.out)
  generalize w.alloc (.cells #[.int .i64 q, .int .i64 f, .string p, .int .i64 d] 26) = w0 at b0 HM0 ⊢
  refine (C1.out _).mono ?_
  rintro e w1 ⟨rfl, hb1⟩
  have HM1 := Lib.hid ((hb1.cell (World.block_lt_of_cell? _ _ HM0.out)).trans HM0.out)
  have HB1 := Lib.hid (b0.trans (hb1.mono b0.size))
  clear b0 hb1
  go_wp2_with fail
  refine (C2.out _ HM1.out).mono ?_
  rintro e w2 ⟨rfl, hb2⟩
  have HB2 := Lib.hid (below_end HB1.out hb2)
  go_wp2
  go_ret
  exact ⟨rfl, HB2.out⟩

end Go.Proofs.YtgkfnmbjlfmcmaaGreatDoor

/- Plain mathematics of chapter 3: a right trie. -/
namespace Go.Proofs.YtgkfnmbjlfmcmaaGreatDoor

/-- a is ahead of b, or b itself. -/
def leB (a b : ByteArray) : Bool := Op.bytesLess a.toList b.toList || a.toList == b.toList

def knot0 : KnotM := (⟨#[]⟩, [])

/-- Is the k-th knot as it should be? -/
def knotOk (l : List KnotM) (p q : KnotM) : Bool :=
  !(leB q.1 p.1) && (filterP (parts q.1 47) && (rises q.2 && (decide (0 ≤ find l (above q.1)) && (!(q.2.isEmpty) || childB l q.1))))

def knotsTo (l : List KnotM) (k : Nat) : Bool := (List.range k).all fun j => decide (j = 0) || knotOk l (l.getD (j - 1) knot0) (l.getD j knot0)

def headOk (l : List KnotM) : Bool := match l with
  | [] => false
  | x :: _ => x.1.toList == [] && x.2.isEmpty

/-- 'TrieOk'. -/
def trieB (l : List KnotM) : Bool := headOk l && knotsTo l l.length

theorem knotsTo_succ (l : List KnotM) (k : Nat) : knotsTo l (k + 1) = (knotsTo l k && (decide (k = 0) || knotOk l (l.getD (k - 1) knot0) (l.getD k knot0))) := by
  unfold knotsTo; rw [List.range_succ, List.all_append]; simp

theorem knot_at {l : List KnotM} {k : Nat} (h : k < l.length) : l.getD k knot0 = l[k] := by rw [List.getD_eq_getElem?_getD, List.getElem?_eq_getElem h]; rfl

theorem knotsTo_next {l : List KnotM} {k : Nat} (h1 : 1 ≤ k) (h : k < l.length) (hl : knotsTo l k = true) (hk : knotOk l (l[k - 1]'(by omega)) l[k] = true) : knotsTo l (k + 1) = true := by
  rw [knotsTo_succ, hl, knot_at (by omega), knot_at h, hk]; simp

theorem knotsTo_bad {l : List KnotM} {k : Nat} (h1 : 1 ≤ k) (h : k < l.length) (hk : knotOk l (l[k - 1]'(by omega)) l[k] = false) : trieB l = false := by
  cases e : trieB l
  · rfl
  · unfold trieB at e
    rw [Bool.and_eq_true] at e
    have e2 := e.2
    unfold knotsTo at e2
    rw [List.all_eq_true] at e2
    have := e2 k (List.mem_range.2 h)
    rw [knot_at (by omega), knot_at h, hk, decide_eq_false (by omega)] at this
    cases this

end Go.Proofs.YtgkfnmbjlfmcmaaGreatDoor

/- Plain mathematics of chapter 6: what is kept. -/
namespace Go.Proofs.YtgkfnmbjlfmcmaaGreatDoor

/-- May message k stand behind the one ahead of it in a keep? -/
def keepNext (l : List MsgM) (k : Nat) (h : k < l.length) : Bool := msgB l[k] && (!(l[k].2.2.2 == 0) && (decide (k = 0) || !(leB l[k].2.2.1 (l[k - 1]'(by omega)).2.2.1)))
def keepTo (l : List MsgM) (k : Nat) : Bool := (List.range k).all fun j => if h : j < l.length then keepNext l j h else true
/-- 'KeepOk'. -/
def keepB (l : List MsgM) : Bool := keepTo l l.length && decide (l.length ≤ 24)

theorem keepTo_succ (l : List MsgM) (k : Nat) (h : k < l.length) : keepTo l (k + 1) = (keepTo l k && keepNext l k h) := by
  unfold keepTo; rw [List.range_succ, List.all_append]; simp [h]

theorem keepTo_bad {l : List MsgM} {k : Nat} (h : k < l.length) (hb : keepNext l k h = false) : keepB l = false := by
  cases e : keepB l
  · rfl
  · unfold keepB keepTo at e
    rw [Bool.and_eq_true] at e
    have e2 := e.1
    rw [List.all_eq_true] at e2
    have := e2 k (List.mem_range.2 h)
    rw [dif_pos h, hb] at this; cases this

/-! ### 'Kept' -/

def sameT (a b : ByteArray) : Bool := a.toList == b.toList

/-- Laid ahead of the first one whose topic is not less. -/
def keptPut (m : MsgM) (s : List MsgM × Bool) (x : MsgM) : List MsgM × Bool := if !s.2 && leB m.2.2.1 x.2.2.1 then (s.1 ++ [m], true) else s
def keptStep (m : MsgM) (s : List MsgM × Bool) (x : MsgM) : List MsgM × Bool := if sameT x.2.2.1 m.2.2.1 then keptPut m s x else ((keptPut m s x).1 ++ [x], (keptPut m s x).2)
def keptTo (m : MsgM) (l : List MsgM) (k : Nat) : List MsgM × Bool := (l.take k).foldl (keptStep m) ([], m.2.2.2 == 0)
def keptOut (l : List MsgM) (m : MsgM) : List MsgM := if (keptTo m l l.length).2 then (keptTo m l l.length).1 else (keptTo m l l.length).1 ++ [m]
def keptM (l : List MsgM) (m : MsgM) : List MsgM × Bool :=
  if keepB l then (if msgB m then (if 24 < (keptOut l m).length then (l, false) else (keptOut l m, true)) else (l, false)) else ([], false)

theorem keptTo_succ (m : MsgM) (l : List MsgM) (k : Nat) (h : k < l.length) : keptTo m l (k + 1) = keptStep m (keptTo m l k) l[k] := by
  unfold keptTo; rw [List.take_succ_eq_append_getElem h, List.foldl_append]; rfl

theorem keptStep_len (m : MsgM) (s : List MsgM × Bool) (x : MsgM) : (keptStep m s x).1.length ≤ s.1.length + 2 := by
  have h : (keptPut m s x).1.length ≤ s.1.length + 1 := by unfold keptPut; split <;> simp
  unfold keptStep
  split
  · omega
  · rw [List.length_append]; simp; omega

theorem keptTo_len (m : MsgM) (l : List MsgM) : ∀ k, k ≤ l.length → (keptTo m l k).1.length ≤ 2 * k
  | 0, _ => by simp [keptTo]
  | k + 1, h => by
    rw [keptTo_succ m l k (by omega)]
    have := keptTo_len m l k (by omega)
    have := keptStep_len m (keptTo m l k) l[k]
    omega

theorem keptM_len (l : List MsgM) (m : MsgM) : (keptM l m).1.length ≤ l.length + 24 := by
  unfold keptM
  split
  · split
    · split
      · simp
      · dsimp only; omega
    · simp
  · simp

/-! ### 'KeptFor' -/

/-- Where x goes among those that are there: behind the last one whose Seq is not more. -/
def posM (out : List MsgM) (q : Int) : Nat → Nat
  | 0 => 0
  | k + 1 => if q < (out.getD k (0, 0, ⟨#[]⟩, 0)).1 then posM out q k else k + 1
def putSeq (out : List MsgM) (x : MsgM) : List MsgM := out.take (posM out x.1 out.length) ++ [x] ++ out.drop (posM out x.1 out.length)
def forTo (f : ByteArray) (l : List MsgM) (k : Nat) : List MsgM := (l.take k).foldl (fun out x => if matchB f x.2.2.1 then putSeq out x else out) []
def forM (l : List MsgM) (f : ByteArray) : List MsgM := if keepB l then forTo f l l.length else []

theorem posM_le (out : List MsgM) (q : Int) : ∀ k, posM out q k ≤ k
  | 0 => Nat.le_refl _
  | k + 1 => by unfold posM; split; have := posM_le out q k; omega; omega

theorem putSeq_len (out : List MsgM) (x : MsgM) : (putSeq out x).length = out.length + 1 := by
  have := posM_le out x.1 out.length
  unfold putSeq; simp; omega

theorem forTo_succ (f : ByteArray) (l : List MsgM) (k : Nat) (h : k < l.length) : forTo f l (k + 1) = if matchB f l[k].2.2.1 then putSeq (forTo f l k) l[k] else forTo f l k := by
  unfold forTo; rw [List.take_succ_eq_append_getElem h, List.foldl_append]; rfl

theorem forTo_len (f : ByteArray) (l : List MsgM) : ∀ k, k ≤ l.length → (forTo f l k).length ≤ k
  | 0, _ => by simp [forTo]
  | k + 1, h => by
    rw [forTo_succ f l k (by omega)]
    have := forTo_len f l k (by omega)
    split
    · rw [putSeq_len]; omega
    · omega

theorem forM_len (l : List MsgM) (f : ByteArray) : (forM l f).length ≤ l.length := by
  unfold forM; split
  · exact forTo_len f l _ (Nat.le_refl _)
  · simp

end Go.Proofs.YtgkfnmbjlfmcmaaGreatDoor

/- The walk of impl.KeepOk. -/
namespace Go.Proofs.YtgkfnmbjlfmcmaaGreatDoor
open Go.RowKit

/-- The topic of the message ahead of the k-th; nothing ahead of the first. -/
def topicM (l : List MsgM) (k : Nat) : ByteArray := if h : 0 < k ∧ k ≤ l.length then (l[k - 1]'(by omega)).2.2.1 else ⟨#[]⟩

theorem topicP_some {p : ByteArray} (h : topicP (parts p 47) = true) : p ≠ ⟨#[]⟩ := by
  intro e
  rw [e] at h
  revert h; decide

theorem keepNext_topic {l : List MsgM} {k : Nat} (h : k < l.length) : keepNext l k h = (msgB l[k] && (!(l[k].2.2.2 == 0) && !(leB l[k].2.2.1 (topicM l k)))) := by
  unfold keepNext topicM
  by_cases h0 : k = 0
  · subst h0
    cases e : msgB l[0]
    · simp
    · have : l[0].2.2.1 ≠ ⟨#[]⟩ := by
        unfold msgB at e
        simp only [Bool.and_eq_true] at e
        exact topicP_some e.1.2
      have h2 : leB l[0].2.2.1 ⟨#[]⟩ = false := by
        cases e2 : leB l[0].2.2.1 ⟨#[]⟩
        · rfl
        · exfalso
          apply this
          unfold leB at e2
          rw [Go.ByteArray.toList_eq] at e2
          have e3 : (ByteArray.mk #[]).toList = [] := by rw [Go.ByteArray.toList_eq]
          rw [e3] at e2
          cases e4 : l[0].2.2.1.data.toList with
          | nil =>
            have e6 : l[0].2.2.1.data = #[] := Array.toList_inj.1 e4
            generalize l[0].2.2.1 = z at e6
            cases z; simpa using e6
          | cons a r => rw [e4] at e2; simp [Op.bytesLess] at e2
      simp [h2]
  · have h1 : 0 < k ∧ k ≤ l.length := by omega
    rw [dif_pos h1]
    simp [h0]

theorem topicM_next {l : List MsgM} {k : Nat} (h : k < l.length) : topicM l (k + 1) = l[k].2.2.1 := by
  unfold topicM
  rw [dif_pos (by omega)]
  simp

set_option maxRecDepth 100000 in
set_option maxHeartbeats 3200000 in
theorem implKeepOk_any (v : Value) (l : List MsgM) (m : Int) (w : World) (hl : l.length ≤ 1048576) (hs : ∀ x ∈ l, x.2.2.1.size ≤ 1048576) (hv : MsgsAt w v l) (hm : w.cell? ⟨0, 0, none⟩ = some (.int .i64 m)) :
    Calls Tryz.prog 10 #[v] w fun e w' => e = .returned (.bool (keepB l)) ∧ Below w.heap.size w w' := by
  obtain ⟨a, c, rfl, hc1, hc2, hc3⟩ := hv
  have HC := Lib.hid hc3
  have HS := Lib.hid hs
  have HM := Lib.hid hm
  clear hc3 hs hm
  by_cases h24 : 24 < l.length
  · have g0 : decide ((24 : Int) < (l.length : Int)) = true := decide_eq_true (by omega)
    have HE : Hid (keepB l = false) := Lib.hid (by unfold keepB; rw [decide_eq_false (by omega)]; simp)
    go_enter Tryz.func10, Tryz.ntmps10
    go_wp2
    go_ret
    exact ⟨ret_bool HE.out.symm, Below.refl _ _⟩
  have g0 : decide ((24 : Int) < (l.length : Int)) = false := decide_eq_false (by omega)
  have H24 : Hid (l.length ≤ 24) := Lib.hid (by omega)
  go_enter Tryz.func10, Tryz.ntmps10
  go_wp2
  go_loopw [3, 11] (fun s i wr => ∃ (k : Nat) (y : ByteArray), k ≤ l.length ∧ i = .int .i64 k ∧ s = .string y ∧ Hid (topicM l k = y) ∧ Hid (keepTo l k = true) ∧ Hid (Below w.heap.size w wr)) (fun _ i _ => l.length - (intOf i).toNat)
  case atStart => exact ⟨0, ⟨#[]⟩, Nat.zero_le _, rfl, rfl, rfl, rfl, Below.refl _ _⟩
  case round =>
    obtain ⟨k, y, hk, rfl, rfl, HY, HT, HB⟩ := hrel
    by_cases hlt : k < l.length
    · obtain ⟨b, o, rfl, hin⟩ : ∃ b o, a = some ⟨b, o, none⟩ ∧ MsgsIn w b o l := by
        rcases HC.out with h | h
        · subst h; simp at hlt
        · exact h
      obtain ⟨p0, p1, p2, p3⟩ := (hin.below HB.out) k hlt
      have CM := Lib.hid (fun wx hm => implMsgOk_any l[k] m wx (HS.out _ (List.getElem_mem hlt)) hm)
      have HNX : Hid (keepNext l k hlt = (msgB l[k] && (!(l[k].2.2.2 == 0) && !(leB l[k].2.2.1 y)))) := Lib.hid (by rw [keepNext_topic hlt, HY.out])
      have HBAD := Lib.hid (fun h => keepTo_bad hlt h)
      have HGO : Hid (keepNext l k hlt = true → keepTo l (k + 1) = true) := Lib.hid (fun h => by rw [keepTo_succ l k hlt, HT.out, h]; rfl)
      have HLN := Lib.hid (topicM_next hlt)
      generalize keepNext l k hlt = nx at HNX HBAD HGO
      obtain ⟨mb, hmb⟩ : ∃ mb, msgB l[k] = mb := ⟨_, rfl⟩
      rw [hmb] at CM HNX
      generalize l[k] = x at p0 p1 p2 p3 CM HNX HLN hmb
      obtain ⟨q, f, p, d⟩ := x
      clear hin HT HY hmb
      go_wp2_with fail
      have d0 : (wr.alloc (.cells #[.int .i64 q, .int .i64 f, .string p, .int .i64 d] 26)).cell? ⟨wr.heap.size, 0, none⟩ = some (.int .i64 q) := by rw [World.cell?_alloc_at _ _ _ _ rfl]; rfl
      have d1 : (wr.alloc (.cells #[.int .i64 q, .int .i64 f, .string p, .int .i64 d] 26)).cell? ⟨wr.heap.size, 1, none⟩ = some (.int .i64 f) := by rw [World.cell?_alloc_at _ _ _ _ rfl]; rfl
      have d2 : (wr.alloc (.cells #[.int .i64 q, .int .i64 f, .string p, .int .i64 d] 26)).cell? ⟨wr.heap.size, 2, none⟩ = some (.string p) := by rw [World.cell?_alloc_at _ _ _ _ rfl]; rfl
      have d3 : (wr.alloc (.cells #[.int .i64 q, .int .i64 f, .string p, .int .i64 d] 26)).cell? ⟨wr.heap.size, 3, none⟩ = some (.int .i64 d) := by rw [World.cell?_alloc_at _ _ _ _ rfl]; rfl
      have HB1 := Lib.hid (HB.out.trans (((Below.refl wr.heap.size wr).alloc (Nat.le_refl _) (.cells #[.int .i64 q, .int .i64 f, .string p, .int .i64 d] 26)).mono HB.out.size))
      generalize wr.alloc (.cells #[.int .i64 q, .int .i64 f, .string p, .int .i64 d] 26) = w1 at d0 d1 d2 d3 HB1 ⊢
      clear p0 p1 p2 p3
      refine (CM.out _ ((HB1.out.cell (World.block_lt_of_cell? _ _ HM.out)).trans HM.out)).mono ?_
      rintro e wa ⟨rfl, hb⟩
      have c0 := (below_cell hb (World.block_lt_of_cell? _ _ d0)).trans d0
      have c1 := (below_cell hb (World.block_lt_of_cell? _ _ d1)).trans d1
      have c2 := (below_cell hb (World.block_lt_of_cell? _ _ d2)).trans d2
      have c3 := (below_cell hb (World.block_lt_of_cell? _ _ d3)).trans d3
      have HB2 := Lib.hid (below_end HB1.out hb)
      clear d0 d1 d2 d3 hb
      cases mb
      · have HE := Lib.hid (HBAD.out (by rw [HNX.out]; rfl))
        go_wp2
        go_ret
        exact ⟨ret_bool HE.out.symm, HB2.out⟩
      · by_cases hd : d = 0
        · have hd1 : (d == 0) = true := by simp [hd]
          have HE := Lib.hid (HBAD.out (by rw [HNX.out, hd1]; rfl))
          clear hd
          go_wp2
          go_ret
          exact ⟨ret_bool HE.out.symm, HB2.out⟩
        · have hd1 : (d == 0) = false := by simp [hd]
          obtain ⟨lb, hlb⟩ : ∃ lb, leB p y = lb := ⟨_, rfl⟩
          have hle : (Op.bytesLess p.toList y.toList || p.toList == y.toList) = lb := hlb
          rw [hlb] at HNX
          clear hlb hd
          cases lb
          · have HN := Lib.hid (HGO.out (by rw [HNX.out, hd1]; rfl))
            go_wp2
            go_roundw
            case rel => exact ⟨k + 1, p, by omega, by go_num, rfl, HLN, HN, HB2⟩
            case measure => simp [intOf]; omega
          · have HE := Lib.hid (HBAD.out (by rw [HNX.out, hd1]; rfl))
            go_wp2
            go_ret
            exact ⟨ret_bool HE.out.symm, HB2.out⟩
    · obtain rfl : k = l.length := by omega
      have HE : Hid (keepB l = true) := Lib.hid (by unfold keepB; rw [HT.out, decide_eq_true H24.out]; rfl)
      go_wp2
      go_ret
      exact ⟨ret_bool HE.out.symm, HB.out⟩

end Go.Proofs.YtgkfnmbjlfmcmaaGreatDoor

/- What is kept stays few and short. -/
namespace Go.Proofs.YtgkfnmbjlfmcmaaGreatDoor

theorem keptPut_mem {m x y : MsgM} {s : List MsgM × Bool} (h : y ∈ (keptPut m s x).1) : y ∈ s.1 ∨ y = m := by
  unfold keptPut at h
  split at h
  · rcases List.mem_append.1 h with h | h
    · exact .inl h
    · exact .inr (List.mem_singleton.1 h)
  · exact .inl h

theorem keptStep_mem {m x y : MsgM} {s : List MsgM × Bool} (h : y ∈ (keptStep m s x).1) : y ∈ s.1 ∨ y = m ∨ y = x := by
  unfold keptStep at h
  split at h
  · rcases keptPut_mem h with h | h
    · exact .inl h
    · exact .inr (.inl h)
  · rcases List.mem_append.1 h with h | h
    · rcases keptPut_mem h with h | h
      · exact .inl h
      · exact .inr (.inl h)
    · exact .inr (.inr (List.mem_singleton.1 h))

theorem keptTo_mem {m y : MsgM} (l : List MsgM) : ∀ k, k ≤ l.length → y ∈ (keptTo m l k).1 → y ∈ l ∨ y = m
  | 0, _, h => by simp [keptTo] at h
  | k + 1, hk, h => by
    rw [keptTo_succ m l k (by omega)] at h
    rcases keptStep_mem h with h | h | h
    · exact keptTo_mem l k (by omega) h
    · exact .inr h
    · exact .inl (by rw [h]; exact List.getElem_mem _)

theorem keptM_mem {l : List MsgM} {m y : MsgM} (h : y ∈ (keptM l m).1) : y ∈ l ∨ y = m := by
  have ho : y ∈ keptOut l m → y ∈ l ∨ y = m := fun h => by
    unfold keptOut at h
    split at h
    · exact keptTo_mem l _ (Nat.le_refl _) h
    · rcases List.mem_append.1 h with h | h
      · exact keptTo_mem l _ (Nat.le_refl _) h
      · exact .inr (List.mem_singleton.1 h)
  unfold keptM at h
  split at h
  · split at h
    · split at h
      · exact .inl h
      · exact ho h
    · exact .inl h
  · cases h

theorem keptM_few {l : List MsgM} (m : MsgM) (hl : l.length ≤ 24) : (keptM l m).1.length ≤ 24 := by
  unfold keptM
  split
  · split
    · split
      · exact hl
      · dsimp only; omega
    · exact hl
  · simp

end Go.Proofs.YtgkfnmbjlfmcmaaGreatDoor
