/- The walks of the marks that the exact laws lay into lists of texts, and of the look whether two such lists are alike. -/
import Derived.Test.YthjinkdckkgbiaaDoorTopic
import Derived.Test.YthjinkdckkgbiaaDoorBytes
import Derived.BigQuiet
import Derived.Deep.QuietTactic
import Derived.Deep.RegionHeld3
namespace Go.Proofs.YthjinkdckkgbiaaDoor
open Go.RowKit

/-- The last digit of k, as a byte. -/
def dg (k : Nat) : UInt8 := (48 + k % 10).toUInt8

/-- The digits of k ahead of 'out'. -/
def mdig : Nat → Nat → List UInt8 → List UInt8
  | 0, _, out => out
  | f + 1, k, out => if k = 0 then out else mdig f (k / 10) (dg k :: out)

/-- The text of mark k. -/
def mtext (k : Nat) : ByteArray := ⟨(109 :: mdig k k []).toArray⟩

theorem cons_bytes (x : UInt8) (o : List UInt8) : (ByteArray.mk [x].toArray ++ ByteArray.mk o.toArray) = ByteArray.mk (x :: o).toArray := by
  rw [ByteArray.mk_append_mk]; rfl

theorem mdig_zero (f : Nat) (o : List UInt8) : mdig f 0 o = o := by cases f <;> simp [mdig]

theorem mdig_step {i f : Nat} (o : List UInt8) (hi : 0 < i) (hf : i ≤ f) : mdig (f - 1) (i / 10) (dg i :: o) = mdig f i o := by
  obtain ⟨g, rfl⟩ : ∃ g, f = g + 1 := ⟨f - 1, by omega⟩
  rw [mdig, if_neg (by omega)]; rfl

set_option maxHeartbeats 400000 in
theorem markText_any (k : Nat) (w : World) (h1 : 1 ≤ k) (h2 : k ≤ 4000000) :
    Calls Tryd.prog 28 #[.int .i64 k] w fun e w' => e = .returned (.string (mtext k)) ∧ Below w.heap.size w w' := by
  go_enter Tryd.func28, Tryd.ntmps28
  go_wp2
  go_loopw [0, 3] (fun j out wr => ∃ (i f : Nat) (o : List UInt8), j = .int .i64 i ∧ out = .string ⟨o.toArray⟩ ∧ i ≤ f ∧ o.length + i ≤ k ∧ Hid (mdig f i o = mdig k k []) ∧ Hid (Below w.heap.size w wr)) (fun j _ _ => (intOf j).toNat)
  case atStart => exact ⟨k, k, [], rfl, rfl, Nat.le_refl _, by simp, rfl, Below.refl _ _⟩
  case round =>
    obtain ⟨i, f, o, rfl, rfl, hif, hlen, HD, HB⟩ := hrel
    by_cases hi : 0 < i
    · have hcv := conv_one (P := Tryd.prog) wr (src := 22) (dst := 9) (48 + i % 10) (by omega) Tryd.underlying22 Tryd.underlying5 Tryd.underlying9
      rw [show ((48 + i % 10 : Nat) : Int) = 48 + (i : Int) % 10 by omega] at hcv
      have hcv2 : ∀ x : UInt8, (48 + i % 10).toUInt8 = x → (convert 22 9 (.slice (some ⟨wr.heap.size, 0, none⟩) 1 1)).run Tryd.prog (wr.alloc (.cells #[.int .u8 (48 + (i : Int) % 10)] 5)) = .ok (.string ⟨[x].toArray⟩) (wr.alloc (.cells #[.int .u8 (48 + (i : Int) % 10)] 5)) := fun x hx => by rw [← hx]; exact hcv
      have hcv3 := hcv2 (dg i) rfl
      have HN : Hid (mdig (f - 1) (i / 10) (dg i :: o) = mdig k k []) := Lib.hid (by rw [mdig_step o hi hif]; exact HD.out)
      have H3 := Lib.hid hcv3
      clear hcv hcv2 HD hcv3
      obtain ⟨x, hx⟩ : ∃ x, dg i = x := ⟨_, rfl⟩
      rw [hx] at H3 HN
      clear hx
      have h3 := H3.out
      clear H3
      go_wp2
      go_roundw
      case rel => exact ⟨i / 10, f - 1, x :: o, congrArg (Value.int .i64) (by omega), congrArg Value.string (cons_bytes x o), by omega, by simp only [List.length_cons]; omega, HN, HB.out.alloc HB.out.size _⟩
      case measure => simp only [intOf]; omega
    · obtain rfl : i = 0 := by omega
      have HE : Hid (o = mdig k k []) := Lib.hid (by rw [← HD.out, mdig_zero])
      clear HD
      go_wp2
      go_ret
      exact ⟨by rw [mtext, ← HE.out]; exact congrArg (fun x => Ending.returned (Value.string x)) (cons_bytes 109 o), HB.out⟩

/-! ### Rows of texts -/

theorem below_cell {B : Nat} {w w' : World} (h : Below B w w') {g j : Nat} (hg : g < B) : w'.cell? ⟨g, j, none⟩ = w.cell? ⟨g, j, none⟩ := h.cell hg

/-- A row that the call owns stays so where all that was there stays. -/
theorem row_below {w w' : World} {B n size : Nat} {E : TypeId} {v : Value} {xs : List Value} (h : w.ownsRow B E size v n xs) (hb : Below w.heap.size w w') : w'.ownsRow B E size v n xs := by
  refine ⟨h.1, ?_⟩
  rcases h.2 with h2 | ⟨g, cap, cur, hv, hg, hh, r⟩
  · exact .inl h2
  · have hlt : g < w.heap.size := (Array.getElem?_eq_some_iff.1 hh).1
    exact .inr ⟨g, cap, cur, hv, hg, (hb.block g hlt).trans hh, r⟩

set_option maxHeartbeats 400000 in
/-- Two rows of like texts are alike. -/
theorem eqTexts_any (l : List ByteArray) (ga gb ca cb : Nat) (w : World) (hl : l.length ≤ 4000000)
    (ha : ∀ j (hj : j < l.length), w.cell? ⟨ga, j, none⟩ = some (.string l[j])) (hb : ∀ j (hj : j < l.length), w.cell? ⟨gb, j, none⟩ = some (.string l[j])) :
    Calls Tryd.prog 18 #[.slice (some ⟨ga, 0, none⟩) l.length ca, .slice (some ⟨gb, 0, none⟩) l.length cb] w fun e w' => e = .returned (.bool true) ∧ Below w.heap.size w w' := by
  have HA := Lib.hid ha
  have HB := Lib.hid hb
  clear ha hb
  go_enter Tryd.func18, Tryd.ntmps18
  go_wp2
  go_loopw [5] (fun i wr => ∃ k : Nat, k ≤ l.length ∧ i = .int .i64 k ∧ Hid (∃ n, wr = w.drewN n)) (fun i _ => l.length - (intOf i).toNat)
  case atStart => exact ⟨0, Nat.zero_le _, rfl, 0, rfl⟩
  case round =>
    obtain ⟨k, hk, rfl, HW⟩ := hrel
    obtain ⟨n, rfl⟩ := HW.out
    clear HW
    by_cases hlt : k < l.length
    · have h1 := HA.out k hlt
      have h2 := HB.out k hlt
      go_wp2
      go_quiet (fail)
      go_wp2
      go_roundw
      case rel => exact ⟨k + 1, by omega, by go_num, _, rfl⟩
      case measure => simp [intOf]; omega
    · go_wp2
      go_ret
      exact ⟨rfl, below_drewN (Below.refl _ _) _⟩

/-! ### One row may turn, all else stays -/

theorem grown_trans {a b c : World} {r : Option Nat} (h : a.grownBy b r) (k : b.grownBy c r) : a.grownBy c r :=
  ⟨k.os.trans h.os, k.tape.trans h.tape, k.output.trans h.output, Nat.le_trans h.size k.size, fun i hi hr => (k.block i (Nat.lt_of_lt_of_le hi h.size) hr).trans (h.block i hi hr)⟩

theorem grown_below {a c : World} {r : Option Nat} (h : Below a.heap.size a c) : a.grownBy c r :=
  ⟨h.os, h.tape, h.output, h.size, fun i hi _ => h.block i hi⟩

theorem grown_refl (a : World) (r : Option Nat) : a.grownBy a r := ⟨rfl, rfl, rfl, Nat.le_refl _, fun _ _ _ => rfl⟩

theorem grown_setCell (a : World) (g j : Nat) (v : Value) : a.grownBy (a.setCell ⟨g, j, none⟩ v) (some g) :=
  ⟨rfl, rfl, rfl, by simp [World.setCell], fun i _ hr => Below.heap_setCell _ _ _ _ (fun e => hr (by rw [e]))⟩

/-- The marks k0, k0 + 1 .. laid into the first k places. -/
def marked (l : List ByteArray) (k0 k : Nat) : List ByteArray := (List.range k).map (fun j => mtext (k0 + j)) ++ l.drop k

theorem marked_length (l : List ByteArray) (k0 k : Nat) (h : k ≤ l.length) : (marked l k0 k).length = l.length := by simp [marked]; omega

theorem marked_next (l : List ByteArray) (k0 k : Nat) (h : k < l.length) : (texts (marked l k0 k)).set k (.string (mtext (k0 + k))) = texts (marked l k0 (k + 1)) := by
  simp only [texts, marked, List.map_append, List.map_map]
  rw [List.set_append_right _ _ (by simp)]
  simp only [List.length_map, List.length_range, Nat.sub_self]
  rw [List.range_succ, List.map_append, List.append_assoc]
  congr 1
  rw [List.drop_eq_getElem_cons h]
  simp only [List.map_cons, List.set_cons_zero, List.map_nil, List.singleton_append, Function.comp]

set_option maxHeartbeats 400000 in
theorem markTexts_any (l : List ByteArray) (k0 B g cap : Nat) (w : World) (_hB : B ≤ g) (hk1 : 1 ≤ k0) (hl : k0 + l.length ≤ 4000000)
    (hown : w.ownsRow B 9 1 (.slice (some ⟨g, 0, none⟩) l.length cap) l.length (texts l)) :
    Calls Tryd.prog 19 #[.slice (some ⟨g, 0, none⟩) l.length cap, .int .i64 k0] w fun e w' =>
      e = .returned (.int .i64 (k0 + l.length : Nat)) ∧ w'.ownsRow B 9 1 (.slice (some ⟨g, 0, none⟩) l.length cap) l.length (texts (marked l k0 l.length)) ∧ w.grownBy w' (some g) := by
  have HO : Hid (w.ownsRow B 9 1 (.slice (some ⟨g, 0, none⟩) l.length cap) l.length (texts (marked l k0 0))) := Lib.hid (by simpa [marked] using hown)
  clear hown
  go_enter Tryd.func19, Tryd.ntmps19
  go_wp2
  go_loopw [1, 5] (fun m i wr => ∃ k : Nat, k ≤ l.length ∧ i = .int .i64 k ∧ m = .int .i64 ((k0 : Int) + (k : Int)) ∧ Hid (wr.ownsRow B 9 1 (.slice (some ⟨g, 0, none⟩) l.length cap) l.length (texts (marked l k0 k))) ∧ Hid (w.grownBy wr (some g))) (fun _ i _ => l.length - (intOf i).toNat)
  case atStart => exact ⟨0, Nat.zero_le _, rfl, congrArg (Value.int .i64) (by omega), HO, grown_refl _ _⟩
  case round =>
    obtain ⟨k, hk, rfl, rfl, H1, H2⟩ := hrel
    by_cases hlt : k < l.length
    · have cm := markText_any (k0 + k) wr (by omega) (by omega)
      rw [Int.natCast_add] at cm
      have hlen := marked_length l k0 k hk
      go_wp2_with fail
      refine cm.mono ?_
      clear cm
      rintro e w1 ⟨rfl, hb⟩
      have H3 := Lib.hid (row_below H1.out hb)
      have H4 := Lib.hid (grown_trans H2.out (grown_below (r := some g) hb))
      clear hb H1 H2
      have hfz := H3.out.frozenAt k
      obtain ⟨u, hu⟩ : ∃ u, w1.cell? ⟨g, k, none⟩ = some u := ⟨_, (H3.out.cellAt k (by omega)).trans (List.getElem?_eq_getElem (by simp [texts]; omega))⟩
      have H5 : Hid ((w1.setCell ⟨g, k, none⟩ (.string (mtext (k0 + k)))).ownsRow B 9 1 (.slice (some ⟨g, 0, none⟩) l.length cap) l.length (texts (marked l k0 (k + 1)))) := Lib.hid (by rw [← marked_next l k0 k hlt]; exact (H3.out.stored k _).1)
      have H6 : Hid (w.grownBy (w1.setCell ⟨g, k, none⟩ (.string (mtext (k0 + k)))) (some g)) := Lib.hid (grown_trans H4.out (H3.out.stored k _).2)
      obtain ⟨x, hx⟩ : ∃ x, mtext (k0 + k) = x := ⟨_, rfl⟩
      rw [hx] at H5 H6 ⊢
      clear hx H3 H4
      go_wp2
      go_roundw
      case rel => exact ⟨k + 1, by omega, by go_num, congrArg (Value.int .i64) (by omega), H5, H6⟩
      case measure => simp [intOf]; omega
    · obtain rfl : k = l.length := by omega
      go_wp2
      go_ret
      exact ⟨congrArg (fun x => Ending.returned (Value.int .i64 x)) (by omega), H1.out, H2.out⟩

set_option maxHeartbeats 1600000 in
/-- The marks are held. -/
theorem heldTexts_any (n k0 g cap : Nat) (w : World) (hg : g < w.heap.size) (hk1 : 1 ≤ k0) (hl : k0 + n ≤ 4000000)
    (hc : ∀ j, j < n → w.cell? ⟨g, j, none⟩ = some (.string (mtext (k0 + j)))) :
    Calls Tryd.prog 20 #[.slice (some ⟨g, 0, none⟩) n cap, .int .i64 k0] w fun e w' =>
      e = .returned (.int .i64 (k0 + n : Nat)) ∧ Below w.heap.size w w' := by
  have HC := Lib.hid hc
  clear hc
  go_enter Tryd.func20, Tryd.ntmps20
  go_wp2
  go_loopw [1, 5] (fun m i wr => ∃ k : Nat, k ≤ n ∧ i = .int .i64 k ∧ m = .int .i64 ((k0 : Int) + (k : Int)) ∧ Hid (Below w.heap.size w wr)) (fun _ i _ => n - (intOf i).toNat)
  case atStart => exact ⟨0, Nat.zero_le _, rfl, congrArg (Value.int .i64) (by omega), Below.refl _ _⟩
  case round =>
    obtain ⟨k, hk, rfl, rfl, H2⟩ := hrel
    by_cases hlt : k < n
    · have cm := fun wx => markText_any (k0 + k) wx (by omega) (by omega)
      simp only [Int.natCast_add] at cm
      have hgr : g < wr.heap.size := Nat.lt_of_lt_of_le hg H2.out.size
      have hcx : wr.cell? ⟨g, k, none⟩ = some (.string (mtext (k0 + k))) := (H2.out.cell hg).trans (HC.out k hlt)
      obtain ⟨x, hx⟩ : ∃ x, mtext (k0 + k) = x := ⟨_, rfl⟩
      simp only [hx] at cm
      rw [hx] at hcx
      clear hx
      have CM := Lib.hid cm
      clear cm
      go_wp2_with fail
      go_region_held3 (fun w' => w'.cell? ⟨g, k, none⟩ = some (.string x))
        (first | go_keep | (rw [hb.cell (by simp; omega)]; assumption))
        ((go_at_call 28; refine (CM.out _).mono ?_; rintro e w1 ⟨rfl, hb⟩))
      have H3 := Lib.hid (H2.out.drew.trans (hb.mono H2.out.size))
      clear hb H2
      go_wp2
      go_roundw
      case rel => exact ⟨k + 1, by omega, by go_num, congrArg (Value.int .i64) (by omega), H3⟩
      case measure => simp [intOf]; omega
    · obtain rfl : k = n := by omega
      go_wp2
      go_ret
      exact ⟨congrArg (fun x => Ending.returned (Value.int .i64 x)) (by omega), H2.out⟩

end Go.Proofs.YthjinkdckkgbiaaDoor
