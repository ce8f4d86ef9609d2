/- Small texts, laid together. -/
import Derived.Test.YtekcfjmnaenghaaDoorCards
import Derived.Test.YtekcfjmnaenghaaDoorTie
import Derived.WalkKit
import Derived.ProofKit
import Derived.OpenShut
import Derived.Deep.DeepHandedRow
import Derived.Lay
import Derived.ChangeOld
import Derived.Below
import Derived.Lib.Strings
import Derived.Deep.Draws
import Derived.Shelf.Strings.Search1
import Derived.Shelf.Strings.Search2
import Derived.Shelf.Strings.Search3
import Derived.Shelf.Strings.Count
import Derived.Shelf.Strings.Split
import Derived.Test.YtekcfjmnaenghaaDoorProg
import Derived.Test.YtekcfjmnaenghaaDoorRows
import Derived.WalkSpells
import Derived.WalkLawsBesides
import Derived.Lib.Hide
import Derived.Lib.OthersKept
set_option linter.unusedSimpArgs false
set_option linter.unusedVariables false
/- What every law's proof over this translation wants: the library's one variable, and a world for the witness. -/
namespace Go.Proofs.YtekcfjmnaenghaaDoor
open Go.ChangeShapes Go.WideShapes Go.ChangeAt Go.RowKit Go.WideMaps Go.WideElems
open Go.ChangeMaps (open_string shut_string)

theorem own : ownKnob Tryd.prog.godebug = none := by kernel_rfl

theorem laidOut : laidOutB Tryd.prog = true := by kernel_rfl

/-- A variable of type int holds some int. -/
theorem int_of_shape {P : Program} {w : World} {g : Nat} {t : TypeId} {zero : Array Value} (h : w.ShapedOpen P) (hg : g < P.globals.size)
    (h0 : ((begin P (fun _ _ => 0) default).world.heap[g]?).bind Obj.row? = some (zero, t)) (hz : zero.size = 1)
    (hb : P.buildable t = true) (hc : P.cellTypes P.depth t = some [t]) (hu : P.underlying t = some (.int .i64)) : ∃ m, w.cell? ⟨g, 0, none⟩ = some (.int .i64 m) := by
  obtain ⟨cs, hh, hs, hr⟩ := h.1 g zero t hg h0
  obtain ⟨ts, hts, _, hall⟩ := hr hb
  rw [hc] at hts
  cases hts
  have h1 : 0 < cs.size := by omega
  obtain ⟨u, hu', hok⟩ := hall 0 cs[0] (by simp [h1])
  have : u = t := by simpa using hu'.symm
  subst this
  have hcell : w.cell? ⟨g, 0, none⟩ = some cs[0] := by simp [World.cell?, hh, h1]
  rw [hcell]
  unfold Cell.ok at hok
  rw [hu] at hok
  cases hv : cs[0] <;> rw [hv] at hok <;> simp at hok
  obtain ⟨rfl, _⟩ := hok
  exact ⟨_, rfl⟩

theorem maxLen_cell {W : World} (h : W.ShapedOpen Tryd.prog) : ∃ m, W.cell? ⟨0, 0, none⟩ = some (.int .i64 m) :=
  int_of_shape (t := 3) (zero := #[.int .i64 0]) h (of_decide_eq_true (by kernel_rfl)) (by kernel_rfl) rfl (by kernel_rfl) (by kernel_rfl) Tryd.underlying3

end Go.Proofs.YtekcfjmnaenghaaDoor

/- Plain mathematics for chapter 1 (names): words, parts. No program in it. -/
namespace Go.Proofs.YtekcfjmnaenghaaDoor

/-- A letter a to z or a digit. -/
def low (c : UInt8) : Bool := (decide (97 ≤ c.toNat) && decide (c.toNat ≤ 122)) || (decide (48 ≤ c.toNat) && decide (c.toNat ≤ 57))

def lowAll (l : List UInt8) : Bool := l.all low

/-- A word. -/
def isWord (s : ByteArray) : Bool := lowAll s.data.toList && (decide (1 ≤ s.size) && decide (s.size ≤ 12))

theorem take_snoc (s : ByteArray) (k : Nat) (h : k < s.size) : s.data.toList.take (k + 1) = s.data.toList.take k ++ [s[k]] := by
  rw [List.take_succ_eq_append_getElem (by simpa using h)]; rfl

theorem lowAll_snoc (s : ByteArray) (k : Nat) (h : k < s.size) : lowAll (s.data.toList.take (k + 1)) = (lowAll (s.data.toList.take k) && low s[k]) := by
  rw [take_snoc s k h]; simp [lowAll]

theorem lowAll_full (s : ByteArray) : lowAll (s.data.toList.take s.size) = lowAll s.data.toList := by
  rw [List.take_of_length_le]; exact Nat.le_of_eq rfl

theorem lowAll_bad (s : ByteArray) (k : Nat) (h : k < s.size) (hb : low s[k] = false) : lowAll s.data.toList = false := by
  have hm : s[k] ∈ s.data.toList := by simp [ByteArray.getElem_eq_getElem_data]
  cases e : lowAll s.data.toList
  · rfl
  · rw [lowAll, List.all_eq_true] at e
    rw [e _ hm] at hb; cases hb

theorem low_yes {c : UInt8} (h : (97 ≤ (c.toNat : Int) ∧ (c.toNat : Int) ≤ 122) ∨ (48 ≤ (c.toNat : Int) ∧ (c.toNat : Int) ≤ 57)) : low c = true := by
  unfold low; simp; omega
theorem low_no {c : UInt8} (h : ¬ ((97 ≤ (c.toNat : Int) ∧ (c.toNat : Int) ≤ 122) ∨ (48 ≤ (c.toNat : Int) ∧ (c.toNat : Int) ≤ 57))) : low c = false := by
  unfold low; simp; omega

end Go.Proofs.YtekcfjmnaenghaaDoor

/- Memory: what stays where a call makes blocks of its own, and where one block alone may turn. Of no program. -/
namespace Go.Proofs.YtekcfjmnaenghaaDoor
open Go.RowKit

theorem ret_bool {a b : Bool} (h : a = b) : Ending.returned (.bool a) = .returned (.bool b) := by rw [h]

theorem ret_str {a b : ByteArray} (h : a = b) : Ending.returned (.string a) = .returned (.string b) := by rw [h]
theorem ret_int {a b : Int} (h : a = b) : Ending.returned (.int .i64 a) = .returned (.int .i64 b) := by rw [h]

theorem below_cell {B : Nat} {w w' : World} (h : Below B w w') {g j : Nat} (hg : g < B) : w'.cell? ⟨g, j, none⟩ = w.cell? ⟨g, j, none⟩ := h.cell hg

theorem below_end {a b c : World} (h : Below a.heap.size a b) (k : Below b.heap.size b c) : Below a.heap.size a c := h.trans (k.mono h.size)

/-- A row that the call owns stays so where all that was there stays. -/
theorem row_below {w w' : World} {B n size : Nat} {E : TypeId} {v : Value} {xs : List Value} (h : w.ownsRow B E size v n xs) (hb : Below w.heap.size w w') : w'.ownsRow B E size v n xs := by
  refine ⟨h.1, ?_⟩
  rcases h.2 with h2 | ⟨g, cap, cur, hv, hg, hh, r⟩
  · exact .inl h2
  · have hlt : g < w.heap.size := (Array.getElem?_eq_some_iff.1 hh).1
    exact .inr ⟨g, cap, cur, hv, hg, (hb.block g hlt).trans hh, r⟩

/-! ### One row may turn, all else stays -/

theorem grown_trans {a b c : World} {r : Option Nat} (h : a.grownBy b r) (k : b.grownBy c r) : a.grownBy c r :=
  ⟨k.os.trans h.os, k.tape.trans h.tape, k.output.trans h.output, Nat.le_trans h.size k.size, fun i hi hr => (k.block i (Nat.lt_of_lt_of_le hi h.size) hr).trans (h.block i hi hr)⟩

theorem grown_below {a c : World} {r : Option Nat} (h : Below a.heap.size a c) : a.grownBy c r :=
  ⟨h.os, h.tape, h.output, h.size, fun i hi _ => h.block i hi⟩

theorem grown_refl (a : World) (r : Option Nat) : a.grownBy a r := ⟨rfl, rfl, rfl, Nat.le_refl _, fun _ _ _ => rfl⟩

theorem grown_setCell (a : World) (g j : Nat) (v : Value) : a.grownBy (a.setCell ⟨g, j, none⟩ v) (some g) :=
  ⟨rfl, rfl, rfl, by simp [World.setCell], fun i _ hr => Below.heap_setCell _ _ _ _ (fun e => hr (by rw [e]))⟩

theorem grown_drewN (w : World) (n : Nat) (r : Option Nat) : w.grownBy (w.drewN n) r := ⟨rfl, rfl, rfl, Nat.le_refl _, fun _ _ _ => rfl⟩

theorem grown_alloc (w : World) (o : Obj) (r : Option Nat) : w.grownBy (w.alloc o) r := grown_below ((Below.refl _ _).alloc (Nat.le_refl _) o)

end Go.Proofs.YtekcfjmnaenghaaDoor

/- The library contract of strings.Split, laid at this translation: a table of numbers, one fact a field, one application. -/
namespace Go.Proofs
open Go.Shelf
def Tryd.lays146_ren : Go.Shelf.Ren := ⟨fun | 146 => 64 | 221 => 71 | 268 => 74 | 138 => 75 | 143 => 76 | 195 => 77 | 197 => 78 | 218 => 79 | 219 => 80 | 260 => 81 | 217 => 82 | 225 => 83 | 224 => 84 | 267 => 85 | 266 => 86 | 314 => 87 | n => n, fun | 9 => 9 | 31 => 50 | 3 => 3 | 4 => 4 | 0 => 0 | 105 => 103 | 21 => 21 | 5 => 5 | 46 => 76 | 119 => 107 | 139 => 110 | 138 => 109 | 146 => 112 | 51 => 111 | n => n, fun | 1 => 0 | 3 => 1 | 4 => 2 | n => n⟩
theorem Tryd.lays146 : Go.Proofs.Lays.n146 Tryd.prog Tryd.lays146_ren := {
  mixed := by kernel_rfl
  f138 := Tryd.func75.trans (congrArg some (by kernel_rfl))
  f143 := Tryd.func76.trans (congrArg some (by kernel_rfl))
  f146 := Tryd.func64.trans (congrArg some (by kernel_rfl))
  f195 := Tryd.func77.trans (congrArg some (by kernel_rfl))
  f197 := Tryd.func78.trans (congrArg some (by kernel_rfl))
  f217 := Tryd.func82.trans (congrArg some (by kernel_rfl))
  f218 := Tryd.func79.trans (congrArg some (by kernel_rfl))
  f219 := Tryd.func80.trans (congrArg some (by kernel_rfl))
  f221 := Tryd.func71.trans (congrArg some (by kernel_rfl))
  f224 := Tryd.func84.trans (congrArg some (by kernel_rfl))
  f225 := Tryd.func83.trans (congrArg some (by kernel_rfl))
  f260 := Tryd.func81.trans (congrArg some (by kernel_rfl))
  f266 := Tryd.func86.trans (congrArg some (by kernel_rfl))
  f267 := Tryd.func85.trans (congrArg some (by kernel_rfl))
  f268 := Tryd.func74.trans (congrArg some (by kernel_rfl))
  f314 := Tryd.func87.trans (congrArg some (by kernel_rfl))
  t0 := Tryd.underlying0
  a0 := Tryd.isAgg0
  z0 := Tryd.sizeOf0
  v0 := Tryd.zeroValue0
  t3 := Tryd.underlying3
  a3 := Tryd.isAgg3
  z3 := Tryd.sizeOf3
  v3 := Tryd.zeroValue3
  t4 := Tryd.underlying4
  a4 := Tryd.isAgg4
  z4 := Tryd.sizeOf4
  v4 := Tryd.zeroValue4
  t5 := Tryd.underlying5
  a5 := Tryd.isAgg5
  z5 := Tryd.sizeOf5
  v5 := Tryd.zeroValue5
  t9 := Tryd.underlying9
  a9 := Tryd.isAgg9
  z9 := Tryd.sizeOf9
  v9 := Tryd.zeroValue9
  t21 := Tryd.underlying21
  a21 := Tryd.isAgg21
  z21 := Tryd.sizeOf21
  v21 := Tryd.zeroValue21
  t31 := Tryd.underlying50
  a31 := Tryd.isAgg50
  z31 := Tryd.sizeOf50
  v31 := Tryd.zeroValue50
  t46 := Tryd.underlying76
  a46 := Tryd.isAgg76
  z46 := Tryd.sizeOf76
  v46 := Tryd.zeroValue76
  t51 := Tryd.underlying111
  a51 := Tryd.isAgg111
  z51 := Tryd.sizeOf111
  v51 := Tryd.zeroValue111
  t105 := Tryd.underlying103
  a105 := Tryd.isAgg103
  z105 := Tryd.sizeOf103
  v105 := Tryd.zeroValue103
  t119 := Tryd.underlying107
  a119 := Tryd.isAgg107
  z119 := Tryd.sizeOf107
  t138 := Tryd.underlying109
  a138 := Tryd.isAgg109
  z138 := Tryd.sizeOf109
  v138 := Tryd.zeroValue109
  t139 := Tryd.underlying110
  a139 := Tryd.isAgg110
  z139 := Tryd.sizeOf110
  v139 := Tryd.zeroValue110
  t146 := Tryd.underlying112
  a146 := Tryd.isAgg112
  z146 := Tryd.sizeOf112
  v146 := Tryd.zeroValue112
  g1 := by kernel_rfl
  g3 := by kernel_rfl
  g4 := by kernel_rfl }
open Go.RowKit Go.Lib in
theorem Tryd.strings_Split (s sep : ByteArray) (m : Int) (w : World) (hs : s.size < 4294967281) (hm : w.cell? ⟨0, 0, none⟩ = some (.int .i64 m)) (h1 : 1 ≤ sep.size) :
    Calls Tryd.prog 64 #[.string s, .string sep] w fun e w' =>
      e = .returned (.slice (some ⟨w.heap.size, 0, none⟩) (Lib.countB s sep + 1) (Lib.countB s sep + 1)) ∧ w' = w.alloc (.cells ((Lib.splitB sep 0 (Lib.countB s sep) s).map Value.string).toArray 9) := Any.strings_Split Tryd.lays146 (by kernel_rfl) s sep m w hs hm h1
end Go.Proofs

/- The walks of spec.l1IsWord, impl.inRanges and impl.wordOk: each says whether a text is a word, and leaves what was there. -/
namespace Go.Proofs.YtekcfjmnaenghaaDoor
open Go.RowKit

theorem isWord_bad {s : ByteArray} {k : Nat} (h : k < s.size) (hb : ¬ ((97 ≤ (s[k].toNat : Int) ∧ (s[k].toNat : Int) ≤ 122) ∨ (48 ≤ (s[k].toNat : Int) ∧ (s[k].toNat : Int) ≤ 57))) : isWord s = false := by
  unfold isWord; rw [lowAll_bad s k h (low_no hb)]; rfl

theorem lowAll_next {s : ByteArray} {k : Nat} (h : k < s.size) (hl : lowAll (s.data.toList.take k) = true) (hb : (97 ≤ (s[k].toNat : Int) ∧ (s[k].toNat : Int) ≤ 122) ∨ (48 ≤ (s[k].toNat : Int) ∧ (s[k].toNat : Int) ≤ 57)) : lowAll (s.data.toList.take (k + 1)) = true := by
  rw [lowAll_snoc s k h, hl, low_yes hb]; rfl

theorem isWord_end {s : ByteArray} (hl : lowAll (s.data.toList.take s.size) = true) : isWord s = (decide (1 ≤ s.size) && decide (s.size ≤ 12)) := by
  unfold isWord; rw [lowAll_full] at hl; rw [hl]; rfl

set_option maxRecDepth 100000 in
set_option maxHeartbeats 400000 in
theorem specWord_any (s : ByteArray) (w : World) (hs : s.size ≤ maxLen) :
    Calls Tryd.prog 55 #[.string s] w fun e w' => e = .returned (.bool (isWord s)) ∧ w = w' := by
  unfold maxLen at hs
  go_enter Tryd.func55, Tryd.ntmps55
  go_wp2
  go_loop [3] (fun i => ∃ k : Nat, k ≤ s.size ∧ i = .int .i64 k ∧ lowAll (s.data.toList.take k) = true) (fun i => s.size - (intOf i).toNat)
  case atStart => exact ⟨0, Nat.zero_le _, rfl, rfl⟩
  case round =>
    obtain ⟨k, hk, rfl, hl⟩ := hrel
    have HL := Lib.hid hl
    clear hl
    by_cases hlt : k < s.size
    · go_wp2
      all_goals first
        | (go_round
           case rel => exact ⟨k + 1, by omega, by go_num, lowAll_next hlt HL.out (by grind)⟩
           case measure => simp [intOf]; omega)
        | (go_ret; exact ⟨ret_bool (isWord_bad hlt (by grind)).symm, rfl⟩)
    · obtain rfl : k = s.size := by omega
      have HE := isWord_end HL.out
      clear HL
      have HF := Lib.hid HE
      clear HE
      go_wp2
      all_goals
        go_ret
        exact ⟨ret_bool (by rw [HF.out]; grind), rfl⟩

end Go.Proofs.YtekcfjmnaenghaaDoor

/- The walks of impl.inRanges and impl.wordOk: whether a text is a word; what was there stays. -/
namespace Go.Proofs.YtekcfjmnaenghaaDoor
open Go.RowKit

/-- What the ranges a to z and 0 to 9 hold of a rune. -/
def lowR (r : Int) : Bool := (decide (97 ≤ r) && decide (r ≤ 122)) || (decide (48 ≤ r) && decide (r ≤ 57))

set_option maxRecDepth 100000 in
set_option maxHeartbeats 400000 in
theorem inRanges_any0 (r : Int) (b : Nat) (w : World) (hb : b < w.heap.size)
    (hc0 : w.cell? ⟨b, 0, none⟩ = some (.int .i32 97)) (hc1 : w.cell? ⟨b, 1, none⟩ = some (.int .i32 122))
    (hc2 : w.cell? ⟨b, 2, none⟩ = some (.int .i32 48)) (hc3 : w.cell? ⟨b, 3, none⟩ = some (.int .i32 57)) :
    Calls Tryd.prog 65 #[.int .i32 r, .slice (some ⟨b, 0, none⟩) 2 2] w fun e w' => e = .returned (.bool (lowR r)) ∧ Below w.heap.size w w' := by
  go_enter Tryd.func65, Tryd.ntmps65
  go_wp2
  refine wp_loop_rounds 3 ?_
  rw [rounds_succ]
  go_wp2
  · go_ret
    exact ⟨ret_bool (by unfold lowR; grind), (Below.refl _ _).alloc (Nat.le_refl _) _⟩
  all_goals
    rw [rounds_succ]
    go_wp2
    all_goals first
      | (go_ret; exact ⟨ret_bool (by unfold lowR; grind), ((Below.refl _ _).alloc (Nat.le_refl _) _).alloc (by simp) _⟩)
      | (rw [rounds_succ]; go_wp2; go_ret; exact ⟨ret_bool (by unfold lowR; grind), ((Below.refl _ _).alloc (Nat.le_refl _) _).alloc (by simp) _⟩)

theorem inRanges_any (r : Int) (v : Bool) (H : Hid (lowR r = v)) (w : World) :
    Calls Tryd.prog 65 #[.int .i32 r, .slice (some ⟨w.heap.size, 0, none⟩) 2 2] (w.alloc (.cells #[.int .i32 97, .int .i32 122, .int .i32 48, .int .i32 57] 89)) fun e w' => e = .returned (.bool v) ∧ Below (w.heap.size + 1) (w.alloc (.cells #[.int .i32 97, .int .i32 122, .int .i32 48, .int .i32 57] 89)) w' := by
  have hc : ∀ k, (w.alloc (.cells #[.int .i32 97, .int .i32 122, .int .i32 48, .int .i32 57] 89)).cell? ⟨w.heap.size, k, none⟩ = (#[.int .i32 97, .int .i32 122, .int .i32 48, .int .i32 57] : Array Value)[k]? := fun k => by rw [World.cell?_alloc_at _ _ _ _ rfl]
  refine (inRanges_any0 r w.heap.size _ (by simp) (hc 0) (hc 1) (hc 2) (hc 3)).mono ?_
  rintro e w' ⟨rfl, hb⟩
  exact ⟨ret_bool H.out, by simpa using hb⟩

theorem isWord_low {s : ByteArray} {k : Nat} (h : k < s.size) (hb : low s[k] = false) : isWord s = false := by
  unfold isWord; rw [lowAll_bad s k h hb]; rfl

theorem lowR_low {c : UInt8} : lowR (c.toNat : Int) = low c := by
  unfold lowR low; grind

theorem lowR_high {r : Nat} (h : 128 ≤ r) : lowR (r : Int) = false := by
  unfold lowR; grind

theorem decode_bad (s : ByteArray) (pos : Nat) (h : pos < s.size) (hb : low s[pos] = false) : lowR ((Utf8.decode s pos).1 : Int) = false := by
  by_cases ha : (s[pos]'h).toNat < 128
  · rw [decode_ascii s pos h ha]; show lowR ((s[pos].toNat : Nat) : Int) = false; rw [lowR_low, hb]
  · exact lowR_high (decode_high s pos h (by omega)).1

theorem low_ascii {c : UInt8} (h : low c = true) : c.toNat < 128 := by
  unfold low at h; grind

set_option maxRecDepth 100000 in
set_option maxHeartbeats 400000 in
theorem wordOk_any (s : ByteArray) (w : World) (hs : s.size ≤ maxLen) :
    Calls Tryd.prog 52 #[.string s] w fun e w' => e = .returned (.bool (isWord s)) ∧ Below w.heap.size w w' := by
  unfold maxLen at hs
  by_cases h1 : s.size < 1
  · go_enter Tryd.func52, Tryd.ntmps52
    go_wp2
    go_ret
    exact ⟨ret_bool (by unfold isWord; grind), Below.refl _ _⟩
  by_cases h2 : 12 < s.size
  · go_enter Tryd.func52, Tryd.ntmps52
    go_wp2
    go_ret
    exact ⟨ret_bool (by unfold isWord; grind), Below.refl _ _⟩
  go_enter Tryd.func52, Tryd.ntmps52
  go_wp2
  go_loopw [4] (fun _ wr => ∃ pos, wr.heap[w.heap.size]? = some (.stringIter s pos) ∧ pos ≤ s.size ∧ lowAll (s.data.toList.take pos) = true ∧ Below w.heap.size w wr) (fun _ wr => s.size - wr.iterPos w.heap.size)
  case atStart => exact ⟨0, World.iter_heap _ _ _, Nat.zero_le _, rfl, (Below.refl _ _).alloc (Nat.le_refl _) _⟩
  case round =>
    obtain ⟨pos, hit, hp, hl, hbl⟩ := hrel
    have hwlt : w.heap.size < wr.heap.size := (Array.getElem?_eq_some_iff.1 hit).1
    have HL := Lib.hid hl
    have HI := Lib.hid hit
    clear hl hit
    by_cases hlt : pos < s.size
    · cases hlo : low s[pos]
      · obtain ⟨w2, hw2⟩ : ∃ w2, wr.iterAt w.heap.size s (pos + (Utf8.decode s pos).2) = w2 := ⟨_, rfl⟩
        have hnx : ∀ ty, (Instr.next (.pointer (some ⟨w.heap.size, 0, none⟩)) true ty).run Tryd.prog wr = .ok (.tuple #[.bool true, .int .i64 pos, .int .i32 (Utf8.decode s pos).1]) w2 := fun ty => by rw [← hw2]; exact Lib.run_next_any_at wr _ s pos ty HI.out hlt
        obtain ⟨r, hr⟩ : ∃ r : Int, ((Utf8.decode s pos).1 : Int) = r := ⟨_, rfl⟩
        rw [hr] at hnx
        have hbad := decode_bad s pos hlt hlo
        rw [hr] at hbad
        have HB := Lib.hid hbad
        have HW := Lib.hid (show Below w.heap.size w w2 by rw [← hw2]; exact Lib.below_iterAt hbl (Nat.le_refl _) _ _)
        have hsz : w.heap.size < w2.heap.size := by rw [← hw2, Lib.iterAt_size]; exact hwlt
        have HE := Lib.hid (isWord_low hlt hlo)
        clear hw2 hbl hr hbad hlo
        go_wp2_with (go_at_call 65; refine (inRanges_any r false HB w2).mono ?_; rintro e w' ⟨rfl, hb2⟩)
        go_ret
        exact ⟨ret_bool HE.out.symm, (HW.out.alloc (Nat.le_of_lt hsz) _).trans (hb2.mono (by omega))⟩
      · obtain ⟨w2, hw2⟩ : ∃ w2, wr.iterAt w.heap.size s (pos + 1) = w2 := ⟨_, rfl⟩
        have hnx : ∀ ty, (Instr.next (.pointer (some ⟨w.heap.size, 0, none⟩)) true ty).run Tryd.prog wr = .ok (.tuple #[.bool true, .int .i64 pos, .int .i32 (s[pos].toNat : Int)]) w2 := fun ty => by rw [← hw2]; exact Lib.run_next_ascii_at wr _ s pos ty HI.out hlt (low_ascii hlo)
        have HB : Hid (lowR (s[pos].toNat : Int) = true) := Lib.hid (by rw [lowR_low]; exact hlo)
        have HN : Hid (lowAll (s.data.toList.take (pos + 1)) = true) := Lib.hid (by rw [lowAll_snoc s pos hlt, HL.out, hlo]; rfl)
        obtain ⟨r, hr⟩ : ∃ r : Int, (s[pos].toNat : Int) = r := ⟨_, rfl⟩
        rw [hr] at hnx HB
        have HW := Lib.hid (show Below w.heap.size w w2 by rw [← hw2]; exact Lib.below_iterAt hbl (Nat.le_refl _) _ _)
        have HJ : Hid (w2.heap[w.heap.size]? = some (.stringIter s (pos + 1))) := Lib.hid (by rw [← hw2]; exact Lib.iterAt_heap _ _ _ _ _ HI.out)
        have hsz : w.heap.size < w2.heap.size := by rw [← hw2, Lib.iterAt_size]; exact hwlt
        clear hw2 hbl hr hlo
        go_wp2_with (go_at_call 65; refine (inRanges_any r true HB w2).mono ?_; rintro e w' ⟨rfl, hb2⟩)
        go_roundw
        case rel =>
          refine ⟨pos + 1, ?_, by omega, HN.out, (HW.out.alloc (Nat.le_of_lt hsz) _).trans (hb2.mono (by omega))⟩
          rw [hb2.block _ (by omega), Below.heap_alloc _ _ _ hsz]; exact HJ.out
        case measure =>
          have e1 : wr.iterPos w.heap.size = pos := iterPos_of HI.out
          have e2 : w'.iterPos w.heap.size = pos + 1 := iterPos_of (by rw [hb2.block _ (by omega), Below.heap_alloc _ _ _ hsz]; exact HJ.out)
          rw [e1, e2]; omega
    · have hnx : ∀ ty, (Instr.next (.pointer (some ⟨w.heap.size, 0, none⟩)) true ty).run Tryd.prog wr = .ok (.tuple #[.bool false]) wr := fun ty => Lib.run_next_end_at wr _ s pos ty HI.out hlt
      obtain rfl : pos = s.size := by omega
      have HE := Lib.hid (isWord_end HL.out)
      have HW := Lib.hid hbl
      clear hbl HL
      go_wp2
      go_ret
      exact ⟨ret_bool (by rw [HE.out]; grind), HW.out⟩

end Go.Proofs.YtekcfjmnaenghaaDoor
