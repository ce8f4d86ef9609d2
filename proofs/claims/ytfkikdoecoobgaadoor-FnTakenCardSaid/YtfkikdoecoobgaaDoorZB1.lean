/- Small texts, laid together. -/
import Derived.WalkKit
import Derived.Test.YtfkikdoecoobgaaDoorCards
import Derived.Test.YtfkikdoecoobgaaDoorTie
import Derived.ProofKit
import Derived.OpenShut
import Derived.Deep.DeepHandedRow
import Derived.Lay
import Derived.ChangeOld
import Derived.Below
import Derived.Lib.Strings
import Derived.Deep.Draws
import Derived.Test.YtfkikdoecoobgaaDoorRows
import Derived.WalkSpells
import Derived.WalkLawsBesides
import Derived.Lib.Hide
import Derived.Lib.SmallJoins
import Derived.Laws.OwnMore
import Derived.OwnWalk
import Derived.Deep.RegionHeld
import Derived.Maps.AppendAt
import Derived.Deep.MidRow
import Derived.Great.BuildSlice
import Derived.Laws.Rows
import Derived.Laws.ResultCell
import Derived.Shelf.Strings.Search1
import Derived.Shelf.Strings.Search2
import Derived.Shelf.Strings.Search3
import Derived.Shelf.Strings.Count
import Derived.Shelf.Strings.Split
import Derived.Test.YtfkikdoecoobgaaDoorProg
import Derived.Lib.OthersKept
set_option linter.unusedSimpArgs false
set_option linter.unusedVariables false
/- A slice of bytes made a text, whatever the bytes. Of no program. -/
namespace Go.Proofs.YtfkikdoecoobgaaDoor
open Go.RowKit

/-- Bytes as cells. -/
def byteCells (l : List UInt8) : List Value := l.map fun c => Value.int .u8 (c.toNat : Int)

theorem foldl_push (l : List Int) : ∀ s : ByteArray, (l.foldl (fun r n => r.push (UInt8.ofNat n.toNat)) s).data.toList = s.data.toList ++ l.map fun n => UInt8.ofNat n.toNat := by
  induction l with
  | nil => intro s; simp
  | cons n l ih => intro s; rw [List.foldl_cons, ih]; simp [ByteArray.push]

theorem conv_bytes {P : Program} {w : World} {src dst e : TypeId} (a : Addr) (n c : Nat) (l : List UInt8) (hn : l.length = n)
    (hs : P.underlying src = some (.slice e)) (he : P.underlying e = some (.int .u8)) (hd : P.underlying dst = some .string)
    (hc : ∀ j u, (byteCells l)[j]? = some u → w.cell? (a.add j) = some u) :
    (convert src dst (.slice (some a) n c)).run P w = .ok (.string ⟨l.toArray⟩) w := by
  rw [run_convert_bytes_string w src dst e _ _ _ hs he hd]
  have h1 := run_loadCells_list (P := P) (w := w) a (byteCells l) hc
  have e1 : byteCells l = (l.map fun c => (c.toNat : Int)).map (Value.int .u8) := by simp [byteCells]
  have e2 : (byteCells l).length = n := by simp [byteCells, hn]
  rw [e2, e1] at h1
  rw [run_bytesToString w a n c _ h1]
  have : ((l.map fun c => (c.toNat : Int)).foldl (fun r n => r.push (UInt8.ofNat n.toNat)) ByteArray.empty) = ⟨l.toArray⟩ := by
    have h3 := foldl_push (l.map fun c => (c.toNat : Int)) ByteArray.empty
    apply ByteArray.ext
    apply Array.toList_inj.1
    rw [h3]
    simp [ByteArray.empty, ByteArray.emptyWithCapacity, Function.comp_def]
    rfl
  rw [this]

/-- One byte that a literal has just laid. -/
theorem conv_one {P : Program} (w : World) {src dst e : TypeId} (x : Nat) (hx : x < 256)
    (hs : P.underlying src = some (.slice e)) (he : P.underlying e = some (.int .u8)) (hd : P.underlying dst = some .string) :
    (convert src dst (.slice (some ⟨w.heap.size, 0, none⟩) 1 1)).run P (w.alloc (.cells #[.int .u8 (x : Int)] e)) = .ok (.string ⟨[x.toUInt8].toArray⟩) (w.alloc (.cells #[.int .u8 (x : Int)] e)) := by
  refine conv_bytes _ 1 1 [x.toUInt8] rfl hs he hd ?_
  intro j u hj
  match j, hj with
  | 0, hj =>
    have e : (x.toUInt8).toNat = x := by simp; omega
    have hu : u = .int .u8 (x : Int) := by
      have : some (Value.int .u8 ((x.toUInt8).toNat : Int)) = some u := hj
      rw [e] at this
      exact (Option.some.inj this).symm
    rw [hu]
    show World.cell? _ ⟨w.heap.size, 0, none⟩ = _
    rw [World.cell?_alloc_at _ _ _ _ rfl]
    rfl

end Go.Proofs.YtfkikdoecoobgaaDoor

/- What every law's proof over this translation wants: the library's one variable, and a world for the witness. -/
namespace Go.Proofs.YtfkikdoecoobgaaDoor
open Go.ChangeShapes Go.WideShapes Go.ChangeAt Go.RowKit Go.WideMaps Go.WideElems
open Go.ChangeMaps (open_string shut_string)

theorem own : ownKnob Tryd.prog.godebug = none := by kernel_rfl

theorem laidOut : laidOutB Tryd.prog = true := by kernel_rfl

/-- A variable of type int holds some int. -/
theorem int_of_shape {P : Program} {w : World} {g : Nat} {t : TypeId} {zero : Array Value} (h : w.ShapedOpen P) (hg : g < P.globals.size)
    (h0 : ((begin P (fun _ _ => 0) default).world.heap[g]?).bind Obj.row? = some (zero, t)) (hz : zero.size = 1)
    (hb : P.buildable t = true) (hc : P.cellTypes P.depth t = some [t]) (hu : P.underlying t = some (.int .i64)) : ∃ m, w.cell? ⟨g, 0, none⟩ = some (.int .i64 m) := by
  obtain ⟨cs, hh, hs, hr⟩ := h.1 g zero t hg h0
  obtain ⟨ts, hts, _, hall⟩ := hr hb
  rw [hc] at hts
  cases hts
  have h1 : 0 < cs.size := by omega
  obtain ⟨u, hu', hok⟩ := hall 0 cs[0] (by simp [h1])
  have : u = t := by simpa using hu'.symm
  subst this
  have hcell : w.cell? ⟨g, 0, none⟩ = some cs[0] := by simp [World.cell?, hh, h1]
  rw [hcell]
  unfold Cell.ok at hok
  rw [hu] at hok
  cases hv : cs[0] <;> rw [hv] at hok <;> simp at hok
  obtain ⟨rfl, _⟩ := hok
  exact ⟨_, rfl⟩

theorem maxLen_cell {W : World} (h : W.ShapedOpen Tryd.prog) : ∃ m, W.cell? ⟨0, 0, none⟩ = some (.int .i64 m) :=
  int_of_shape (t := 3) (zero := #[.int .i64 0]) h (of_decide_eq_true (by kernel_rfl)) (by kernel_rfl) rfl (by kernel_rfl) (by kernel_rfl) Tryd.underlying3

end Go.Proofs.YtfkikdoecoobgaaDoor

/- Plain mathematics for chapter 1 (names): words, parts. No program in it. -/
namespace Go.Proofs.YtfkikdoecoobgaaDoor

/-- A letter a to z or a digit. -/
def low (c : UInt8) : Bool := (decide (97 ≤ c.toNat) && decide (c.toNat ≤ 122)) || (decide (48 ≤ c.toNat) && decide (c.toNat ≤ 57))

def lowAll (l : List UInt8) : Bool := l.all low

/-- A word. -/
def isWord (s : ByteArray) : Bool := lowAll s.data.toList && (decide (1 ≤ s.size) && decide (s.size ≤ 12))

theorem take_snoc (s : ByteArray) (k : Nat) (h : k < s.size) : s.data.toList.take (k + 1) = s.data.toList.take k ++ [s[k]] := by
  rw [List.take_succ_eq_append_getElem (by simpa using h)]; rfl

theorem lowAll_snoc (s : ByteArray) (k : Nat) (h : k < s.size) : lowAll (s.data.toList.take (k + 1)) = (lowAll (s.data.toList.take k) && low s[k]) := by
  rw [take_snoc s k h]; simp [lowAll]

theorem lowAll_full (s : ByteArray) : lowAll (s.data.toList.take s.size) = lowAll s.data.toList := by
  rw [List.take_of_length_le]; exact Nat.le_of_eq rfl

theorem lowAll_bad (s : ByteArray) (k : Nat) (h : k < s.size) (hb : low s[k] = false) : lowAll s.data.toList = false := by
  have hm : s[k] ∈ s.data.toList := by simp [ByteArray.getElem_eq_getElem_data]
  cases e : lowAll s.data.toList
  · rfl
  · rw [lowAll, List.all_eq_true] at e
    rw [e _ hm] at hb; cases hb

theorem low_yes {c : UInt8} (h : (97 ≤ (c.toNat : Int) ∧ (c.toNat : Int) ≤ 122) ∨ (48 ≤ (c.toNat : Int) ∧ (c.toNat : Int) ≤ 57)) : low c = true := by
  unfold low; simp; omega
theorem low_no {c : UInt8} (h : ¬ ((97 ≤ (c.toNat : Int) ∧ (c.toNat : Int) ≤ 122) ∨ (48 ≤ (c.toNat : Int) ∧ (c.toNat : Int) ≤ 57))) : low c = false := by
  unfold low; simp; omega

end Go.Proofs.YtfkikdoecoobgaaDoor

/- Memory: what stays where a call makes blocks of its own, and where one block alone may turn. Of no program. -/
namespace Go.Proofs.YtfkikdoecoobgaaDoor
open Go.RowKit

theorem ret_bool {a b : Bool} (h : a = b) : Ending.returned (.bool a) = .returned (.bool b) := by rw [h]

theorem ret_str {a b : ByteArray} (h : a = b) : Ending.returned (.string a) = .returned (.string b) := by rw [h]
theorem ret_int {a b : Int} (h : a = b) : Ending.returned (.int .i64 a) = .returned (.int .i64 b) := by rw [h]

theorem below_cell {B : Nat} {w w' : World} (h : Below B w w') {g j : Nat} (hg : g < B) : w'.cell? ⟨g, j, none⟩ = w.cell? ⟨g, j, none⟩ := h.cell hg

theorem below_end {a b c : World} (h : Below a.heap.size a b) (k : Below b.heap.size b c) : Below a.heap.size a c := h.trans (k.mono h.size)

/-- A row that the call owns stays so where all that was there stays. -/
theorem row_below {w w' : World} {B n size : Nat} {E : TypeId} {v : Value} {xs : List Value} (h : w.ownsRow B E size v n xs) (hb : Below w.heap.size w w') : w'.ownsRow B E size v n xs := by
  refine ⟨h.1, ?_⟩
  rcases h.2 with h2 | ⟨g, cap, cur, hv, hg, hh, r⟩
  · exact .inl h2
  · have hlt : g < w.heap.size := (Array.getElem?_eq_some_iff.1 hh).1
    exact .inr ⟨g, cap, cur, hv, hg, (hb.block g hlt).trans hh, r⟩

/-! ### One row may turn, all else stays -/

theorem grown_trans {a b c : World} {r : Option Nat} (h : a.grownBy b r) (k : b.grownBy c r) : a.grownBy c r :=
  ⟨k.os.trans h.os, k.tape.trans h.tape, k.output.trans h.output, Nat.le_trans h.size k.size, fun i hi hr => (k.block i (Nat.lt_of_lt_of_le hi h.size) hr).trans (h.block i hi hr)⟩

theorem grown_below {a c : World} {r : Option Nat} (h : Below a.heap.size a c) : a.grownBy c r :=
  ⟨h.os, h.tape, h.output, h.size, fun i hi _ => h.block i hi⟩

theorem grown_refl (a : World) (r : Option Nat) : a.grownBy a r := ⟨rfl, rfl, rfl, Nat.le_refl _, fun _ _ _ => rfl⟩

theorem grown_setCell (a : World) (g j : Nat) (v : Value) : a.grownBy (a.setCell ⟨g, j, none⟩ v) (some g) :=
  ⟨rfl, rfl, rfl, by simp [World.setCell], fun i _ hr => Below.heap_setCell _ _ _ _ (fun e => hr (by rw [e]))⟩

theorem grown_drewN (w : World) (n : Nat) (r : Option Nat) : w.grownBy (w.drewN n) r := ⟨rfl, rfl, rfl, Nat.le_refl _, fun _ _ _ => rfl⟩

theorem grown_alloc (w : World) (o : Obj) (r : Option Nat) : w.grownBy (w.alloc o) r := grown_below ((Below.refl _ _).alloc (Nat.le_refl _) o)

end Go.Proofs.YtfkikdoecoobgaaDoor

/- What every text over this translation imports. -/
namespace Go.Proofs.YtfkikdoecoobgaaDoor
open Go.RowKit

end Go.Proofs.YtfkikdoecoobgaaDoor

/- Lists of numbers and of knots, as they lie in memory. Of no program. -/
namespace Go.Proofs.YtfkikdoecoobgaaDoor
open Go.RowKit

/-- The cells from (b, o) on hold the numbers l. -/
def IntsIn (w : World) (b o : Nat) (l : List Int) : Prop := ∀ j (hj : j < l.length), w.cell? ⟨b, o + j, none⟩ = some (.int .i64 l[j])

/-- v reads as the numbers l. -/
def IntsAt (w : World) (v : Value) (l : List Int) : Prop :=
  ∃ a c, v = .slice a l.length c ∧ l.length ≤ c ∧ c ≤ maxLen ∧ (l = [] ∨ ∃ b o, a = some ⟨b, o, none⟩ ∧ IntsIn w b o l)

theorem IntsIn.below {w w' : World} {b o : Nat} {l : List Int} (h : IntsIn w b o l) (hb : Below w.heap.size w w') : IntsIn w' b o l := by
  intro j hj
  have := h j hj
  exact (below_cell hb (World.block_lt_of_cell? _ _ this)).trans this

theorem IntsAt.below {w w' : World} {v : Value} {l : List Int} (h : IntsAt w v l) (hb : Below w.heap.size w w') : IntsAt w' v l := by
  obtain ⟨a, c, hv, h1, h2, h3⟩ := h
  refine ⟨a, c, hv, h1, h2, ?_⟩
  rcases h3 with h3 | ⟨b, o, ha, hi⟩
  · exact .inl h3
  · exact .inr ⟨b, o, ha, hi.below hb⟩

/-- A knot: its path, its numbers. -/
abbrev KnotM := ByteArray × List Int

/-- The cells from (b, o) on hold the knots l. -/
def KnotsIn (w : World) (b o : Nat) (l : List KnotM) : Prop :=
  ∀ j (hj : j < l.length), w.cell? ⟨b, o + j * 2, none⟩ = some (.string l[j].1) ∧ ∃ u, w.cell? ⟨b, o + j * 2 + 1, none⟩ = some u ∧ IntsAt w u l[j].2

/-- v reads as the knots l. -/
def KnotsAt (w : World) (v : Value) (l : List KnotM) : Prop :=
  ∃ a c, v = .slice a l.length c ∧ l.length ≤ c ∧ c ≤ maxLen ∧ (l = [] ∨ ∃ b o, a = some ⟨b, o, none⟩ ∧ KnotsIn w b o l)

theorem KnotsIn.below {w w' : World} {b o : Nat} {l : List KnotM} (h : KnotsIn w b o l) (hb : Below w.heap.size w w') : KnotsIn w' b o l := by
  intro j hj
  obtain ⟨h1, u, h2, h3⟩ := h j hj
  exact ⟨(below_cell hb (World.block_lt_of_cell? _ _ h1)).trans h1, u, (below_cell hb (World.block_lt_of_cell? _ _ h2)).trans h2, h3.below hb⟩

theorem KnotsAt.below {w w' : World} {v : Value} {l : List KnotM} (h : KnotsAt w v l) (hb : Below w.heap.size w w') : KnotsAt w' v l := by
  obtain ⟨a, c, hv, h1, h2, h3⟩ := h
  refine ⟨a, c, hv, h1, h2, ?_⟩
  rcases h3 with h3 | ⟨b, o, ha, hi⟩
  · exact .inl h3
  · exact .inr ⟨b, o, ha, hi.below hb⟩

/-! ### The trie's mathematics -/

def idOk (n : Int) : Bool := decide (0 ≤ n) && decide (n ≤ 99)

/-- Numbers from 0 to 99 that rise. -/
def risesTo (l : List Int) (k : Nat) : Bool := (List.range k).all fun j => idOk (l.getD j 0) && (decide (j = 0) || decide (l.getD (j - 1) 0 < l.getD j 0))
def rises (l : List Int) : Bool := risesTo l l.length

theorem risesTo_succ (l : List Int) (k : Nat) : risesTo l (k + 1) = (risesTo l k && (idOk (l.getD k 0) && (decide (k = 0) || decide (l.getD (k - 1) 0 < l.getD k 0)))) := by
  unfold risesTo; rw [List.range_succ, List.all_append]; simp

theorem risesTo_bad {l : List Int} {k : Nat} (h : k < l.length) (hb : (idOk (l.getD k 0) && (decide (k = 0) || decide (l.getD (k - 1) 0 < l.getD k 0))) = false) : rises l = false := by
  cases e : rises l
  · rfl
  · unfold rises risesTo at e
    rw [List.all_eq_true] at e
    have := e k (List.mem_range.2 h)
    rw [hb] at this; cases this

/-- The path of which it is a child: what is ahead of the last slash. -/
def aboveTo (s : ByteArray) : Nat → ByteArray
  | 0 => ⟨#[]⟩
  | k + 1 => if s.data.toList[k]? = some 47 then s.extract 0 k else aboveTo s k
def above (s : ByteArray) : ByteArray := aboveTo s s.size

/-- Where a path is, from the k-th on: -1 where it is not. -/
def findFrom (p : ByteArray) : List KnotM → Nat → Int
  | [], _ => -1
  | x :: l, k => if x.1.toList == p.toList then (k : Int) else findFrom p l (k + 1)
def find (l : List KnotM) (p : ByteArray) : Int := findFrom p l 0

/-- Has the path a child among the knots but the first? -/
def childB (l : List KnotM) (p : ByteArray) : Bool := (l.drop 1).any fun x => (above x.1).toList == p.toList

theorem KnotsIn.alloc {w : World} {b o : Nat} {l : List KnotM} (h : KnotsIn w b o l) (x : Obj) : KnotsIn (w.alloc x) b o l := h.below ((Below.refl _ _).alloc (Nat.le_refl _) x)
theorem KnotsAt.alloc {w : World} {v : Value} {l : List KnotM} (h : KnotsAt w v l) (x : Obj) : KnotsAt (w.alloc x) v l := h.below ((Below.refl _ _).alloc (Nat.le_refl _) x)
theorem IntsAt.alloc {w : World} {v : Value} {l : List Int} (h : IntsAt w v l) (x : Obj) : IntsAt (w.alloc x) v l := h.below ((Below.refl _ _).alloc (Nat.le_refl _) x)

end Go.Proofs.YtfkikdoecoobgaaDoor

/- Rows that a call owns: what holds of each. -/
namespace Go.Proofs.YtfkikdoecoobgaaDoor
open Go.RowKit

theorem take_next {α : Type} (l : List α) (z : α) (n k : Nat) (hn : l.length = n) (h : k < l.length) :
    (l.take k ++ List.replicate (n - k) z).set k l[k] = l.take (k + 1) ++ List.replicate (n - (k + 1)) z := by
  rw [List.set_append_right _ _ (by simp; omega)]
  simp only [List.length_take, Nat.min_eq_left (Nat.le_of_lt h), Nat.sub_self]
  rw [show n - k = (n - (k + 1)) + 1 by omega, List.replicate_succ, List.set_cons_zero, List.take_succ_eq_append_getElem h, List.append_assoc]
  rfl

theorem own_mono {w : World} {A B n size : Nat} {E : TypeId} {v : Value} {xs : List Value} (h : w.ownsRow B E size v n xs) (hb : A ≤ B) : w.ownsRow A E size v n xs := by
  refine ⟨h.1, ?_⟩
  rcases h.2 with h2 | ⟨g, cap, cur, hv, hg, r⟩
  · exact .inl h2
  · exact .inr ⟨g, cap, cur, hv, Nat.le_trans hb hg, r⟩

theorem cell_of_heap {w : World} {g : Nat} {cur : Array Value} {e : TypeId} {fz : Nat × Nat} (h : w.heap[g]? = some (.cells cur e fz)) (j : Nat) : w.cell? ⟨g, j, none⟩ = cur[j]? := by
  simp [World.cell?, h]

theorem own_slice {w : World} {B n size : Nat} {E : TypeId} {v : Value} {xs : List Value} (h : w.ownsRow B E size v n xs) : ∃ a c, v = .slice a n c := by
  rcases h.2 with ⟨rfl, rfl⟩ | ⟨g, cap, _, rfl, _⟩
  · exact ⟨_, _, rfl⟩
  · exact ⟨_, _, rfl⟩

theorem own_kept {w : World} {B n size g j : Nat} {E : TypeId} {u v : Value} {xs : List Value} (h : w.ownsRow B E size v n xs) (hg : v.ownBlock ≠ some g) : (w.setCell ⟨g, j, none⟩ u).ownsRow B E size v n xs :=
  h.kept (grown_setCell w g j u) (.inr hg)

/-- A box of another type stays as it was where an own row grows. -/
theorem type_kept {A C : World} {v : Value} {B n size g : Nat} {E T : TypeId} {xs : List Value} {cs : Array Value} {fr : Nat × Nat} (h : A.ownsRow B E size v n xs) (hg : A.grownBy C v.ownBlock) (hc : A.heap[g]? = some (.cells cs T fr)) (hne : E ≠ T) :
    C.heap[g]? = some (.cells cs T fr) := by
  refine (hg.block g (Array.getElem?_eq_some_iff.1 hc).1 ?_).trans hc
  intro e
  rcases h.2 with ⟨rfl, _⟩ | ⟨g0, cap, cur, rfl, _, hh, _⟩
  · cases e
  · have : g = g0 := by simpa [Value.ownBlock] using e
    subst this
    rw [hh] at hc
    cases hc
    exact hne rfl

theorem own_not_at {A : World} {v : Value} {B n size g : Nat} {E T : TypeId} {xs : List Value} {cs : Array Value} {fr : Nat × Nat} (h : A.ownsRow B E size v n xs) (hc : A.heap[g]? = some (.cells cs T fr)) (hne : E ≠ T) : v.ownBlock ≠ some g := by
  intro e
  rcases h.2 with ⟨rfl, _⟩ | ⟨g0, cap, cur, rfl, _, hh, _⟩
  · cases e
  · have : g0 = g := by simpa [Value.ownBlock] using e
    subst this
    rw [hh] at hc
    cases hc
    exact hne rfl

theorem own_cap {A : World} {B n size g c : Nat} {E : TypeId} {xs : List Value} (h : A.ownsRow B E size (.slice (some ⟨g, 0, none⟩) n c) n xs) : n ≤ c := by
  rcases h.2 with ⟨h1, _⟩ | ⟨g0, cap, cur, h1, _, _, h2, _⟩
  · cases h1
  · cases h1; exact h2

end Go.Proofs.YtfkikdoecoobgaaDoor

/- An append of nothing. -/
namespace Go.Proofs.YtfkikdoecoobgaaDoor
open Go.RowKit

/-- An append of nothing to an own row. -/
theorem wpList_append_empty {P : Program} {w : World} {ops : Array Oper} {rest : List Oper} {o : Oper} {a : Act} {Q : Exit → Act → World → Prop} (hgd : o.guard = none) (s x : Operand) (t : TypeId)
    (ho : o.op = .call { callee := .builtin .append, args := #[s, x], argTypes := #[t, t] }) (base : Nat) (e : TypeId) (i : TypeInfo) (size : Nat) (ht : P.underlying t = some (.slice e)) (hi : P.info? e = some i) (_hs : i.size = size)
    (v : Value) (n : Nat) (xs : List Value) (hs : a.eval s = v) (hown : w.ownsRow base e size v n xs) (c : Nat) (hx : a.eval x = .slice none 0 c)
    (h : wpList P ops Q rest (a.put o.dst v) w) : wpList P ops Q (o :: rest) a w := by
  refine wpList_plain hgd fun K hK => ?_
  have hrun : (Builtin.append_ #[t, t] o.type #[v, .slice none 0 c]).run P w = .ok v w := by
    rw [show Builtin.append_ #[t, t] o.type #[v, .slice none 0 c] = Builtin.append_ #[t, t] o.type #[v, .slice none 0 0] from rfl]
    exact run_append_owned_none w base t o.type e i size ht hi v n xs hown
  unfold Oper.wp
  simp [execOp, ho, resolve, invoke, builtin, hs, hx, hrun, Result.andThen]
  exact hK _ _ h

end Go.Proofs.YtfkikdoecoobgaaDoor

/- An append of a slice that reads as some cells, none too, to an own row. Of no program. -/
namespace Go.Proofs.YtfkikdoecoobgaaDoor
open Go.RowKit

/-- What an append takes: m elements, their cells. -/
def SrcAt (w : World) (src : Value) (m : Nat) (news : List Value) : Prop :=
  ∃ a c, src = .slice a m c ∧ ((a = none ∧ m = 0 ∧ news = []) ∨ ∃ ad, a = some ad ∧ ∀ j u, news[j]? = some u → w.cell? (ad.add j) = some u)

theorem SrcAt.below {w w' : World} {src : Value} {m : Nat} {news : List Value} (h : SrcAt w src m news) (hb : Below w.heap.size w w') : SrcAt w' src m news := by
  obtain ⟨a, c, hs, h | ⟨ad, ha, h⟩⟩ := h
  · exact ⟨a, c, hs, .inl h⟩
  · exact ⟨a, c, hs, .inr ⟨ad, ha, fun j u hu => by have := h j u hu; exact (hb.cell (World.block_lt_of_cell? _ _ this)).trans this⟩⟩

theorem SrcAt.own {w : World} {B n size : Nat} {E : TypeId} {v : Value} {xs : List Value} (h : w.ownsRow B E size v n xs) : SrcAt w v n xs := by
  rcases h.2 with ⟨rfl, h0⟩ | ⟨g, cap, cur, rfl, _⟩
  · exact ⟨none, 0, by rw [h0], .inl ⟨rfl, h0, List.eq_nil_of_length_eq_zero (by rw [h.1, h0, Nat.zero_mul])⟩⟩
  · exact ⟨_, _, rfl, .inr ⟨_, rfl, h.cells rfl⟩⟩

theorem run_append_src {P : Program} (w : World) (base : Nat) (t ty e : TypeId) (i : TypeInfo) (z : Value) (size bytes : Nat) (ht : P.underlying t = some (.slice e)) (hi : P.info? e = some i) (hz : i.zero = some z)
    (hsize : i.size = size) (hby : i.bytes = bytes) (hzs : z.cells.size = size) (hsz : 0 < size) (v src : Value) (n m : Nat) (xs news : List Value) (hown : w.ownsRow base e size v n xs)
    (hsrc : SrcAt w src m news) (hl : news.length = m * size) (h1 : ∀ u ∈ news, u.oneCell' = true) (h63 : n + m ≤ maxLen) (hbytes : (n + m) * bytes ≤ 140737488355328) (hbase : base ≤ w.heap.size) :
    ∃ v' w', (Builtin.append_ #[t, t] ty #[v, src]).run P w = .ok v' w' ∧ w'.ownsRow base e size v' (n + m) (xs ++ news) ∧ w.grownBy w' v.ownBlock ∧ (v'.ownBlock = v.ownBlock ∨ v'.ownBlock = some w.heap.size) := by
  obtain ⟨a, c, rfl, ⟨rfl, rfl, rfl⟩ | ⟨ad, rfl, hc⟩⟩ := hsrc
  · refine ⟨v, w, ?_, by simpa using hown, ⟨rfl, rfl, rfl, Nat.le_refl _, fun _ _ _ => rfl⟩, .inl rfl⟩
    rw [show Builtin.append_ #[t, t] ty #[v, .slice none 0 c] = Builtin.append_ #[t, t] ty #[v, .slice none 0 0] from rfl]
    exact run_append_owned_none w base t ty e i size ht hi v n xs hown
  · obtain ⟨v', w', hr, h2, h3, _, h5⟩ := run_append_own_at (P := P) w base t ty e i z size bytes ht hi hz hsize hby hzs hsz v n xs hown ad m c news hl hc h1 h63 hbytes hbase
    exact ⟨v', w', hr, h2, h3, h5⟩

theorem wp_append_src {P : Program} {w : World} {o : Oper} {a : Act} {K : Act → World → Prop} {Q : Exit → Act → World → Prop} (s x : Operand) (t : TypeId)
    (ho : o.op = .call { callee := .builtin .append, args := #[s, x], argTypes := #[t, t] })
    (base : Nat) (e : TypeId) (i : TypeInfo) (z : Value) (size bytes : Nat) (ht : P.underlying t = some (.slice e)) (hi : P.info? e = some i) (hz : i.zero = some z)
    (hsize : i.size = size) (hby : i.bytes = bytes) (hzs : z.cells.size = size) (hsz : 0 < size)
    (v src : Value) (n m : Nat) (xs news : List Value) (hs : a.eval s = v) (hown : w.ownsRow base e size v n xs)
    (hx : a.eval x = src) (hsrc : SrcAt w src m news) (hl : news.length = m * size) (h1 : ∀ u ∈ news, u.oneCell' = true)
    (h63 : n + m ≤ maxLen) (hbytes : (n + m) * bytes ≤ 140737488355328) (hbase : base ≤ w.heap.size)
    (h : ∀ v' w', w'.ownsRow base e size v' (n + m) (xs ++ news) → w.grownBy w' v.ownBlock → (v'.ownBlock = v.ownBlock ∨ v'.ownBlock = some w.heap.size) → K (a.put o.dst v') w') : o.wp P a w K Q := by
  obtain ⟨v', w', hr, h2, h3, h4⟩ := run_append_src (P := P) w base t o.type e i z size bytes ht hi hz hsize hby hzs hsz v src n m xs news hown hsrc hl h1 h63 hbytes hbase
  unfold Oper.wp execOp
  simp only [ho, resolve, invoke, builtin, Sem.run_bind, Sem.run_pure, Result.andThen_ok, List.map_toArray, List.map_cons, List.map_nil, hs, hx, hr]
  exact h v' w' h2 h3 h4

theorem wpList_append_src {P : Program} {w : World} {ops : Array Oper} {rest : List Oper} {o : Oper} {a : Act} {Q : Exit → Act → World → Prop} (hgd : o.guard = none) (s x : Operand) (t : TypeId)
    (ho : o.op = .call { callee := .builtin .append, args := #[s, x], argTypes := #[t, t] })
    (base : Nat) (e : TypeId) (i : TypeInfo) (z : Value) (size bytes : Nat) (ht : P.underlying t = some (.slice e)) (hi : P.info? e = some i) (hz : i.zero = some z)
    (hsize : i.size = size) (hby : i.bytes = bytes) (hzs : z.cells.size = size) (hsz : 0 < size)
    (v src : Value) (n m : Nat) (xs news : List Value) (hs : a.eval s = v) (hown : w.ownsRow base e size v n xs)
    (hx : a.eval x = src) (hsrc : SrcAt w src m news) (hl : news.length = m * size) (h1 : ∀ u ∈ news, u.oneCell' = true)
    (h63 : n + m ≤ maxLen) (hbytes : (n + m) * bytes ≤ 140737488355328) (hbase : base ≤ w.heap.size)
    (h : ∀ v' w', w'.ownsRow base e size v' (n + m) (xs ++ news) → w.grownBy w' v.ownBlock → (v'.ownBlock = v.ownBlock ∨ v'.ownBlock = some w.heap.size) → wpList P ops Q rest (a.put o.dst v') w') : wpList P ops Q (o :: rest) a w := by
  refine wpList_plain hgd fun K hK => ?_
  exact wp_append_src s x t ho base e i z size bytes ht hi hz hsize hby hzs hsz v src n m xs news hs hown hx hsrc hl h1 h63 hbytes hbase fun v' w' h2 h3 h4 => hK _ _ (h v' w' h2 h3 h4)

end Go.Proofs.YtfkikdoecoobgaaDoor

/- A row read whole in a region that draws. Of no program. -/
namespace Go.Proofs.YtfkikdoecoobgaaDoor
open Go.RowKit

theorem range_of_heap {w : World} {g : Nat} {cs : List Value} {T : TypeId} {fz : Nat × Nat} (h : w.heap[g]? = some (.cells cs.toArray T fz)) : w.rangeAt g 0 cs := fun j v hj => by
  rw [Nat.zero_add]
  exact (cell_of_heap h j).trans (by simpa using hj)

end Go.Proofs.YtfkikdoecoobgaaDoor

/- A row that is set whole: what has changed. Of no program. -/
namespace Go.Proofs.YtfkikdoecoobgaaDoor
open Go.RowKit

theorem grown_setRow (w : World) (g : Nat) (cs : Array Value) : w.grownBy (w.setRow g cs) (some g) := by
  refine ⟨rfl, rfl, rfl, by simp [World.setRow], fun k _ hne => ?_⟩
  have : ¬ g = k := fun e => hne (by rw [e])
  simp [World.setRow, Array.getElem?_modify, this]

theorem setRow_heap {w : World} {g : Nat} {old : Array Value} {T : TypeId} (cs : Array Value) (h : w.heap[g]? = some (.cells old T (0, 0))) :
    (w.setRow g cs).heap[g]? = some (.cells cs T (0, 0)) := by
  simp [World.setRow, Array.getElem?_modify, h]

theorem below_of_grown {a b : World} {n g : Nat} (hg : a.grownBy b (some g)) (h : n ≤ g) (hn : n ≤ a.heap.size) : Below n a b :=
  ⟨hg.os, hg.tape, hg.output, hg.size, fun i hi => hg.block i (by omega) (fun e => by cases e; omega)⟩

theorem own_grownN {w w' : World} {B n size g : Nat} {E : TypeId} {v : Value} {xs : List Value} (h : w.ownsRow B E size v n xs) (hg : g < B) (hw : w.grownBy w' (some g)) : w'.ownsRow B E size v n xs :=
  h.kept hw (by
    cases e : v.ownBlock with
    | none => exact .inl rfl
    | some k => exact .inr (by have := (h.lt k e).1; intro e2; cases e2; omega))

theorem results_row_tmp {P : Program} {fn : Func} {p u : Tmp} {ty : TypeId} (h : fn.results = #[.cell p ty, .tmp u]) (tmps : Array Value) (w : World) (g : Nat) (t : TypeId) (cs : Array Value) (fr : Nat × Nat) (d : TypeDesc)
    (hp : tmps.getD p undef = .pointer (some ⟨g, 0, none⟩)) (hg : w.heap[g]? = some (.cells cs t fr))
    (hu : P.underlying ty = some d) (hd : (match d with | .struct _ | .array _ _ => true | _ => false) = true) (hi : (P.info? ty).map (·.size) = some cs.size) :
    (results fn tmps).run P w = .ok (.tuple #[.agg cs, tmps.getD u undef]) w := by
  rw [results_cell_tmp h, hp]
  simp [asAddr, run_loadVar_row w g t ty cs fr d hg hu hd hi, Result.andThen]

end Go.Proofs.YtfkikdoecoobgaaDoor

/- The library contract of strings.Split, laid at this translation: a table of numbers, one fact a field, one application. -/
namespace Go.Proofs
open Go.Shelf
def Tryd.lays146_ren : Go.Shelf.Ren := ⟨fun | 146 => 66 | 221 => 68 | 268 => 69 | 138 => 70 | 143 => 71 | 195 => 72 | 197 => 73 | 218 => 74 | 219 => 75 | 260 => 76 | 217 => 77 | 225 => 78 | 224 => 79 | 267 => 80 | 266 => 81 | 314 => 82 | n => n, fun | 9 => 9 | 31 => 70 | 3 => 3 | 4 => 4 | 0 => 0 | 105 => 98 | 21 => 21 | 5 => 5 | 46 => 72 | 119 => 102 | 139 => 105 | 138 => 104 | 146 => 107 | 51 => 106 | n => n, fun | 1 => 0 | 3 => 1 | 4 => 2 | n => n⟩
theorem Tryd.lays146 : Go.Proofs.Lays.n146 Tryd.prog Tryd.lays146_ren := {
  mixed := by kernel_rfl
  f138 := Tryd.func70.trans (congrArg some (by kernel_rfl))
  f143 := Tryd.func71.trans (congrArg some (by kernel_rfl))
  f146 := Tryd.func66.trans (congrArg some (by kernel_rfl))
  f195 := Tryd.func72.trans (congrArg some (by kernel_rfl))
  f197 := Tryd.func73.trans (congrArg some (by kernel_rfl))
  f217 := Tryd.func77.trans (congrArg some (by kernel_rfl))
  f218 := Tryd.func74.trans (congrArg some (by kernel_rfl))
  f219 := Tryd.func75.trans (congrArg some (by kernel_rfl))
  f221 := Tryd.func68.trans (congrArg some (by kernel_rfl))
  f224 := Tryd.func79.trans (congrArg some (by kernel_rfl))
  f225 := Tryd.func78.trans (congrArg some (by kernel_rfl))
  f260 := Tryd.func76.trans (congrArg some (by kernel_rfl))
  f266 := Tryd.func81.trans (congrArg some (by kernel_rfl))
  f267 := Tryd.func80.trans (congrArg some (by kernel_rfl))
  f268 := Tryd.func69.trans (congrArg some (by kernel_rfl))
  f314 := Tryd.func82.trans (congrArg some (by kernel_rfl))
  t0 := Tryd.underlying0
  a0 := Tryd.isAgg0
  z0 := Tryd.sizeOf0
  v0 := Tryd.zeroValue0
  t3 := Tryd.underlying3
  a3 := Tryd.isAgg3
  z3 := Tryd.sizeOf3
  v3 := Tryd.zeroValue3
  t4 := Tryd.underlying4
  a4 := Tryd.isAgg4
  z4 := Tryd.sizeOf4
  v4 := Tryd.zeroValue4
  t5 := Tryd.underlying5
  a5 := Tryd.isAgg5
  z5 := Tryd.sizeOf5
  v5 := Tryd.zeroValue5
  t9 := Tryd.underlying9
  a9 := Tryd.isAgg9
  z9 := Tryd.sizeOf9
  v9 := Tryd.zeroValue9
  t21 := Tryd.underlying21
  a21 := Tryd.isAgg21
  z21 := Tryd.sizeOf21
  v21 := Tryd.zeroValue21
  t31 := Tryd.underlying70
  a31 := Tryd.isAgg70
  z31 := Tryd.sizeOf70
  v31 := Tryd.zeroValue70
  t46 := Tryd.underlying72
  a46 := Tryd.isAgg72
  z46 := Tryd.sizeOf72
  v46 := Tryd.zeroValue72
  t51 := Tryd.underlying106
  a51 := Tryd.isAgg106
  z51 := Tryd.sizeOf106
  v51 := Tryd.zeroValue106
  t105 := Tryd.underlying98
  a105 := Tryd.isAgg98
  z105 := Tryd.sizeOf98
  v105 := Tryd.zeroValue98
  t119 := Tryd.underlying102
  a119 := Tryd.isAgg102
  z119 := Tryd.sizeOf102
  t138 := Tryd.underlying104
  a138 := Tryd.isAgg104
  z138 := Tryd.sizeOf104
  v138 := Tryd.zeroValue104
  t139 := Tryd.underlying105
  a139 := Tryd.isAgg105
  z139 := Tryd.sizeOf105
  v139 := Tryd.zeroValue105
  t146 := Tryd.underlying107
  a146 := Tryd.isAgg107
  z146 := Tryd.sizeOf107
  v146 := Tryd.zeroValue107
  g1 := by kernel_rfl
  g3 := by kernel_rfl
  g4 := by kernel_rfl }
open Go.RowKit Go.Lib in
theorem Tryd.strings_Split (s sep : ByteArray) (m : Int) (w : World) (hs : s.size < 4294967281) (hm : w.cell? ⟨0, 0, none⟩ = some (.int .i64 m)) (h1 : 1 ≤ sep.size) :
    Calls Tryd.prog 66 #[.string s, .string sep] w fun e w' =>
      e = .returned (.slice (some ⟨w.heap.size, 0, none⟩) (Lib.countB s sep + 1) (Lib.countB s sep + 1)) ∧ w' = w.alloc (.cells ((Lib.splitB sep 0 (Lib.countB s sep) s).map Value.string).toArray 9) := Any.strings_Split Tryd.lays146 (by kernel_rfl) s sep m w hs hm h1
end Go.Proofs

/- The walks of spec.l1IsWord, impl.inRanges and impl.wordOk: each says whether a text is a word, and leaves what was there. -/
namespace Go.Proofs.YtfkikdoecoobgaaDoor
open Go.RowKit

theorem isWord_bad {s : ByteArray} {k : Nat} (h : k < s.size) (hb : ¬ ((97 ≤ (s[k].toNat : Int) ∧ (s[k].toNat : Int) ≤ 122) ∨ (48 ≤ (s[k].toNat : Int) ∧ (s[k].toNat : Int) ≤ 57))) : isWord s = false := by
  unfold isWord; rw [lowAll_bad s k h (low_no hb)]; rfl

theorem lowAll_next {s : ByteArray} {k : Nat} (h : k < s.size) (hl : lowAll (s.data.toList.take k) = true) (hb : (97 ≤ (s[k].toNat : Int) ∧ (s[k].toNat : Int) ≤ 122) ∨ (48 ≤ (s[k].toNat : Int) ∧ (s[k].toNat : Int) ≤ 57)) : lowAll (s.data.toList.take (k + 1)) = true := by
  rw [lowAll_snoc s k h, hl, low_yes hb]; rfl

theorem isWord_end {s : ByteArray} (hl : lowAll (s.data.toList.take s.size) = true) : isWord s = (decide (1 ≤ s.size) && decide (s.size ≤ 12)) := by
  unfold isWord; rw [lowAll_full] at hl; rw [hl]; rfl

set_option maxRecDepth 100000 in
set_option maxHeartbeats 400000 in
theorem specWord_any (s : ByteArray) (w : World) (hs : s.size ≤ maxLen) :
    Calls Tryd.prog 53 #[.string s] w fun e w' => e = .returned (.bool (isWord s)) ∧ w = w' := by
  unfold maxLen at hs
  go_enter Tryd.func53, Tryd.ntmps53
  go_wp2
  go_loop [3] (fun i => ∃ k : Nat, k ≤ s.size ∧ i = .int .i64 k ∧ lowAll (s.data.toList.take k) = true) (fun i => s.size - (intOf i).toNat)
  case atStart => exact ⟨0, Nat.zero_le _, rfl, rfl⟩
  case round =>
    obtain ⟨k, hk, rfl, hl⟩ := hrel
    have HL := Lib.hid hl
    clear hl
    by_cases hlt : k < s.size
    · go_wp2
      all_goals first
        | (go_round
           case rel => exact ⟨k + 1, by omega, by go_num, lowAll_next hlt HL.out (by grind)⟩
           case measure => simp [intOf]; omega)
        | (go_ret; exact ⟨ret_bool (isWord_bad hlt (by grind)).symm, rfl⟩)
    · obtain rfl : k = s.size := by omega
      have HE := isWord_end HL.out
      clear HL
      have HF := Lib.hid HE
      clear HE
      go_wp2
      all_goals
        go_ret
        exact ⟨ret_bool (by rw [HF.out]; grind), rfl⟩

end Go.Proofs.YtfkikdoecoobgaaDoor

/- The walks of impl.inRanges and impl.wordOk: whether a text is a word; what was there stays. -/
namespace Go.Proofs.YtfkikdoecoobgaaDoor
open Go.RowKit

/-- What the ranges a to z and 0 to 9 hold of a rune. -/
def lowR (r : Int) : Bool := (decide (97 ≤ r) && decide (r ≤ 122)) || (decide (48 ≤ r) && decide (r ≤ 57))

set_option maxRecDepth 100000 in
set_option maxHeartbeats 400000 in
theorem inRanges_any0 (r : Int) (b : Nat) (w : World) (hb : b < w.heap.size)
    (hc0 : w.cell? ⟨b, 0, none⟩ = some (.int .i32 97)) (hc1 : w.cell? ⟨b, 1, none⟩ = some (.int .i32 122))
    (hc2 : w.cell? ⟨b, 2, none⟩ = some (.int .i32 48)) (hc3 : w.cell? ⟨b, 3, none⟩ = some (.int .i32 57)) :
    Calls Tryd.prog 67 #[.int .i32 r, .slice (some ⟨b, 0, none⟩) 2 2] w fun e w' => e = .returned (.bool (lowR r)) ∧ Below w.heap.size w w' := by
  go_enter Tryd.func67, Tryd.ntmps67
  go_wp2
  refine wp_loop_rounds 3 ?_
  rw [rounds_succ]
  go_wp2
  · go_ret
    exact ⟨ret_bool (by unfold lowR; grind), (Below.refl _ _).alloc (Nat.le_refl _) _⟩
  all_goals
    rw [rounds_succ]
    go_wp2
    all_goals first
      | (go_ret; exact ⟨ret_bool (by unfold lowR; grind), ((Below.refl _ _).alloc (Nat.le_refl _) _).alloc (by simp) _⟩)
      | (rw [rounds_succ]; go_wp2; go_ret; exact ⟨ret_bool (by unfold lowR; grind), ((Below.refl _ _).alloc (Nat.le_refl _) _).alloc (by simp) _⟩)

theorem inRanges_any (r : Int) (v : Bool) (H : Hid (lowR r = v)) (w : World) :
    Calls Tryd.prog 67 #[.int .i32 r, .slice (some ⟨w.heap.size, 0, none⟩) 2 2] (w.alloc (.cells #[.int .i32 97, .int .i32 122, .int .i32 48, .int .i32 57] 92)) fun e w' => e = .returned (.bool v) ∧ Below (w.heap.size + 1) (w.alloc (.cells #[.int .i32 97, .int .i32 122, .int .i32 48, .int .i32 57] 92)) w' := by
  have hc : ∀ k, (w.alloc (.cells #[.int .i32 97, .int .i32 122, .int .i32 48, .int .i32 57] 92)).cell? ⟨w.heap.size, k, none⟩ = (#[.int .i32 97, .int .i32 122, .int .i32 48, .int .i32 57] : Array Value)[k]? := fun k => by rw [World.cell?_alloc_at _ _ _ _ rfl]
  refine (inRanges_any0 r w.heap.size _ (by simp) (hc 0) (hc 1) (hc 2) (hc 3)).mono ?_
  rintro e w' ⟨rfl, hb⟩
  exact ⟨ret_bool H.out, by simpa using hb⟩

theorem isWord_low {s : ByteArray} {k : Nat} (h : k < s.size) (hb : low s[k] = false) : isWord s = false := by
  unfold isWord; rw [lowAll_bad s k h hb]; rfl

theorem lowR_low {c : UInt8} : lowR (c.toNat : Int) = low c := by
  unfold lowR low; grind

theorem lowR_high {r : Nat} (h : 128 ≤ r) : lowR (r : Int) = false := by
  unfold lowR; grind

theorem decode_bad (s : ByteArray) (pos : Nat) (h : pos < s.size) (hb : low s[pos] = false) : lowR ((Utf8.decode s pos).1 : Int) = false := by
  by_cases ha : (s[pos]'h).toNat < 128
  · rw [decode_ascii s pos h ha]; show lowR ((s[pos].toNat : Nat) : Int) = false; rw [lowR_low, hb]
  · exact lowR_high (decode_high s pos h (by omega)).1

theorem low_ascii {c : UInt8} (h : low c = true) : c.toNat < 128 := by
  unfold low at h; grind

set_option maxRecDepth 100000 in
set_option maxHeartbeats 400000 in
theorem wordOk_any (s : ByteArray) (w : World) (hs : s.size ≤ maxLen) :
    Calls Tryd.prog 65 #[.string s] w fun e w' => e = .returned (.bool (isWord s)) ∧ Below w.heap.size w w' := by
  unfold maxLen at hs
  by_cases h1 : s.size < 1
  · go_enter Tryd.func65, Tryd.ntmps65
    go_wp2
    go_ret
    exact ⟨ret_bool (by unfold isWord; grind), Below.refl _ _⟩
  by_cases h2 : 12 < s.size
  · go_enter Tryd.func65, Tryd.ntmps65
    go_wp2
    go_ret
    exact ⟨ret_bool (by unfold isWord; grind), Below.refl _ _⟩
  go_enter Tryd.func65, Tryd.ntmps65
  go_wp2
  go_loopw [4] (fun _ wr => ∃ pos, wr.heap[w.heap.size]? = some (.stringIter s pos) ∧ pos ≤ s.size ∧ lowAll (s.data.toList.take pos) = true ∧ Below w.heap.size w wr) (fun _ wr => s.size - wr.iterPos w.heap.size)
  case atStart => exact ⟨0, World.iter_heap _ _ _, Nat.zero_le _, rfl, (Below.refl _ _).alloc (Nat.le_refl _) _⟩
  case round =>
    obtain ⟨pos, hit, hp, hl, hbl⟩ := hrel
    have hwlt : w.heap.size < wr.heap.size := (Array.getElem?_eq_some_iff.1 hit).1
    have HL := Lib.hid hl
    have HI := Lib.hid hit
    clear hl hit
    by_cases hlt : pos < s.size
    · cases hlo : low s[pos]
      · obtain ⟨w2, hw2⟩ : ∃ w2, wr.iterAt w.heap.size s (pos + (Utf8.decode s pos).2) = w2 := ⟨_, rfl⟩
        have hnx : ∀ ty, (Instr.next (.pointer (some ⟨w.heap.size, 0, none⟩)) true ty).run Tryd.prog wr = .ok (.tuple #[.bool true, .int .i64 pos, .int .i32 (Utf8.decode s pos).1]) w2 := fun ty => by rw [← hw2]; exact Lib.run_next_any_at wr _ s pos ty HI.out hlt
        obtain ⟨r, hr⟩ : ∃ r : Int, ((Utf8.decode s pos).1 : Int) = r := ⟨_, rfl⟩
        rw [hr] at hnx
        have hbad := decode_bad s pos hlt hlo
        rw [hr] at hbad
        have HB := Lib.hid hbad
        have HW := Lib.hid (show Below w.heap.size w w2 by rw [← hw2]; exact Lib.below_iterAt hbl (Nat.le_refl _) _ _)
        have hsz : w.heap.size < w2.heap.size := by rw [← hw2, Lib.iterAt_size]; exact hwlt
        have HE := Lib.hid (isWord_low hlt hlo)
        clear hw2 hbl hr hbad hlo
        go_wp2_with (go_at_call 67; refine (inRanges_any r false HB w2).mono ?_; rintro e w' ⟨rfl, hb2⟩)
        go_ret
        exact ⟨ret_bool HE.out.symm, (HW.out.alloc (Nat.le_of_lt hsz) _).trans (hb2.mono (by omega))⟩
      · obtain ⟨w2, hw2⟩ : ∃ w2, wr.iterAt w.heap.size s (pos + 1) = w2 := ⟨_, rfl⟩
        have hnx : ∀ ty, (Instr.next (.pointer (some ⟨w.heap.size, 0, none⟩)) true ty).run Tryd.prog wr = .ok (.tuple #[.bool true, .int .i64 pos, .int .i32 (s[pos].toNat : Int)]) w2 := fun ty => by rw [← hw2]; exact Lib.run_next_ascii_at wr _ s pos ty HI.out hlt (low_ascii hlo)
        have HB : Hid (lowR (s[pos].toNat : Int) = true) := Lib.hid (by rw [lowR_low]; exact hlo)
        have HN : Hid (lowAll (s.data.toList.take (pos + 1)) = true) := Lib.hid (by rw [lowAll_snoc s pos hlt, HL.out, hlo]; rfl)
        obtain ⟨r, hr⟩ : ∃ r : Int, (s[pos].toNat : Int) = r := ⟨_, rfl⟩
        rw [hr] at hnx HB
        have HW := Lib.hid (show Below w.heap.size w w2 by rw [← hw2]; exact Lib.below_iterAt hbl (Nat.le_refl _) _ _)
        have HJ : Hid (w2.heap[w.heap.size]? = some (.stringIter s (pos + 1))) := Lib.hid (by rw [← hw2]; exact Lib.iterAt_heap _ _ _ _ _ HI.out)
        have hsz : w.heap.size < w2.heap.size := by rw [← hw2, Lib.iterAt_size]; exact hwlt
        clear hw2 hbl hr hlo
        go_wp2_with (go_at_call 67; refine (inRanges_any r true HB w2).mono ?_; rintro e w' ⟨rfl, hb2⟩)
        go_roundw
        case rel =>
          refine ⟨pos + 1, ?_, by omega, HN.out, (HW.out.alloc (Nat.le_of_lt hsz) _).trans (hb2.mono (by omega))⟩
          rw [hb2.block _ (by omega), Below.heap_alloc _ _ _ hsz]; exact HJ.out
        case measure =>
          have e1 : wr.iterPos w.heap.size = pos := iterPos_of HI.out
          have e2 : w'.iterPos w.heap.size = pos + 1 := iterPos_of (by rw [hb2.block _ (by omega), Below.heap_alloc _ _ _ hsz]; exact HJ.out)
          rw [e1, e2]; omega
    · have hnx : ∀ ty, (Instr.next (.pointer (some ⟨w.heap.size, 0, none⟩)) true ty).run Tryd.prog wr = .ok (.tuple #[.bool false]) wr := fun ty => Lib.run_next_end_at wr _ s pos ty HI.out hlt
      obtain rfl : pos = s.size := by omega
      have HE := Lib.hid (isWord_end HL.out)
      have HW := Lib.hid hbl
      clear hbl HL
      go_wp2
      go_ret
      exact ⟨ret_bool (by rw [HE.out]; grind), HW.out⟩

end Go.Proofs.YtfkikdoecoobgaaDoor
