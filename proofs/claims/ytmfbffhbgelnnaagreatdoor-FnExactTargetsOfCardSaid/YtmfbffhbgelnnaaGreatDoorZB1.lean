/- Small texts, laid together. -/
import Derived.WalkKit
import Derived.Test.YtmfbffhbgelnnaaGreatDoorCards
import Derived.Test.YtmfbffhbgelnnaaGreatDoorTie
import Derived.ProofKit
import Derived.OpenShut
import Derived.Deep.DeepHandedRow
import Derived.Lay
import Derived.ChangeOld
import Derived.Below
import Derived.Lib.Strings
import Derived.Lib.SplitLaws
import Derived.Laws.Strings
import Derived.Deep.Draws
import Derived.Test.YtmfbffhbgelnnaaGreatDoorRows
import Derived.WalkSpells
import Derived.WalkLawsBesides
import Derived.Lib.Hide
import Derived.Lib.SmallJoins
import Derived.BigQuiet
import Derived.Deep.QuietTactic
import Derived.Deep.RegionHeld3
import Derived.Laws.OwnMore
import Derived.OwnWalk
import Derived.Deep.RegionHeld
import Derived.Maps.AppendAt
import Derived.Deep.MidRow
import Derived.Great.BuildSlice
import Derived.Laws.Rows
import Derived.Laws.ResultCell
import Derived.Shelf.Small.Bits
import Derived.Shelf.Small.Strs
import Derived.Shelf.Strconv.Itoa0
import Derived.Shelf.Strings.Search1
import Derived.Shelf.Strings.Search2
import Derived.Shelf.Strings.Search3
import Derived.Shelf.Strings.Count
import Derived.Shelf.Strings.Split
import Derived.Test.YtmfbffhbgelnnaaGreatDoorProg
import Derived.Shelf.SlSortCmp.WholeK
set_option linter.unusedSimpArgs false
set_option linter.unusedVariables false
/- A slice of bytes made a text, whatever the bytes. Of no program. -/
namespace Go.Proofs.YtmfbffhbgelnnaaGreatDoor
open Go.RowKit

/-- Bytes as cells. -/
def byteCells (l : List UInt8) : List Value := l.map fun c => Value.int .u8 (c.toNat : Int)

theorem foldl_push (l : List Int) : ∀ s : ByteArray, (l.foldl (fun r n => r.push (UInt8.ofNat n.toNat)) s).data.toList = s.data.toList ++ l.map fun n => UInt8.ofNat n.toNat := by
  induction l with
  | nil => intro s; simp
  | cons n l ih => intro s; rw [List.foldl_cons, ih]; simp [ByteArray.push]

theorem conv_bytes {P : Program} {w : World} {src dst e : TypeId} (a : Addr) (n c : Nat) (l : List UInt8) (hn : l.length = n)
    (hs : P.underlying src = some (.slice e)) (he : P.underlying e = some (.int .u8)) (hd : P.underlying dst = some .string)
    (hc : ∀ j u, (byteCells l)[j]? = some u → w.cell? (a.add j) = some u) :
    (convert src dst (.slice (some a) n c)).run P w = .ok (.string ⟨l.toArray⟩) w := by
  rw [run_convert_bytes_string w src dst e _ _ _ hs he hd]
  have h1 := run_loadCells_list (P := P) (w := w) a (byteCells l) hc
  have e1 : byteCells l = (l.map fun c => (c.toNat : Int)).map (Value.int .u8) := by simp [byteCells]
  have e2 : (byteCells l).length = n := by simp [byteCells, hn]
  rw [e2, e1] at h1
  rw [run_bytesToString w a n c _ h1]
  have : ((l.map fun c => (c.toNat : Int)).foldl (fun r n => r.push (UInt8.ofNat n.toNat)) ByteArray.empty) = ⟨l.toArray⟩ := by
    have h3 := foldl_push (l.map fun c => (c.toNat : Int)) ByteArray.empty
    apply ByteArray.ext
    apply Array.toList_inj.1
    rw [h3]
    simp [ByteArray.empty, ByteArray.emptyWithCapacity, Function.comp_def]
    rfl
  rw [this]

/-- One byte that a literal has just laid. -/
theorem conv_one {P : Program} (w : World) {src dst e : TypeId} (x : Nat) (hx : x < 256)
    (hs : P.underlying src = some (.slice e)) (he : P.underlying e = some (.int .u8)) (hd : P.underlying dst = some .string) :
    (convert src dst (.slice (some ⟨w.heap.size, 0, none⟩) 1 1)).run P (w.alloc (.cells #[.int .u8 (x : Int)] e)) = .ok (.string ⟨[x.toUInt8].toArray⟩) (w.alloc (.cells #[.int .u8 (x : Int)] e)) := by
  refine conv_bytes _ 1 1 [x.toUInt8] rfl hs he hd ?_
  intro j u hj
  match j, hj with
  | 0, hj =>
    have e : (x.toUInt8).toNat = x := by simp; omega
    have hu : u = .int .u8 (x : Int) := by
      have : some (Value.int .u8 ((x.toUInt8).toNat : Int)) = some u := hj
      rw [e] at this
      exact (Option.some.inj this).symm
    rw [hu]
    show World.cell? _ ⟨w.heap.size, 0, none⟩ = _
    rw [World.cell?_alloc_at _ _ _ _ rfl]
    rfl

end Go.Proofs.YtmfbffhbgelnnaaGreatDoor

/- What every law's proof over this translation wants: the library's one variable, and a world for the witness. -/
namespace Go.Proofs.YtmfbffhbgelnnaaGreatDoor
open Go.ChangeShapes Go.WideShapes Go.ChangeAt Go.RowKit Go.WideMaps Go.WideElems
open Go.ChangeMaps (open_string shut_string)

theorem own : ownKnob Tryz.prog.godebug = none := by kernel_rfl

theorem laidOut : laidOutB Tryz.prog = true := by kernel_rfl

/-- A variable of type int holds some int. -/
theorem int_of_shape {P : Program} {w : World} {g : Nat} {t : TypeId} {zero : Array Value} (h : w.ShapedOpen P) (hg : g < P.globals.size)
    (h0 : ((begin P (fun _ _ => 0) default).world.heap[g]?).bind Obj.row? = some (zero, t)) (hz : zero.size = 1)
    (hb : P.buildable t = true) (hc : P.cellTypes P.depth t = some [t]) (hu : P.underlying t = some (.int .i64)) : ∃ m, w.cell? ⟨g, 0, none⟩ = some (.int .i64 m) := by
  obtain ⟨cs, hh, hs, hr⟩ := h.1 g zero t hg h0
  obtain ⟨ts, hts, _, hall⟩ := hr hb
  rw [hc] at hts
  cases hts
  have h1 : 0 < cs.size := by omega
  obtain ⟨u, hu', hok⟩ := hall 0 cs[0] (by simp [h1])
  have : u = t := by simpa using hu'.symm
  subst this
  have hcell : w.cell? ⟨g, 0, none⟩ = some cs[0] := by simp [World.cell?, hh, h1]
  rw [hcell]
  unfold Cell.ok at hok
  rw [hu] at hok
  cases hv : cs[0] <;> rw [hv] at hok <;> simp at hok
  obtain ⟨rfl, _⟩ := hok
  exact ⟨_, rfl⟩

theorem maxLen_cell {W : World} (h : W.ShapedOpen Tryz.prog) : ∃ m, W.cell? ⟨0, 0, none⟩ = some (.int .i64 m) :=
  int_of_shape (t := 3) (zero := #[.int .i64 0]) h (of_decide_eq_true (by kernel_rfl)) (by kernel_rfl) rfl (by kernel_rfl) (by kernel_rfl) Tryz.underlying3

end Go.Proofs.YtmfbffhbgelnnaaGreatDoor

/- Plain mathematics for chapter 1 (names): words, parts. No program in it. -/
namespace Go.Proofs.YtmfbffhbgelnnaaGreatDoor

/-- A letter a to z or a digit. -/
def low (c : UInt8) : Bool := (decide (97 ≤ c.toNat) && decide (c.toNat ≤ 122)) || (decide (48 ≤ c.toNat) && decide (c.toNat ≤ 57))

def lowAll (l : List UInt8) : Bool := l.all low

/-- A word. -/
def isWord (s : ByteArray) : Bool := lowAll s.data.toList && (decide (1 ≤ s.size) && decide (s.size ≤ 12))

theorem take_snoc (s : ByteArray) (k : Nat) (h : k < s.size) : s.data.toList.take (k + 1) = s.data.toList.take k ++ [s[k]] := by
  rw [List.take_succ_eq_append_getElem (by simpa using h)]; rfl

theorem lowAll_snoc (s : ByteArray) (k : Nat) (h : k < s.size) : lowAll (s.data.toList.take (k + 1)) = (lowAll (s.data.toList.take k) && low s[k]) := by
  rw [take_snoc s k h]; simp [lowAll]

theorem lowAll_full (s : ByteArray) : lowAll (s.data.toList.take s.size) = lowAll s.data.toList := by
  rw [List.take_of_length_le]; exact Nat.le_of_eq rfl

theorem lowAll_bad (s : ByteArray) (k : Nat) (h : k < s.size) (hb : low s[k] = false) : lowAll s.data.toList = false := by
  have hm : s[k] ∈ s.data.toList := by simp [ByteArray.getElem_eq_getElem_data]
  cases e : lowAll s.data.toList
  · rfl
  · rw [lowAll, List.all_eq_true] at e
    rw [e _ hm] at hb; cases hb

theorem low_yes {c : UInt8} (h : (97 ≤ (c.toNat : Int) ∧ (c.toNat : Int) ≤ 122) ∨ (48 ≤ (c.toNat : Int) ∧ (c.toNat : Int) ≤ 57)) : low c = true := by
  unfold low; simp; omega
theorem low_no {c : UInt8} (h : ¬ ((97 ≤ (c.toNat : Int) ∧ (c.toNat : Int) ≤ 122) ∨ (48 ≤ (c.toNat : Int) ∧ (c.toNat : Int) ≤ 57))) : low c = false := by
  unfold low; simp; omega

end Go.Proofs.YtmfbffhbgelnnaaGreatDoor

/- Plain mathematics: a text cut at each byte c, three ways: by recursion, as the reference's loop does, and as the library's Split does. -/
namespace Go.Proofs.YtmfbffhbgelnnaaGreatDoor

/-- The parts between the bytes c. -/
def cut (c : UInt8) : List UInt8 → List (List UInt8)
  | [] => [[]]
  | b :: l => if b = c then [] :: cut c l else match cut c l with
    | [] => [[b]]
    | p :: ps => (b :: p) :: ps

theorem cut_cons (c : UInt8) (l : List UInt8) : ∃ p ps, cut c l = p :: ps := by
  cases l with
  | nil => exact ⟨_, _, rfl⟩
  | cons b l =>
    unfold cut
    split
    · exact ⟨_, _, rfl⟩
    · split
      · exact ⟨_, _, rfl⟩
      · exact ⟨_, _, rfl⟩

theorem cut_length (c : UInt8) (l : List UInt8) : (cut c l).length = l.count c + 1 := by
  induction l with
  | nil => rfl
  | cons b l ih =>
    obtain ⟨p, ps, h⟩ := cut_cons c l
    unfold cut
    split
    · rename_i e; subst e; simp [ih]
    · rename_i e; rw [h] at ih ⊢; rw [List.count_cons_of_ne (by simpa using e)]; simpa using ih

/-- THE LIBRARY's WAY. -/
theorem splitK_cut (c : UInt8) : ∀ l : List UInt8, Lib.splitK [c] 0 (Lib.count l [c]) l = cut c l
  | [] => rfl
  | b :: l => by
    have ih := splitK_cut c l
    by_cases h : b = c
    · subst h
      have hix : Lib.index (b :: l) [b] = ((0 : Nat) : Int) := by rw [Lib.index]; simp [List.isPrefixOf]
      rw [Lib.count_cons_eq, Nat.add_comm, Lib.splitK, hix]
      simp only [cut, if_true]
      simpa using ih
    · have hp : ([c] : List UInt8).isPrefixOf (b :: l) = false := by simp [List.isPrefixOf, Ne.symm h]
      have hix : Lib.index (b :: l) [c] = if Lib.index l [c] == -1 then -1 else Lib.index l [c] + 1 := by rw [Lib.index, hp]; simp
      rw [Lib.count_cons_ne b c l h]
      cases hn : Lib.count l [c] with
      | zero =>
        rw [hn, Lib.splitK] at ih
        rw [Lib.splitK, cut, if_neg h, ← ih]
      | succ m =>
        rw [hn, Lib.splitK] at ih
        rw [Lib.splitK, cut, if_neg h, ← ih]
        have hge := Lib.index_ge l [c]
        by_cases hm : Lib.index l [c] = -1
        · rw [hix, hm]; rfl
        · obtain ⟨j, hj⟩ : ∃ j : Nat, Lib.index l [c] = j := ⟨(Lib.index l [c]).toNat, by omega⟩
          rw [hix, hj]
          have e1 : ((j : Int) == -1) = false := by rw [beq_eq_false_iff_ne]; omega
          have e2 : ((j : Int) + 1 == -1) = false := by rw [beq_eq_false_iff_ne]; omega
          have e3 : ((j : Int) + 1).toNat = j + 1 := by omega
          simp [e1, e2, e3]

/-- THE REFERENCE's WAY: what lies in the list behind k rounds, and where the next part begins. -/
def cutTo (s : ByteArray) (c : UInt8) : Nat → List ByteArray × Nat
  | 0 => ([], 0)
  | k + 1 => if s.size ≤ k ∨ s.data.toList[k]? = some c then ((cutTo s c k).1 ++ [s.extract (cutTo s c k).2 k], k + 1) else cutTo s c k

def parts (s : ByteArray) (c : UInt8) : List ByteArray := (cutTo s c (s.size + 1)).1

theorem cutTo_le (s : ByteArray) (c : UInt8) : ∀ k, (cutTo s c k).2 ≤ k
  | 0 => Nat.le_refl _
  | k + 1 => by
    unfold cutTo
    split
    · exact Nat.le_refl _
    · exact Nat.le_succ_of_le (cutTo_le s c k)

theorem cutTo_len (s : ByteArray) (c : UInt8) : ∀ k, (cutTo s c k).1.length ≤ k
  | 0 => Nat.le_refl _
  | k + 1 => by
    have := cutTo_len s c k
    unfold cutTo
    split
    · simp; omega
    · omega

theorem cutTo_hit {s : ByteArray} {c : UInt8} {k : Nat} (h : s.size ≤ k ∨ s.data.toList[k]? = some c) : cutTo s c (k + 1) = ((cutTo s c k).1 ++ [s.extract (cutTo s c k).2 k], k + 1) := by
  rw [cutTo, if_pos h]
theorem cutTo_miss {s : ByteArray} {c : UInt8} {k : Nat} (h : k < s.size) (hc : s.data.toList[k]? ≠ some c) : cutTo s c (k + 1) = cutTo s c k := by
  rw [cutTo, if_neg (by rintro (h1 | h1); omega; exact hc h1)]

/-- A text put ahead of the first part. -/
def ahead (x : List UInt8) : List (List UInt8) → List (List UInt8)
  | [] => [x]
  | p :: ps => (x ++ p) :: ps

theorem extract_list (s : ByteArray) (a b : Nat) : (s.extract a b).data.toList = (s.data.toList.take b).drop a := by
  rw [Lib.extract_data]; simp [List.drop_take]

theorem cutTo_inv (s : ByteArray) (c : UInt8) : ∀ k, k ≤ s.size →
    cut c s.data.toList = (cutTo s c k).1.map (·.data.toList) ++ ahead ((s.data.toList.take k).drop (cutTo s c k).2) (cut c (s.data.toList.drop k))
  | 0, _ => by
    obtain ⟨p, ps, h⟩ := cut_cons c s.data.toList
    simp [cutTo, h, ahead]
  | k + 1, hk => by
    rw [cutTo_inv s c k (by omega)]
    have hlt : k < s.data.toList.length := (show k < s.size by omega)
    have hle := cutTo_le s c k
    have hd : s.data.toList.drop k = s.data.toList[k] :: s.data.toList.drop (k + 1) := List.drop_eq_getElem_cons hlt
    have hg : s.data.toList[k]? = some s.data.toList[k] := List.getElem?_eq_getElem hlt
    by_cases hc : s.data.toList[k] = c
    · rw [cutTo_hit (.inr (by rw [hg, hc])), hd, cut, if_pos hc]
      obtain ⟨p, ps, h⟩ := cut_cons c (s.data.toList.drop (k + 1))
      simp only [List.map_append, List.map_cons, List.map_nil, extract_list, ahead, h, List.append_nil, List.append_assoc, List.cons_append, List.nil_append]
      congr 2
      simp
    · rw [cutTo_miss (by omega) (by rw [hg]; simpa using hc), hd, cut, if_neg hc]
      obtain ⟨p, ps, h⟩ := cut_cons c (s.data.toList.drop (k + 1))
      rw [h]
      simp only [ahead]
      congr 2
      rw [List.take_succ_eq_append_getElem hlt, List.drop_append_of_le_length (by simp; omega)]
      simp

theorem parts_data (s : ByteArray) (c : UInt8) : (parts s c).map (·.data.toList) = cut c s.data.toList := by
  have hl : s.data.toList.length = s.size := rfl
  rw [cutTo_inv s c s.size (Nat.le_refl _), parts, cutTo_hit (.inl (Nat.le_refl _))]
  have hd : s.data.toList.drop s.size = [] := List.drop_of_length_le (Nat.le_of_eq hl)
  rw [hd]
  simp only [List.map_append, List.map_cons, List.map_nil, extract_list, cut, ahead, List.append_nil]

theorem bytes_ext {a b : ByteArray} (h : a.data.toList = b.data.toList) : a = b := by
  cases a; cases b; simpa [← Array.toList_inj] using h

theorem lists_ext : ∀ {a b : List ByteArray}, a.map (·.data.toList) = b.map (·.data.toList) → a = b
  | [], [], _ => rfl
  | x :: a, y :: b, h => by
    simp only [List.map_cons, List.cons.injEq] at h
    rw [bytes_ext h.1, lists_ext h.2]
  | [], _ :: _, h => by simp at h
  | _ :: _, [], h => by simp at h

/-- BOTH WAYS ARE ONE. -/
theorem splitB_parts (s : ByteArray) (c : UInt8) : Lib.splitB ⟨#[c]⟩ 0 (Lib.countB s ⟨#[c]⟩) s = parts s c :=
  lists_ext (by rw [Lib.splitB_data, parts_data]; exact splitK_cut c s.data.toList)

theorem countB_parts (s : ByteArray) (c : UInt8) : Lib.countB s ⟨#[c]⟩ + 1 = (parts s c).length := by
  rw [← splitB_parts, Lib.splitB_all ⟨#[c]⟩ (Nat.le_refl 1) 0 _ s rfl]

theorem parts_le (s : ByteArray) (c : UInt8) : (parts s c).length ≤ s.size + 1 := cutTo_len s c _

theorem cutTo_size (s : ByteArray) (c : UInt8) : ∀ k, k ≤ s.size + 1 → ∀ p ∈ (cutTo s c k).1, p.size ≤ s.size
  | 0, _, p, hp => by simp [cutTo] at hp
  | k + 1, hk, p, hp => by
    unfold cutTo at hp
    split at hp
    · simp only [List.mem_append, List.mem_singleton] at hp
      rcases hp with hp | rfl
      · exact cutTo_size s c k (by omega) p hp
      · rw [ByteArray.size_extract]; omega
    · exact cutTo_size s c k (by omega) p hp

theorem parts_size {s : ByteArray} {c : UInt8} {p : ByteArray} (h : p ∈ parts s c) : p.size ≤ s.size := cutTo_size s c _ (Nat.le_refl _) p h

theorem parts_pos (s : ByteArray) (c : UInt8) : 0 < (parts s c).length := by rw [← countB_parts]; omega

/-- Are the parts those of a topic? -/
def topicP (l : List ByteArray) : Bool := decide (l.length ≤ 6) && l.all isWord

/-- May part i of n be in a filter? -/
def partF (p : ByteArray) (last : Bool) : Bool := isWord p || p.toList == [43] || (last && p.toList == [35])

/-- Are the first k parts as a filter's? -/
def filterTo (l : List ByteArray) (k : Nat) : Bool := (List.range k).all fun j => partF (l.getD j ByteArray.empty) (decide (j + 1 = l.length))

/-- Are the parts those of a filter? -/
def filterP (l : List ByteArray) : Bool := decide (l.length ≤ 6) && filterTo l l.length

theorem filterTo_succ (l : List ByteArray) (k : Nat) (h : k < l.length) : filterTo l (k + 1) = (filterTo l k && partF l[k] (decide (k + 1 = l.length))) := by
  unfold filterTo; rw [List.range_succ, List.all_append]; simp [h]

theorem filterTo_next {l : List ByteArray} {k : Nat} {p : ByteArray} (h : k < l.length) (hp : l[k] = p) (hl : filterTo l k = true) (hb : partF p (decide (k + 1 = l.length)) = true) : filterTo l (k + 1) = true := by
  rw [filterTo_succ l k h, hl, hp, hb]; rfl

theorem filterP_bad {l : List ByteArray} {k : Nat} (h : k < l.length) (hb : partF l[k] (decide (k + 1 = l.length)) = false) : filterP l = false := by
  have : filterTo l l.length = false := by
    cases e : filterTo l l.length
    · rfl
    · unfold filterTo at e
      rw [List.all_eq_true] at e
      have := e k (List.mem_range.2 h)
      rw [List.getD_eq_getElem?_getD, List.getElem?_eq_getElem h, Option.getD_some, hb] at this
      cases this
  rw [filterP, this, Bool.and_false]

theorem filterP_no {l : List ByteArray} {k : Nat} {p : ByteArray} (h : k < l.length) (hp : l[k] = p) (hb : partF p (decide (k + 1 = l.length)) = false) : filterP l = false :=
  filterP_bad h (by rw [hp]; exact hb)

theorem filterP_end {l : List ByteArray} (h : filterTo l l.length = true) : filterP l = decide (l.length ≤ 6) := by
  rw [filterP, h, Bool.and_true]

theorem all_snoc (l : List ByteArray) (k : Nat) (h : k < l.length) : (l.take (k + 1)).all isWord = ((l.take k).all isWord && isWord l[k]) := by
  rw [List.take_succ_eq_append_getElem h, List.all_append]; simp

theorem topicP_bad {l : List ByteArray} {k : Nat} (h : k < l.length) (hb : isWord l[k] = false) : topicP l = false := by
  have hm : l[k] ∈ l := List.getElem_mem h
  have : l.all isWord = false := by
    cases e : l.all isWord
    · rfl
    · rw [List.all_eq_true] at e; rw [e _ hm] at hb; cases hb
  rw [topicP, this, Bool.and_false]

theorem topicP_end {l : List ByteArray} (h : (l.take l.length).all isWord = true) : topicP l = decide (l.length ≤ 6) := by
  rw [List.take_length] at h; rw [topicP, h, Bool.and_true]

end Go.Proofs.YtmfbffhbgelnnaaGreatDoor

/- A filter is short. -/
namespace Go.Proofs.YtmfbffhbgelnnaaGreatDoor
theorem cut_here (c : UInt8) (l : List UInt8) : cut c (c :: l) = [] :: cut c l := by rw [cut, if_pos rfl]
theorem cut_there {c x : UInt8} {l p : List UInt8} {ps : List (List UInt8)} (h : ¬ x = c) (hl : cut c l = p :: ps) : cut c (x :: l) = (x :: p) :: ps := by rw [cut, if_neg h, hl]

theorem cut_sizes (c : UInt8) : ∀ L : List UInt8, ((cut c L).map List.length).sum + (cut c L).length = L.length + 1
  | [] => rfl
  | b :: L => by
    have ih := cut_sizes c L
    obtain ⟨p, ps, h⟩ := cut_cons c L
    by_cases e : b = c
    · subst e; rw [cut_here, List.map_cons, List.sum_cons, List.length_cons, List.length_cons]; show 0 + _ + _ = _; omega
    · rw [cut_there e h]; rw [h, List.map_cons, List.sum_cons, List.length_cons] at ih; rw [List.map_cons, List.sum_cons, List.length_cons, List.length_cons, List.length_cons]; omega
theorem parts_sizes (s : ByteArray) (c : UInt8) : ((parts s c).map ByteArray.size).sum + (parts s c).length = s.size + 1 := by
  have h := cut_sizes c s.data.toList
  rw [← parts_data, List.map_map, List.length_map] at h
  have e : (List.length ∘ fun x : ByteArray => x.data.toList) = ByteArray.size := by funext x; exact Array.length_toList
  rw [e] at h
  rw [h, Array.length_toList]; rfl
theorem sum_le {n : Nat} : ∀ (l : List Nat), (∀ x ∈ l, x ≤ n) → l.sum ≤ l.length * n
  | [], _ => by simp
  | x :: l, h => by
    have ih := sum_le l (fun y hy => h y (List.mem_cons_of_mem _ hy))
    have := h x List.mem_cons_self
    rw [List.sum_cons, List.length_cons, Nat.add_mul, Nat.one_mul]
    omega
theorem partF_size {p : ByteArray} {b : Bool} (h : partF p b = true) : p.size ≤ 12 := by
  unfold partF at h
  simp only [Bool.or_eq_true, Bool.and_eq_true, beq_iff_eq] at h
  have hz : ∀ k : UInt8, p.toList = [k] → p.size ≤ 12 := fun k hk => by
    have : p.toList.length = p.size := by rw [Lib.toList_data, Array.length_toList]; rfl
    rw [hk] at this; rw [← this]; exact Nat.le_add_left 1 11
  rcases h with (h | h) | h
  · unfold isWord at h
    simp only [Bool.and_eq_true, decide_eq_true_eq] at h
    omega
  · exact hz _ h
  · exact hz _ h.2
theorem filter_size {s : ByteArray} (h : filterP (parts s 47) = true) : s.size ≤ 77 := by
  have h1 := parts_sizes s 47
  rw [filterP, Bool.and_eq_true, decide_eq_true_iff] at h
  have h2 : ∀ x ∈ (parts s 47).map ByteArray.size, x ≤ 12 := fun x hx => by
    obtain ⟨p, hp, rfl⟩ := List.mem_map.1 hx
    obtain ⟨j, hj, rfl⟩ := List.mem_iff_getElem.1 hp
    have h3 := h.2
    unfold filterTo at h3
    rw [List.all_eq_true] at h3
    have h4 := h3 j (List.mem_range.2 hj)
    rw [List.getD_eq_getElem?_getD, List.getElem?_eq_getElem hj] at h4
    exact partF_size h4
  have h3 := sum_le _ h2
  rw [List.length_map] at h3
  have h4 := h.1
  omega

end Go.Proofs.YtmfbffhbgelnnaaGreatDoor

/- Plain mathematics of chapter 2: when the parts of a filter match those of a topic, and when they cover those of a filter. -/
namespace Go.Proofs.YtmfbffhbgelnnaaGreatDoor

def isPlus (p : ByteArray) : Bool := p.toList == [43]
def isHash (p : ByteArray) : Bool := p.toList == [35]
def alike (p q : ByteArray) : Bool := p.toList == q.toList

/-- Do the parts of a filter match those of a topic? -/
def matchP : List ByteArray → List ByteArray → Bool
  | [], [] => true
  | [], _ :: _ => false
  | p :: _, [] => isHash p
  | p :: ps, t :: ts => isHash p || ((isPlus p || alike p t) && matchP ps ts)

/-- Do the parts of a filter cover those of another? -/
def coverP : List ByteArray → List ByteArray → Bool
  | [], [] => true
  | [], _ :: _ => false
  | p :: _, [] => isHash p
  | p :: ps, q :: qs => isHash p || ((!isHash q) && (isPlus p || alike p q) && coverP ps qs)

/-- 'Matches'. -/
def matchB (f t : ByteArray) : Bool := filterP (parts f 47) && topicP (parts t 47) && matchP (parts f 47) (parts t 47)
/-- 'Covers'. -/
def coverB (a b : ByteArray) : Bool := filterP (parts a 47) && filterP (parts b 47) && coverP (parts a 47) (parts b 47)

theorem matchP_end (F T : List ByteArray) (k : Nat) (hF : F.length ≤ k) (hT : k ≤ T.length) : matchP (F.drop k) (T.drop k) = decide (k = T.length) := by
  rw [List.drop_of_length_le hF]
  by_cases h : k = T.length
  · rw [List.drop_of_length_le (by omega)]; simp [matchP, h]
  · rw [List.drop_eq_getElem_cons (show k < T.length by omega)]; simp [matchP, h]

theorem coverP_end (F T : List ByteArray) (k : Nat) (hF : F.length ≤ k) (hT : k ≤ T.length) : coverP (F.drop k) (T.drop k) = decide (k = T.length) := by
  rw [List.drop_of_length_le hF]
  by_cases h : k = T.length
  · rw [List.drop_of_length_le (by omega)]; simp [coverP, h]
  · rw [List.drop_eq_getElem_cons (show k < T.length by omega)]; simp [coverP, h]

theorem matchP_hash {F T : List ByteArray} {k : Nat} (h : k < F.length) (hp : isHash F[k] = true) : matchP (F.drop k) (T.drop k) = true := by
  rw [List.drop_eq_getElem_cons h]
  cases T.drop k <;> simp [matchP, hp]

theorem coverP_hash {F T : List ByteArray} {k : Nat} (h : k < F.length) (hp : isHash F[k] = true) : coverP (F.drop k) (T.drop k) = true := by
  rw [List.drop_eq_getElem_cons h]
  cases T.drop k <;> simp [coverP, hp]

theorem matchP_out {F T : List ByteArray} {k : Nat} (h : k < F.length) (hp : isHash F[k] = false) (hT : T.length ≤ k) : matchP (F.drop k) (T.drop k) = false := by
  rw [List.drop_eq_getElem_cons h, List.drop_of_length_le hT]; simp [matchP, hp]

theorem coverP_out {F T : List ByteArray} {k : Nat} (h : k < F.length) (hp : isHash F[k] = false) (hT : T.length ≤ k) : coverP (F.drop k) (T.drop k) = false := by
  rw [List.drop_eq_getElem_cons h, List.drop_of_length_le hT]; simp [coverP, hp]

theorem matchP_in {F T : List ByteArray} {k : Nat} (h : k < F.length) (hT : k < T.length) (hp : isHash F[k] = false) : matchP (F.drop k) (T.drop k) = ((isPlus F[k] || alike F[k] T[k]) && matchP (F.drop (k + 1)) (T.drop (k + 1))) := by
  rw [List.drop_eq_getElem_cons h, List.drop_eq_getElem_cons hT, matchP, hp, Bool.false_or]

theorem coverP_in {F T : List ByteArray} {k : Nat} (h : k < F.length) (hT : k < T.length) (hp : isHash F[k] = false) : coverP (F.drop k) (T.drop k) = ((!isHash T[k]) && (isPlus F[k] || alike F[k] T[k]) && coverP (F.drop (k + 1)) (T.drop (k + 1))) := by
  rw [List.drop_eq_getElem_cons h, List.drop_eq_getElem_cons hT, coverP, hp, Bool.false_or]

theorem alike_refl (p : ByteArray) : alike p p = true := by simp [alike]
theorem alike_trans {p q r : ByteArray} (h : alike p q = true) (k : alike q r = true) : alike p r = true := by
  simp only [alike, beq_iff_eq] at *; rw [h, k]
theorem plus_alike {p q : ByteArray} (h : alike p q = true) (k : isPlus q = true) : isPlus p = true := by
  simp only [alike, isPlus, beq_iff_eq] at *; rw [h, k]

theorem matchP_self : ∀ L : List ByteArray, matchP L L = true
  | [] => rfl
  | p :: L => by rw [matchP, alike_refl, matchP_self L]; simp

theorem coverP_self : ∀ L : List ByteArray, coverP L L = true
  | [] => rfl
  | p :: L => by rw [coverP, alike_refl, coverP_self L]; cases isHash p <;> simp

/-- What covers matches all that is matched. -/
theorem cover_match : ∀ A B T : List ByteArray, coverP A B = true → matchP B T = true → matchP A T = true
  | [], [], _, _, h => h
  | [], _ :: _, _, h, _ => by simp [coverP] at h
  | p :: ps, [], T, h, _ => by
    rw [coverP] at h
    cases T <;> simp [matchP, h]
  | p :: ps, q :: qs, T, h, k => by
    rw [coverP] at h
    by_cases hp : isHash p = true
    · cases T <;> simp [matchP, hp]
    · have hp2 : isHash p = false := by simpa using hp
      rw [hp2, Bool.false_or, Bool.and_eq_true, Bool.and_eq_true] at h
      obtain ⟨⟨hq, ha⟩, hc⟩ := h
      have hq2 : isHash q = false := by simpa using hq
      cases T with
      | nil => rw [matchP, hq2] at k; cases k
      | cons t ts =>
        rw [matchP, hq2, Bool.false_or, Bool.and_eq_true] at k
        obtain ⟨ka, kc⟩ := k
        rw [matchP, hp2, Bool.false_or, Bool.and_eq_true]
        refine ⟨?_, cover_match ps qs ts hc kc⟩
        rw [Bool.or_eq_true] at ha ka ⊢
        rcases ha with ha | ha
        · exact .inl ha
        · rcases ka with ka | ka
          · exact .inl (plus_alike ha ka)
          · exact .inr (alike_trans ha ka)

theorem matchB_self {x : ByteArray} (h : topicP (parts x 47) = true) (hf : filterP (parts x 47) = true) : matchB x x = true := by
  rw [matchB, h, hf, matchP_self]; rfl

theorem hash_isHash : isHash ⟨#[35]⟩ = true := by rw [isHash, Go.ByteArray.toList_eq]; rfl

theorem hash_parts : parts ⟨#[35]⟩ 47 = [⟨#[35]⟩] := by
  apply lists_ext; rw [parts_data]; rfl

theorem hash_filterP : filterP (parts ⟨#[35]⟩ 47) = true := by
  rw [hash_parts]; simp [filterP, filterTo, partF, Go.ByteArray.toList_eq]

theorem matchB_all {x : ByteArray} (h : topicP (parts x 47) = true) : matchB ⟨#[35]⟩ x = true := by
  rw [matchB, h, hash_filterP, hash_parts]
  cases parts x 47 <;> simp [matchP, hash_isHash]

theorem coverB_self {x : ByteArray} (h : filterP (parts x 47) = true) : coverB x x = true := by
  rw [coverB, h, coverP_self]; rfl

theorem coverB_all {x : ByteArray} (h : filterP (parts x 47) = true) : coverB ⟨#[35]⟩ x = true := by
  rw [coverB, h, hash_filterP, hash_parts]
  cases parts x 47 <;> simp [coverP, hash_isHash]

theorem coverB_match {p q x : ByteArray} (h : coverB p q = true) (k : matchB q x = true) : matchB p x = true := by
  simp only [coverB, matchB, Bool.and_eq_true] at *
  exact ⟨⟨h.1.1, k.1.2⟩, cover_match _ _ _ h.2 k.2⟩

end Go.Proofs.YtmfbffhbgelnnaaGreatDoor

/- Memory: what stays where a call makes blocks of its own, and where one block alone may turn. Of no program. -/
namespace Go.Proofs.YtmfbffhbgelnnaaGreatDoor
open Go.RowKit

theorem ret_bool {a b : Bool} (h : a = b) : Ending.returned (.bool a) = .returned (.bool b) := by rw [h]

theorem ret_str {a b : ByteArray} (h : a = b) : Ending.returned (.string a) = .returned (.string b) := by rw [h]
theorem ret_int {a b : Int} (h : a = b) : Ending.returned (.int .i64 a) = .returned (.int .i64 b) := by rw [h]

theorem below_cell {B : Nat} {w w' : World} (h : Below B w w') {g j : Nat} (hg : g < B) : w'.cell? ⟨g, j, none⟩ = w.cell? ⟨g, j, none⟩ := h.cell hg

theorem below_end {a b c : World} (h : Below a.heap.size a b) (k : Below b.heap.size b c) : Below a.heap.size a c := h.trans (k.mono h.size)

/-- A row that the call owns stays so where all that was there stays. -/
theorem row_below {w w' : World} {B n size : Nat} {E : TypeId} {v : Value} {xs : List Value} (h : w.ownsRow B E size v n xs) (hb : Below w.heap.size w w') : w'.ownsRow B E size v n xs := by
  refine ⟨h.1, ?_⟩
  rcases h.2 with h2 | ⟨g, cap, cur, hv, hg, hh, r⟩
  · exact .inl h2
  · have hlt : g < w.heap.size := (Array.getElem?_eq_some_iff.1 hh).1
    exact .inr ⟨g, cap, cur, hv, hg, (hb.block g hlt).trans hh, r⟩

/-! ### One row may turn, all else stays -/

theorem grown_trans {a b c : World} {r : Option Nat} (h : a.grownBy b r) (k : b.grownBy c r) : a.grownBy c r :=
  ⟨k.os.trans h.os, k.tape.trans h.tape, k.output.trans h.output, Nat.le_trans h.size k.size, fun i hi hr => (k.block i (Nat.lt_of_lt_of_le hi h.size) hr).trans (h.block i hi hr)⟩

theorem grown_below {a c : World} {r : Option Nat} (h : Below a.heap.size a c) : a.grownBy c r :=
  ⟨h.os, h.tape, h.output, h.size, fun i hi _ => h.block i hi⟩

theorem grown_refl (a : World) (r : Option Nat) : a.grownBy a r := ⟨rfl, rfl, rfl, Nat.le_refl _, fun _ _ _ => rfl⟩

theorem grown_setCell (a : World) (g j : Nat) (v : Value) : a.grownBy (a.setCell ⟨g, j, none⟩ v) (some g) :=
  ⟨rfl, rfl, rfl, by simp [World.setCell], fun i _ hr => Below.heap_setCell _ _ _ _ (fun e => hr (by rw [e]))⟩

theorem grown_drewN (w : World) (n : Nat) (r : Option Nat) : w.grownBy (w.drewN n) r := ⟨rfl, rfl, rfl, Nat.le_refl _, fun _ _ _ => rfl⟩

theorem grown_alloc (w : World) (o : Obj) (r : Option Nat) : w.grownBy (w.alloc o) r := grown_below ((Below.refl _ _).alloc (Nat.le_refl _) o)

end Go.Proofs.YtmfbffhbgelnnaaGreatDoor

/- What every text over this translation imports. -/
namespace Go.Proofs.YtmfbffhbgelnnaaGreatDoor
open Go.RowKit

end Go.Proofs.YtmfbffhbgelnnaaGreatDoor

/- Lists of lists, the first ones. Of no program. -/
namespace Go.Proofs.YtmfbffhbgelnnaaGreatDoor

theorem flat_take {α β : Type} (l : List α) (f : α → List β) (k : Nat) (h : k < l.length) : (l.take (k + 1)).flatMap f = (l.take k).flatMap f ++ f l[k] := by
  rw [List.take_succ_eq_append_getElem h, List.flatMap_append]; simp

theorem flat_le {α β : Type} (l : List α) (f : α → List β) (k : Nat) (h : k < l.length) : ((l.take k).flatMap f).length + (f l[k]).length ≤ (l.flatMap f).length := by
  have e : l.flatMap f = (l.take k).flatMap f ++ (l.drop k).flatMap f := by rw [← List.flatMap_append, List.take_append_drop]
  rw [e, List.length_append, List.drop_eq_getElem_cons h, List.flatMap_cons, List.length_append]
  omega

end Go.Proofs.YtmfbffhbgelnnaaGreatDoor

/- Lists of numbers and of knots, as they lie in memory. Of no program. -/
namespace Go.Proofs.YtmfbffhbgelnnaaGreatDoor
open Go.RowKit

/-- The cells from (b, o) on hold the numbers l. -/
def IntsIn (w : World) (b o : Nat) (l : List Int) : Prop := ∀ j (hj : j < l.length), w.cell? ⟨b, o + j, none⟩ = some (.int .i64 l[j])

/-- v reads as the numbers l. -/
def IntsAt (w : World) (v : Value) (l : List Int) : Prop :=
  ∃ a c, v = .slice a l.length c ∧ l.length ≤ c ∧ c ≤ maxLen ∧ (l = [] ∨ ∃ b o, a = some ⟨b, o, none⟩ ∧ IntsIn w b o l)

theorem IntsIn.below {w w' : World} {b o : Nat} {l : List Int} (h : IntsIn w b o l) (hb : Below w.heap.size w w') : IntsIn w' b o l := by
  intro j hj
  have := h j hj
  exact (below_cell hb (World.block_lt_of_cell? _ _ this)).trans this

theorem IntsAt.below {w w' : World} {v : Value} {l : List Int} (h : IntsAt w v l) (hb : Below w.heap.size w w') : IntsAt w' v l := by
  obtain ⟨a, c, hv, h1, h2, h3⟩ := h
  refine ⟨a, c, hv, h1, h2, ?_⟩
  rcases h3 with h3 | ⟨b, o, ha, hi⟩
  · exact .inl h3
  · exact .inr ⟨b, o, ha, hi.below hb⟩

/-- A knot: its path, its numbers. -/
abbrev KnotM := ByteArray × List Int

/-- The cells from (b, o) on hold the knots l. -/
def KnotsIn (w : World) (b o : Nat) (l : List KnotM) : Prop :=
  ∀ j (hj : j < l.length), w.cell? ⟨b, o + j * 2, none⟩ = some (.string l[j].1) ∧ ∃ u, w.cell? ⟨b, o + j * 2 + 1, none⟩ = some u ∧ IntsAt w u l[j].2

/-- v reads as the knots l. -/
def KnotsAt (w : World) (v : Value) (l : List KnotM) : Prop :=
  ∃ a c, v = .slice a l.length c ∧ l.length ≤ c ∧ c ≤ maxLen ∧ (l = [] ∨ ∃ b o, a = some ⟨b, o, none⟩ ∧ KnotsIn w b o l)

theorem KnotsIn.below {w w' : World} {b o : Nat} {l : List KnotM} (h : KnotsIn w b o l) (hb : Below w.heap.size w w') : KnotsIn w' b o l := by
  intro j hj
  obtain ⟨h1, u, h2, h3⟩ := h j hj
  exact ⟨(below_cell hb (World.block_lt_of_cell? _ _ h1)).trans h1, u, (below_cell hb (World.block_lt_of_cell? _ _ h2)).trans h2, h3.below hb⟩

theorem KnotsAt.below {w w' : World} {v : Value} {l : List KnotM} (h : KnotsAt w v l) (hb : Below w.heap.size w w') : KnotsAt w' v l := by
  obtain ⟨a, c, hv, h1, h2, h3⟩ := h
  refine ⟨a, c, hv, h1, h2, ?_⟩
  rcases h3 with h3 | ⟨b, o, ha, hi⟩
  · exact .inl h3
  · exact .inr ⟨b, o, ha, hi.below hb⟩

/-! ### The trie's mathematics -/

def idOk (n : Int) : Bool := decide (0 ≤ n) && decide (n ≤ 99)

/-- Numbers from 0 to 99 that rise. -/
def risesTo (l : List Int) (k : Nat) : Bool := (List.range k).all fun j => idOk (l.getD j 0) && (decide (j = 0) || decide (l.getD (j - 1) 0 < l.getD j 0))
def rises (l : List Int) : Bool := risesTo l l.length

theorem risesTo_succ (l : List Int) (k : Nat) : risesTo l (k + 1) = (risesTo l k && (idOk (l.getD k 0) && (decide (k = 0) || decide (l.getD (k - 1) 0 < l.getD k 0)))) := by
  unfold risesTo; rw [List.range_succ, List.all_append]; simp

theorem risesTo_bad {l : List Int} {k : Nat} (h : k < l.length) (hb : (idOk (l.getD k 0) && (decide (k = 0) || decide (l.getD (k - 1) 0 < l.getD k 0))) = false) : rises l = false := by
  cases e : rises l
  · rfl
  · unfold rises risesTo at e
    rw [List.all_eq_true] at e
    have := e k (List.mem_range.2 h)
    rw [hb] at this; cases this

/-- The path of which it is a child: what is ahead of the last slash. -/
def aboveTo (s : ByteArray) : Nat → ByteArray
  | 0 => ⟨#[]⟩
  | k + 1 => if s.data.toList[k]? = some 47 then s.extract 0 k else aboveTo s k
def above (s : ByteArray) : ByteArray := aboveTo s s.size

/-- Where a path is, from the k-th on: -1 where it is not. -/
def findFrom (p : ByteArray) : List KnotM → Nat → Int
  | [], _ => -1
  | x :: l, k => if x.1.toList == p.toList then (k : Int) else findFrom p l (k + 1)
def find (l : List KnotM) (p : ByteArray) : Int := findFrom p l 0

/-- Has the path a child among the knots but the first? -/
def childB (l : List KnotM) (p : ByteArray) : Bool := (l.drop 1).any fun x => (above x.1).toList == p.toList

theorem KnotsIn.alloc {w : World} {b o : Nat} {l : List KnotM} (h : KnotsIn w b o l) (x : Obj) : KnotsIn (w.alloc x) b o l := h.below ((Below.refl _ _).alloc (Nat.le_refl _) x)
theorem KnotsAt.alloc {w : World} {v : Value} {l : List KnotM} (h : KnotsAt w v l) (x : Obj) : KnotsAt (w.alloc x) v l := h.below ((Below.refl _ _).alloc (Nat.le_refl _) x)
theorem IntsAt.alloc {w : World} {v : Value} {l : List Int} (h : IntsAt w v l) (x : Obj) : IntsAt (w.alloc x) v l := h.below ((Below.refl _ _).alloc (Nat.le_refl _) x)

end Go.Proofs.YtmfbffhbgelnnaaGreatDoor

/- (MText, what names no function of the laws.) -/
namespace Go.Proofs.YtmfbffhbgelnnaaGreatDoor
open Go.RowKit

/-- The last digit of k, as a byte. -/
def dg (k : Nat) : UInt8 := (48 + k % 10).toUInt8

/-- The digits of k ahead of 'out'. -/
def mdig : Nat → Nat → List UInt8 → List UInt8
  | 0, _, out => out
  | f + 1, k, out => if k = 0 then out else mdig f (k / 10) (dg k :: out)

/-- The text of mark k. -/
def mtext (k : Nat) : ByteArray := ⟨(109 :: mdig k k []).toArray⟩

theorem cons_bytes (x : UInt8) (o : List UInt8) : (ByteArray.mk [x].toArray ++ ByteArray.mk o.toArray) = ByteArray.mk (x :: o).toArray := by
  rw [ByteArray.mk_append_mk]; rfl

theorem mdig_zero (f : Nat) (o : List UInt8) : mdig f 0 o = o := by cases f <;> simp [mdig]

theorem mdig_step {i f : Nat} (o : List UInt8) (hi : 0 < i) (hf : i ≤ f) : mdig (f - 1) (i / 10) (dg i :: o) = mdig f i o := by
  obtain ⟨g, rfl⟩ : ∃ g, f = g + 1 := ⟨f - 1, by omega⟩
  rw [mdig, if_neg (by omega)]; rfl

end Go.Proofs.YtmfbffhbgelnnaaGreatDoor

/- The walk of the text that the exact laws lay in as a mark. -/
namespace Go.Proofs.YtmfbffhbgelnnaaGreatDoor
open Go.RowKit
set_option maxRecDepth 100000 in
set_option maxHeartbeats 400000 in
theorem markText_any (k : Nat) (w : World) (h1 : 1 ≤ k) (h2 : k ≤ 40000000) :
    Calls Tryz.prog 95 #[.int .i64 k] w fun e w' => e = .returned (.string (mtext k)) ∧ Below w.heap.size w w' := by
  go_enter Tryz.func95, Tryz.ntmps95
  go_wp2
  go_loopw [0, 3] (fun j out wr => ∃ (i f : Nat) (o : List UInt8), j = .int .i64 i ∧ out = .string ⟨o.toArray⟩ ∧ i ≤ f ∧ o.length + i ≤ k ∧ Hid (mdig f i o = mdig k k []) ∧ Hid (Below w.heap.size w wr)) (fun j _ _ => (intOf j).toNat)
  case atStart => exact ⟨k, k, [], rfl, rfl, Nat.le_refl _, by simp, rfl, Below.refl _ _⟩
  case round =>
    obtain ⟨i, f, o, rfl, rfl, hif, hlen, HD, HB⟩ := hrel
    by_cases hi : 0 < i
    · have hcv := conv_one (P := Tryz.prog) wr (src := 143) (dst := 9) (48 + i % 10) (by omega) Tryz.underlying143 Tryz.underlying5 Tryz.underlying9
      rw [show ((48 + i % 10 : Nat) : Int) = 48 + (i : Int) % 10 by omega] at hcv
      have hcv2 : ∀ x : UInt8, (48 + i % 10).toUInt8 = x → (convert 143 9 (.slice (some ⟨wr.heap.size, 0, none⟩) 1 1)).run Tryz.prog (wr.alloc (.cells #[.int .u8 (48 + (i : Int) % 10)] 5)) = .ok (.string ⟨[x].toArray⟩) (wr.alloc (.cells #[.int .u8 (48 + (i : Int) % 10)] 5)) := fun x hx => by rw [← hx]; exact hcv
      have hcv3 := hcv2 (dg i) rfl
      have HN : Hid (mdig (f - 1) (i / 10) (dg i :: o) = mdig k k []) := Lib.hid (by rw [mdig_step o hi hif]; exact HD.out)
      have H3 := Lib.hid hcv3
      clear hcv hcv2 HD hcv3
      obtain ⟨x, hx⟩ : ∃ x, dg i = x := ⟨_, rfl⟩
      rw [hx] at H3 HN
      clear hx
      have h3 := H3.out
      clear H3
      go_wp2
      go_roundw
      case rel => exact ⟨i / 10, f - 1, x :: o, congrArg (Value.int .i64) (by omega), congrArg Value.string (cons_bytes x o), by omega, by simp only [List.length_cons]; omega, HN, HB.out.alloc HB.out.size _⟩
      case measure => simp only [intOf]; omega
    · obtain rfl : i = 0 := by omega
      have HE : Hid (o = mdig k k []) := Lib.hid (by rw [← HD.out, mdig_zero])
      clear HD
      go_wp2
      go_ret
      exact ⟨by rw [mtext, ← HE.out]; exact congrArg (fun x => Ending.returned (Value.string x)) (cons_bytes 109 o), HB.out⟩


end Go.Proofs.YtmfbffhbgelnnaaGreatDoor

/- Rows that a call owns: what holds of each. -/
namespace Go.Proofs.YtmfbffhbgelnnaaGreatDoor
open Go.RowKit

theorem take_next {α : Type} (l : List α) (z : α) (n k : Nat) (hn : l.length = n) (h : k < l.length) :
    (l.take k ++ List.replicate (n - k) z).set k l[k] = l.take (k + 1) ++ List.replicate (n - (k + 1)) z := by
  rw [List.set_append_right _ _ (by simp; omega)]
  simp only [List.length_take, Nat.min_eq_left (Nat.le_of_lt h), Nat.sub_self]
  rw [show n - k = (n - (k + 1)) + 1 by omega, List.replicate_succ, List.set_cons_zero, List.take_succ_eq_append_getElem h, List.append_assoc]
  rfl

theorem own_mono {w : World} {A B n size : Nat} {E : TypeId} {v : Value} {xs : List Value} (h : w.ownsRow B E size v n xs) (hb : A ≤ B) : w.ownsRow A E size v n xs := by
  refine ⟨h.1, ?_⟩
  rcases h.2 with h2 | ⟨g, cap, cur, hv, hg, r⟩
  · exact .inl h2
  · exact .inr ⟨g, cap, cur, hv, Nat.le_trans hb hg, r⟩

theorem cell_of_heap {w : World} {g : Nat} {cur : Array Value} {e : TypeId} {fz : Nat × Nat} (h : w.heap[g]? = some (.cells cur e fz)) (j : Nat) : w.cell? ⟨g, j, none⟩ = cur[j]? := by
  simp [World.cell?, h]

theorem own_slice {w : World} {B n size : Nat} {E : TypeId} {v : Value} {xs : List Value} (h : w.ownsRow B E size v n xs) : ∃ a c, v = .slice a n c := by
  rcases h.2 with ⟨rfl, rfl⟩ | ⟨g, cap, _, rfl, _⟩
  · exact ⟨_, _, rfl⟩
  · exact ⟨_, _, rfl⟩

theorem own_kept {w : World} {B n size g j : Nat} {E : TypeId} {u v : Value} {xs : List Value} (h : w.ownsRow B E size v n xs) (hg : v.ownBlock ≠ some g) : (w.setCell ⟨g, j, none⟩ u).ownsRow B E size v n xs :=
  h.kept (grown_setCell w g j u) (.inr hg)

/-- A box of another type stays as it was where an own row grows. -/
theorem type_kept {A C : World} {v : Value} {B n size g : Nat} {E T : TypeId} {xs : List Value} {cs : Array Value} {fr : Nat × Nat} (h : A.ownsRow B E size v n xs) (hg : A.grownBy C v.ownBlock) (hc : A.heap[g]? = some (.cells cs T fr)) (hne : E ≠ T) :
    C.heap[g]? = some (.cells cs T fr) := by
  refine (hg.block g (Array.getElem?_eq_some_iff.1 hc).1 ?_).trans hc
  intro e
  rcases h.2 with ⟨rfl, _⟩ | ⟨g0, cap, cur, rfl, _, hh, _⟩
  · cases e
  · have : g = g0 := by simpa [Value.ownBlock] using e
    subst this
    rw [hh] at hc
    cases hc
    exact hne rfl

theorem own_not_at {A : World} {v : Value} {B n size g : Nat} {E T : TypeId} {xs : List Value} {cs : Array Value} {fr : Nat × Nat} (h : A.ownsRow B E size v n xs) (hc : A.heap[g]? = some (.cells cs T fr)) (hne : E ≠ T) : v.ownBlock ≠ some g := by
  intro e
  rcases h.2 with ⟨rfl, _⟩ | ⟨g0, cap, cur, rfl, _, hh, _⟩
  · cases e
  · have : g0 = g := by simpa [Value.ownBlock] using e
    subst this
    rw [hh] at hc
    cases hc
    exact hne rfl

theorem own_cap {A : World} {B n size g c : Nat} {E : TypeId} {xs : List Value} (h : A.ownsRow B E size (.slice (some ⟨g, 0, none⟩) n c) n xs) : n ≤ c := by
  rcases h.2 with ⟨h1, _⟩ | ⟨g0, cap, cur, h1, _, _, h2, _⟩
  · cases h1
  · cases h1; exact h2

end Go.Proofs.YtmfbffhbgelnnaaGreatDoor

/- An append of nothing. -/
namespace Go.Proofs.YtmfbffhbgelnnaaGreatDoor
open Go.RowKit

/-- An append of nothing to an own row. -/
theorem wpList_append_empty {P : Program} {w : World} {ops : Array Oper} {rest : List Oper} {o : Oper} {a : Act} {Q : Exit → Act → World → Prop} (hgd : o.guard = none) (s x : Operand) (t : TypeId)
    (ho : o.op = .call { callee := .builtin .append, args := #[s, x], argTypes := #[t, t] }) (base : Nat) (e : TypeId) (i : TypeInfo) (size : Nat) (ht : P.underlying t = some (.slice e)) (hi : P.info? e = some i) (_hs : i.size = size)
    (v : Value) (n : Nat) (xs : List Value) (hs : a.eval s = v) (hown : w.ownsRow base e size v n xs) (c : Nat) (hx : a.eval x = .slice none 0 c)
    (h : wpList P ops Q rest (a.put o.dst v) w) : wpList P ops Q (o :: rest) a w := by
  refine wpList_plain hgd fun K hK => ?_
  have hrun : (Builtin.append_ #[t, t] o.type #[v, .slice none 0 c]).run P w = .ok v w := by
    rw [show Builtin.append_ #[t, t] o.type #[v, .slice none 0 c] = Builtin.append_ #[t, t] o.type #[v, .slice none 0 0] from rfl]
    exact run_append_owned_none w base t o.type e i size ht hi v n xs hown
  unfold Oper.wp
  simp [execOp, ho, resolve, invoke, builtin, hs, hx, hrun, Result.andThen]
  exact hK _ _ h

end Go.Proofs.YtmfbffhbgelnnaaGreatDoor

/- An append of a slice that reads as some cells, none too, to an own row. Of no program. -/
namespace Go.Proofs.YtmfbffhbgelnnaaGreatDoor
open Go.RowKit

/-- What an append takes: m elements, their cells. -/
def SrcAt (w : World) (src : Value) (m : Nat) (news : List Value) : Prop :=
  ∃ a c, src = .slice a m c ∧ ((a = none ∧ m = 0 ∧ news = []) ∨ ∃ ad, a = some ad ∧ ∀ j u, news[j]? = some u → w.cell? (ad.add j) = some u)

theorem SrcAt.below {w w' : World} {src : Value} {m : Nat} {news : List Value} (h : SrcAt w src m news) (hb : Below w.heap.size w w') : SrcAt w' src m news := by
  obtain ⟨a, c, hs, h | ⟨ad, ha, h⟩⟩ := h
  · exact ⟨a, c, hs, .inl h⟩
  · exact ⟨a, c, hs, .inr ⟨ad, ha, fun j u hu => by have := h j u hu; exact (hb.cell (World.block_lt_of_cell? _ _ this)).trans this⟩⟩

theorem SrcAt.own {w : World} {B n size : Nat} {E : TypeId} {v : Value} {xs : List Value} (h : w.ownsRow B E size v n xs) : SrcAt w v n xs := by
  rcases h.2 with ⟨rfl, h0⟩ | ⟨g, cap, cur, rfl, _⟩
  · exact ⟨none, 0, by rw [h0], .inl ⟨rfl, h0, List.eq_nil_of_length_eq_zero (by rw [h.1, h0, Nat.zero_mul])⟩⟩
  · exact ⟨_, _, rfl, .inr ⟨_, rfl, h.cells rfl⟩⟩

theorem run_append_src {P : Program} (w : World) (base : Nat) (t ty e : TypeId) (i : TypeInfo) (z : Value) (size bytes : Nat) (ht : P.underlying t = some (.slice e)) (hi : P.info? e = some i) (hz : i.zero = some z)
    (hsize : i.size = size) (hby : i.bytes = bytes) (hzs : z.cells.size = size) (hsz : 0 < size) (v src : Value) (n m : Nat) (xs news : List Value) (hown : w.ownsRow base e size v n xs)
    (hsrc : SrcAt w src m news) (hl : news.length = m * size) (h1 : ∀ u ∈ news, u.oneCell' = true) (h63 : n + m ≤ maxLen) (hbytes : (n + m) * bytes ≤ 140737488355328) (hbase : base ≤ w.heap.size) :
    ∃ v' w', (Builtin.append_ #[t, t] ty #[v, src]).run P w = .ok v' w' ∧ w'.ownsRow base e size v' (n + m) (xs ++ news) ∧ w.grownBy w' v.ownBlock ∧ (v'.ownBlock = v.ownBlock ∨ v'.ownBlock = some w.heap.size) := by
  obtain ⟨a, c, rfl, ⟨rfl, rfl, rfl⟩ | ⟨ad, rfl, hc⟩⟩ := hsrc
  · refine ⟨v, w, ?_, by simpa using hown, ⟨rfl, rfl, rfl, Nat.le_refl _, fun _ _ _ => rfl⟩, .inl rfl⟩
    rw [show Builtin.append_ #[t, t] ty #[v, .slice none 0 c] = Builtin.append_ #[t, t] ty #[v, .slice none 0 0] from rfl]
    exact run_append_owned_none w base t ty e i size ht hi v n xs hown
  · obtain ⟨v', w', hr, h2, h3, _, h5⟩ := run_append_own_at (P := P) w base t ty e i z size bytes ht hi hz hsize hby hzs hsz v n xs hown ad m c news hl hc h1 h63 hbytes hbase
    exact ⟨v', w', hr, h2, h3, h5⟩

theorem wp_append_src {P : Program} {w : World} {o : Oper} {a : Act} {K : Act → World → Prop} {Q : Exit → Act → World → Prop} (s x : Operand) (t : TypeId)
    (ho : o.op = .call { callee := .builtin .append, args := #[s, x], argTypes := #[t, t] })
    (base : Nat) (e : TypeId) (i : TypeInfo) (z : Value) (size bytes : Nat) (ht : P.underlying t = some (.slice e)) (hi : P.info? e = some i) (hz : i.zero = some z)
    (hsize : i.size = size) (hby : i.bytes = bytes) (hzs : z.cells.size = size) (hsz : 0 < size)
    (v src : Value) (n m : Nat) (xs news : List Value) (hs : a.eval s = v) (hown : w.ownsRow base e size v n xs)
    (hx : a.eval x = src) (hsrc : SrcAt w src m news) (hl : news.length = m * size) (h1 : ∀ u ∈ news, u.oneCell' = true)
    (h63 : n + m ≤ maxLen) (hbytes : (n + m) * bytes ≤ 140737488355328) (hbase : base ≤ w.heap.size)
    (h : ∀ v' w', w'.ownsRow base e size v' (n + m) (xs ++ news) → w.grownBy w' v.ownBlock → (v'.ownBlock = v.ownBlock ∨ v'.ownBlock = some w.heap.size) → K (a.put o.dst v') w') : o.wp P a w K Q := by
  obtain ⟨v', w', hr, h2, h3, h4⟩ := run_append_src (P := P) w base t o.type e i z size bytes ht hi hz hsize hby hzs hsz v src n m xs news hown hsrc hl h1 h63 hbytes hbase
  unfold Oper.wp execOp
  simp only [ho, resolve, invoke, builtin, Sem.run_bind, Sem.run_pure, Result.andThen_ok, List.map_toArray, List.map_cons, List.map_nil, hs, hx, hr]
  exact h v' w' h2 h3 h4

theorem wpList_append_src {P : Program} {w : World} {ops : Array Oper} {rest : List Oper} {o : Oper} {a : Act} {Q : Exit → Act → World → Prop} (hgd : o.guard = none) (s x : Operand) (t : TypeId)
    (ho : o.op = .call { callee := .builtin .append, args := #[s, x], argTypes := #[t, t] })
    (base : Nat) (e : TypeId) (i : TypeInfo) (z : Value) (size bytes : Nat) (ht : P.underlying t = some (.slice e)) (hi : P.info? e = some i) (hz : i.zero = some z)
    (hsize : i.size = size) (hby : i.bytes = bytes) (hzs : z.cells.size = size) (hsz : 0 < size)
    (v src : Value) (n m : Nat) (xs news : List Value) (hs : a.eval s = v) (hown : w.ownsRow base e size v n xs)
    (hx : a.eval x = src) (hsrc : SrcAt w src m news) (hl : news.length = m * size) (h1 : ∀ u ∈ news, u.oneCell' = true)
    (h63 : n + m ≤ maxLen) (hbytes : (n + m) * bytes ≤ 140737488355328) (hbase : base ≤ w.heap.size)
    (h : ∀ v' w', w'.ownsRow base e size v' (n + m) (xs ++ news) → w.grownBy w' v.ownBlock → (v'.ownBlock = v.ownBlock ∨ v'.ownBlock = some w.heap.size) → wpList P ops Q rest (a.put o.dst v') w') : wpList P ops Q (o :: rest) a w := by
  refine wpList_plain hgd fun K hK => ?_
  exact wp_append_src s x t ho base e i z size bytes ht hi hz hsize hby hzs hsz v src n m xs news hs hown hx hsrc hl h1 h63 hbytes hbase fun v' w' h2 h3 h4 => hK _ _ (h v' w' h2 h3 h4)

end Go.Proofs.YtmfbffhbgelnnaaGreatDoor

/- Messages: how they lie in memory, as one and in rows; when they are right. -/
namespace Go.Proofs.YtmfbffhbgelnnaaGreatDoor
open Go.RowKit

/-- A message: its number, its teller, its topic, its body. -/
abbrev MsgM := Int × Int × ByteArray × Int

def mval (x : MsgM) : List Value := [.int .i64 x.1, .int .i64 x.2.1, .string x.2.2.1, .int .i64 x.2.2.2]
abbrev magg (x : MsgM) : Value := .agg #[.int .i64 x.1, .int .i64 x.2.1, .string x.2.2.1, .int .i64 x.2.2.2]
def mcells (l : List MsgM) : List Value := l.flatMap mval

/-- The four cells from (b, o) on hold the message x. -/
def MsgIn (w : World) (b o : Nat) (x : MsgM) : Prop :=
  w.cell? ⟨b, o, none⟩ = some (.int .i64 x.1) ∧ w.cell? ⟨b, o + 1, none⟩ = some (.int .i64 x.2.1) ∧ w.cell? ⟨b, o + 2, none⟩ = some (.string x.2.2.1) ∧ w.cell? ⟨b, o + 3, none⟩ = some (.int .i64 x.2.2.2)

/-- The cells from (b, o) on hold the messages l. -/
def MsgsIn (w : World) (b o : Nat) (l : List MsgM) : Prop := ∀ j (hj : j < l.length), MsgIn w b (o + j * 4) l[j]

/-- v reads as the messages l. -/
def MsgsAt (w : World) (v : Value) (l : List MsgM) : Prop :=
  ∃ a c, v = .slice a l.length c ∧ l.length ≤ c ∧ c ≤ maxLen ∧ (l = [] ∨ ∃ b o, a = some ⟨b, o, none⟩ ∧ MsgsIn w b o l)

theorem MsgIn.below {w w' : World} {b o : Nat} {x : MsgM} (h : MsgIn w b o x) (hb : Below w.heap.size w w') : MsgIn w' b o x := by
  have hlt := World.block_lt_of_cell? _ _ h.1
  exact ⟨(below_cell hb hlt).trans h.1, (below_cell hb hlt).trans h.2.1, (below_cell hb hlt).trans h.2.2.1, (below_cell hb hlt).trans h.2.2.2⟩

theorem MsgsIn.below {w w' : World} {b o : Nat} {l : List MsgM} (h : MsgsIn w b o l) (hb : Below w.heap.size w w') : MsgsIn w' b o l := fun j hj => (h j hj).below hb

theorem MsgsAt.below {w w' : World} {v : Value} {l : List MsgM} (h : MsgsAt w v l) (hb : Below w.heap.size w w') : MsgsAt w' v l := by
  obtain ⟨a, c, hv, h1, h2, h3⟩ := h
  refine ⟨a, c, hv, h1, h2, ?_⟩
  rcases h3 with h3 | ⟨b, o, ha, hi⟩
  · exact .inl h3
  · exact .inr ⟨b, o, ha, hi.below hb⟩

theorem MsgsAt.alloc {w : World} {v : Value} {l : List MsgM} (h : MsgsAt w v l) (x : Obj) : MsgsAt (w.alloc x) v l := h.below ((Below.refl _ _).alloc (Nat.le_refl _) x)

theorem mcells_cons (x : MsgM) (l : List MsgM) : mcells (x :: l) = .int .i64 x.1 :: .int .i64 x.2.1 :: .string x.2.2.1 :: .int .i64 x.2.2.2 :: mcells l := rfl
theorem mcells_app (a b : List MsgM) : mcells (a ++ b) = mcells a ++ mcells b := by simp [mcells]

theorem mcells_length : ∀ l : List MsgM, (mcells l).length = l.length * 4
  | [] => rfl
  | x :: l => by rw [mcells_cons]; simp only [List.length_cons, mcells_length l]; omega

theorem mcells_at : ∀ (l : List MsgM) (j : Nat) (h : j < l.length), (mcells l)[j * 4]? = some (.int .i64 l[j].1) ∧ (mcells l)[j * 4 + 1]? = some (.int .i64 l[j].2.1) ∧
    (mcells l)[j * 4 + 2]? = some (.string l[j].2.2.1) ∧ (mcells l)[j * 4 + 3]? = some (.int .i64 l[j].2.2.2)
  | x :: l, 0, _ => ⟨rfl, rfl, rfl, rfl⟩
  | x :: l, j + 1, h => by
    have ih := mcells_at l j (by simpa using h)
    rw [mcells_cons, show (j + 1) * 4 = j * 4 + 1 + 1 + 1 + 1 by omega, show j * 4 + 1 + 1 + 1 + 1 + 1 = (j * 4 + 1) + 1 + 1 + 1 + 1 by omega, show j * 4 + 1 + 1 + 1 + 1 + 2 = (j * 4 + 2) + 1 + 1 + 1 + 1 by omega, show j * 4 + 1 + 1 + 1 + 1 + 3 = (j * 4 + 3) + 1 + 1 + 1 + 1 by omega]
    simp only [List.getElem?_cons_succ, List.getElem_cons_succ]
    exact ih

theorem mcells_set : ∀ (l : List MsgM) (j : Nat) (x : MsgM), j < l.length →
    ((((mcells l).set (j * 4) (.int .i64 x.1)).set (j * 4 + 1) (.int .i64 x.2.1)).set (j * 4 + 2) (.string x.2.2.1)).set (j * 4 + 3) (.int .i64 x.2.2.2) = mcells (l.set j x)
  | y :: l, 0, x, _ => rfl
  | y :: l, j + 1, x, h => by
    rw [mcells_cons, show (j + 1) * 4 = j * 4 + 1 + 1 + 1 + 1 by omega, show j * 4 + 1 + 1 + 1 + 1 + 1 = (j * 4 + 1) + 1 + 1 + 1 + 1 by omega, show j * 4 + 1 + 1 + 1 + 1 + 2 = (j * 4 + 2) + 1 + 1 + 1 + 1 by omega, show j * 4 + 1 + 1 + 1 + 1 + 3 = (j * 4 + 3) + 1 + 1 + 1 + 1 by omega]
    simp only [List.set_cons_succ]
    rw [mcells_set l j x (by simpa using h), mcells_cons]

/-- An own row of messages. -/
def MOwn (w : World) (B : Nat) (v : Value) (l : List MsgM) : Prop := w.ownsRow B 97 4 v l.length (mcells l)

theorem own_msgs_at {w : World} {B : Nat} {v : Value} {l : List MsgM} (h : MOwn w B v l) : MsgsAt w v l := by
  rcases h.2 with ⟨rfl, h0⟩ | ⟨g, cap, cur, rfl, _, _, h4, h5, _, _⟩
  · exact ⟨none, 0, by rw [h0], by omega, by unfold maxLen; omega, .inl (List.length_eq_zero_iff.1 h0)⟩
  · refine ⟨_, cap, rfl, h4, h5, .inr ⟨g, 0, rfl, fun j hj => ?_⟩⟩
    have e := mcells_at l j hj
    refine ⟨?_, ?_, ?_, ?_⟩
    · rw [Nat.zero_add, h.cellAt _ (by omega)]; exact e.1
    · rw [Nat.zero_add, h.cellAt _ (by omega)]; exact e.2.1
    · rw [Nat.zero_add, h.cellAt _ (by omega)]; exact e.2.2.1
    · rw [Nat.zero_add, h.cellAt _ (by omega)]; exact e.2.2.2

/-! ### When they are right -/

def inB (x lo hi : Int) : Bool := decide (lo ≤ x) && decide (x ≤ hi)
def msgB (x : MsgM) : Bool := inB x.1 1 100000 && inB x.2.1 0 7 && topicP (parts x.2.2.1 47) && inB x.2.2.2 0 9999

/-- May message k stand behind the one ahead of it? -/
def nextM (l : List MsgM) (k : Nat) (h : k < l.length) : Bool := msgB l[k] && (decide (k = 0) || decide ((l[k - 1]'(by omega)).1 < l[k].1))
def msgsTo (l : List MsgM) (k : Nat) : Bool := (List.range k).all fun j => if h : j < l.length then nextM l j h else true
def msgsB (l : List MsgM) : Bool := msgsTo l l.length

theorem msgsTo_succ (l : List MsgM) (k : Nat) (h : k < l.length) : msgsTo l (k + 1) = (msgsTo l k && nextM l k h) := by
  unfold msgsTo; rw [List.range_succ, List.all_append]; simp [h]

theorem msgsTo_bad {l : List MsgM} {k : Nat} (h : k < l.length) (hb : nextM l k h = false) : msgsB l = false := by
  cases e : msgsB l
  · rfl
  · unfold msgsB msgsTo at e
    rw [List.all_eq_true] at e
    have := e k (List.mem_range.2 h)
    rw [dif_pos h, hb] at this; cases this

end Go.Proofs.YtmfbffhbgelnnaaGreatDoor

/- Rows that a call owns: of numbers, of knots; the copies that the exact laws make of their arguments. -/
namespace Go.Proofs.YtmfbffhbgelnnaaGreatDoor
open Go.RowKit

def ints (l : List Int) : List Value := l.map (.int .i64)
def kcells : List KnotM → List Value → List Value
  | x :: l, u :: us => .string x.1 :: u :: kcells l us
  | _, _ => []

/-- Two rows that lie in different blocks. -/
def Apart (a b : Value) : Prop := a.ownBlock = none ∨ a.ownBlock ≠ b.ownBlock

/-- v is an own row of the knots l; the rows of numbers us are own rows too; no two share a block. -/
def KOwnU (w : World) (B : Nat) (v : Value) (l : List KnotM) (us : List Value) : Prop :=
  us.length = l.length ∧ w.ownsRow B 98 2 v l.length (kcells l us) ∧
    (∀ j (h : j < l.length) (h2 : j < us.length), w.ownsRow B 2 1 us[j] l[j].2.length (ints l[j].2)) ∧ (v :: us).Pairwise Apart

def KOwn (w : World) (B : Nat) (v : Value) (l : List KnotM) : Prop := ∃ us, KOwnU w B v l us

theorem kcells_length : ∀ (l : List KnotM) (us : List Value), us.length = l.length → (kcells l us).length = l.length * 2
  | [], _, _ => by simp [kcells]
  | x :: l, u :: us, h => by simp only [List.length_cons, Nat.add_right_cancel_iff] at h; simp only [kcells, List.length_cons, kcells_length l us h]; omega
  | x :: l, [], h => by simp at h

theorem kcells_path : ∀ (l : List KnotM) (us : List Value) (j : Nat) (h : j < l.length), us.length = l.length → (kcells l us)[j * 2]? = some (.string l[j].1)
  | x :: l, u :: us, 0, _, _ => rfl
  | x :: l, u :: us, j + 1, h, e => by
    simp only [List.length_cons, Nat.add_right_cancel_iff] at e
    rw [show (j + 1) * 2 = j * 2 + 1 + 1 by omega]
    simp only [kcells, List.getElem?_cons_succ, List.getElem_cons_succ]
    exact kcells_path l us j (by simpa using h) e
  | x :: l, [], _, _, e => by simp at e

theorem kcells_ids : ∀ (l : List KnotM) (us : List Value) (j : Nat) (h : j < us.length), us.length = l.length → (kcells l us)[j * 2 + 1]? = some us[j]
  | x :: l, u :: us, 0, _, _ => rfl
  | x :: l, u :: us, j + 1, h, e => by
    simp only [List.length_cons, Nat.add_right_cancel_iff] at e
    rw [show (j + 1) * 2 + 1 = j * 2 + 1 + 1 + 1 by omega]
    simp only [kcells, List.getElem?_cons_succ, List.getElem_cons_succ]
    exact kcells_ids l us j (by simpa using h) e
  | [], u :: us, _, _, e => by simp at e

theorem kcells_set : ∀ (l : List KnotM) (us : List Value) (j : Nat) (x : KnotM) (u : Value), us.length = l.length → j < l.length →
    ((kcells l us).set (j * 2) (.string x.1)).set (j * 2 + 1) u = kcells (l.set j x) (us.set j u)
  | y :: l, v :: us, 0, x, u, _, _ => rfl
  | y :: l, v :: us, j + 1, x, u, e, h => by
    simp only [List.length_cons, Nat.add_right_cancel_iff] at e
    rw [show (j + 1) * 2 = j * 2 + 1 + 1 by omega]
    simp only [kcells, List.set_cons_succ]
    rw [kcells_set l us j x u e (by simpa using h)]
  | y :: l, [], _, _, _, e, _ => by simp at e

/-- An own row of numbers reads as them. -/
theorem own_ints_at {w : World} {B n : Nat} {v : Value} {l : List Int} (h : w.ownsRow B 2 1 v n (ints l)) : IntsAt w v l := by
  have hn : l.length = n := by have := h.1; simpa [ints] using this
  rcases h.2 with ⟨rfl, h0⟩ | ⟨g, cap, cur, rfl, _, _, h3, h4, _, _⟩
  · exact ⟨none, 0, by rw [hn, h0], by omega, by unfold maxLen; omega, .inl (List.length_eq_zero_iff.1 (by omega))⟩
  · refine ⟨_, cap, by rw [hn], by omega, h4, .inr ⟨g, 0, rfl, fun j hj => ?_⟩⟩
    have := h.cellAt j (by omega)
    rw [Nat.zero_add, this, ints, List.getElem?_map, List.getElem?_eq_getElem hj]; rfl

/-- An own row of knots reads as them. -/
theorem own_knots_at {w : World} {B : Nat} {v : Value} {l : List KnotM} (h : KOwn w B v l) : KnotsAt w v l := by
  obtain ⟨us, h1, h2, h3, _⟩ := h
  rcases h2.2 with ⟨rfl, h0⟩ | ⟨g, cap, cur, rfl, _, _, h4, h5, _, _⟩
  · exact ⟨none, 0, by rw [h0], by omega, by unfold maxLen; omega, .inl (List.length_eq_zero_iff.1 h0)⟩
  · refine ⟨_, cap, rfl, h4, h5, .inr ⟨g, 0, rfl, fun j hj => ⟨?_, us[j], ?_, own_ints_at (h3 j hj (by omega))⟩⟩⟩
    · rw [Nat.zero_add, h2.cellAt _ (by omega), kcells_path l us j hj h1]
    · rw [Nat.zero_add, h2.cellAt _ (by omega), kcells_ids l us j (by omega) h1]

theorem KOwnU.below {w w' : World} {B : Nat} {v : Value} {l : List KnotM} {us : List Value} (h : KOwnU w B v l us) (hb : Below w.heap.size w w') : KOwnU w' B v l us :=
  ⟨h.1, row_below h.2.1 hb, fun j h1 h2 => row_below (h.2.2.1 j h1 h2) hb, h.2.2.2⟩
theorem KOwn.below {w w' : World} {B : Nat} {v : Value} {l : List KnotM} (h : KOwn w B v l) (hb : Below w.heap.size w w') : KOwn w' B v l := by
  obtain ⟨us, h⟩ := h; exact ⟨us, h.below hb⟩

theorem madeCells_two (x : KnotM) (u : Value) (n : Nat) : (madeCells #[.string x.1, u] (n * 2)).toList = kcells (List.replicate n x) (List.replicate n u) := by
  have hl := kcells_length (List.replicate n x) (List.replicate n u) (by simp)
  rw [List.length_replicate] at hl
  apply List.ext_getElem?
  intro i
  by_cases hi : i < n * 2
  · obtain ⟨j, hj | hj⟩ : ∃ j, i = j * 2 ∨ i = j * 2 + 1 := ⟨i / 2, by omega⟩
    · subst hj
      rw [kcells_path _ _ j (by simp; omega) (by simp)]
      simp [madeCells, hi]
    · subst hj
      rw [kcells_ids _ _ j (by simp; omega) (by simp)]
      simp [madeCells, hi, Nat.add_mod]
  · rw [List.getElem?_eq_none (by simp [size_madeCells]; omega), List.getElem?_eq_none (by omega)]

theorem ints_zero (n : Nat) : (madeCells #[.int .i64 0] n).toList = ints (List.replicate n 0) := by
  rw [toList_madeCells_one, ints, List.map_replicate]

theorem ints_set (l : List Int) (k : Nat) (x : Int) : (ints l).set k (.int .i64 x) = ints (l.set k x) := by simp [ints, List.map_set]

/-- A store elsewhere leaves an own row as it is. -/
theorem own_far {w : World} {B n size g j : Nat} {E : TypeId} {u v : Value} {xs : List Value} (h : w.ownsRow B E size v n xs) (hg : g < B) : (w.setCell ⟨g, j, none⟩ u).ownsRow B E size v n xs :=
  h.kept (grown_setCell w g j u) (by
    cases e : v.ownBlock with
    | none => exact .inl rfl
    | some k => exact .inr (by have := (h.lt k e).1; intro e2; cases e2; omega))

theorem Apart.symm {a b : Value} (h : Apart a b) : Apart b a := by
  rcases h with h | h
  · cases e : b.ownBlock with
    | none => exact .inl e
    | some x => exact .inr (by rw [h, e]; exact fun h => by cases h)
  · exact .inr (fun e => h e.symm)

theorem apart_set {v u : Value} {us : List Value} {k : Nat} (h : (v :: us).Pairwise Apart) (hu : ∀ x ∈ v :: us, Apart u x) : (v :: us.set k u).Pairwise Apart := by
  rw [List.pairwise_cons] at h ⊢
  refine ⟨fun a ha => ?_, ?_⟩
  · rcases List.mem_or_eq_of_mem_set ha with h1 | rfl
    · exact h.1 a h1
    · exact (hu v (by simp)).symm
  · have h2 := h.2
    rw [List.pairwise_iff_getElem] at h2 ⊢
    intro i j hi hj hij
    rw [List.length_set] at hi hj
    rw [List.getElem_set, List.getElem_set]
    split <;> split
    · omega
    · exact hu _ (List.mem_cons_of_mem _ (List.getElem_mem hj))
    · exact (hu _ (List.mem_cons_of_mem _ (List.getElem_mem hi))).symm
    · exact h2 i j hi hj hij

theorem KOwnU.lt {w : World} {B : Nat} {v : Value} {l : List KnotM} {us : List Value} (h : KOwnU w B v l us) : ∀ x ∈ v :: us, ∀ b, x.ownBlock = some b → B ≤ b ∧ b < w.heap.size := by
  intro x hx b hb
  rcases List.mem_cons.1 hx with rfl | hx
  · exact h.2.1.lt b hb
  · obtain ⟨j, hj, rfl⟩ := List.mem_iff_getElem.1 hx
    exact (h.2.2.1 j (by have := h.1; omega) hj).lt b hb

/-- A knot laid into its place: a new text, and a new row of numbers that was made later than all the others. -/
theorem KOwnU.put {w : World} {B g n cap k N : Nat} {l : List KnotM} {us : List Value} {x : KnotM} {u : Value} (h : KOwnU w B (.slice (some ⟨g, 0, none⟩) n cap) l us) (hn : n = l.length) (hk : k < l.length)
    (ho : w.ownsRow B 2 1 u x.2.length (ints x.2)) (hN : ∀ y ∈ (.slice (some ⟨g, 0, none⟩) n cap) :: us, ∀ b, y.ownBlock = some b → b < N) (hu : ∀ b, u.ownBlock = some b → N ≤ b) :
    KOwnU ((w.setCell ⟨g, k * 2, none⟩ (.string x.1)).setCell ⟨g, k * 2 + 1, none⟩ u) B (.slice (some ⟨g, 0, none⟩) n cap) (l.set k x) (us.set k u) := by
  subst hn
  have hap := h.2.2.2
  have hg : g < N := hN _ List.mem_cons_self g rfl
  have hug : u.ownBlock ≠ some g := fun e => by have := hu g e; omega
  refine ⟨by simp [h.1], ?_, fun j h1 h2 => ?_, apart_set hap fun y hy => ?_⟩
  · rw [List.length_set, ← kcells_set l us k x u h.1 hk]
    exact ((h.2.1.stored _ _).1.stored _ _).1
  · rw [List.length_set] at h1 h2
    rw [List.getElem_set]
    simp only [List.getElem_set]
    split
    · exact own_kept (own_kept ho hug) hug
    · have hne : us[j].ownBlock ≠ some g := by
        have := (List.pairwise_cons.1 hap).1 us[j] (List.getElem_mem _)
        rcases this with h | h
        · cases h
        · exact fun e => h e.symm
      exact own_kept (own_kept (h.2.2.1 j h1 h2) hne) hne
  · cases e : u.ownBlock with
    | none => exact .inl e
    | some b => exact .inr (fun e2 => by have h1 := hu b e; have h2 := hN y hy b (by rw [← e2, e]); omega)

def knotZ : KnotM := (⟨#[]⟩, [])

end Go.Proofs.YtmfbffhbgelnnaaGreatDoor

/- A change of named rows alone. -/
namespace Go.Proofs.YtmfbffhbgelnnaaGreatDoor
open Go.RowKit

/-- Nothing that was there has changed but in the own blocks of vs. -/
structure GrownL (w w' : World) (vs : List Value) : Prop where
  os : w'.os = w.os
  tape : w'.tape = w.tape
  output : w'.output = w.output
  size : w.heap.size ≤ w'.heap.size
  block : ∀ i, i < w.heap.size → (∀ x ∈ vs, x.ownBlock ≠ some i) → w'.heap[i]? = w.heap[i]?

theorem GrownL.refl (w : World) (vs : List Value) : GrownL w w vs := ⟨rfl, rfl, rfl, Nat.le_refl _, fun _ _ _ => rfl⟩
theorem GrownL.trans {a b c : World} {vs : List Value} (h : GrownL a b vs) (k : GrownL b c vs) : GrownL a c vs :=
  ⟨k.os.trans h.os, k.tape.trans h.tape, k.output.trans h.output, Nat.le_trans h.size k.size, fun i hi hx => (k.block i (Nat.lt_of_lt_of_le hi h.size) hx).trans (h.block i hi hx)⟩
theorem GrownL.below {a b : World} {vs : List Value} (h : Below a.heap.size a b) : GrownL a b vs := ⟨h.os, h.tape, h.output, h.size, fun i hi _ => h.block i hi⟩
theorem GrownL.grown {a b : World} {vs : List Value} {x : Value} (h : a.grownBy b x.ownBlock) (hx : x ∈ vs) : GrownL a b vs :=
  ⟨h.os, h.tape, h.output, h.size, fun i hi hn => h.block i hi (fun e => hn x hx e.symm)⟩
theorem GrownL.toBelow {a b : World} {vs : List Value} {B : Nat} (h : GrownL a b vs) (hB : B ≤ a.heap.size) (hv : ∀ x ∈ vs, ∀ k, x.ownBlock = some k → B ≤ k) : Below B a b :=
  ⟨h.os, h.tape, h.output, h.size, fun i hi => h.block i (by omega) (fun x hx e => by have := hv x hx i e; omega)⟩

/-- An own row of which the block is as it was. -/
theorem own_same {w w' : World} {B n size : Nat} {E : TypeId} {v : Value} {xs : List Value} (h : w.ownsRow B E size v n xs) (hs : ∀ b, v.ownBlock = some b → w'.heap[b]? = w.heap[b]?) : w'.ownsRow B E size v n xs := by
  refine ⟨h.1, ?_⟩
  rcases h.2 with h2 | ⟨g, cap, cur, rfl, hg, hh, r⟩
  · exact .inl h2
  · exact .inr ⟨g, cap, cur, rfl, hg, (hs g rfl).trans hh, r⟩

theorem own_keptL {w w' : World} {vs : List Value} {B n size : Nat} {E : TypeId} {v : Value} {xs : List Value} (h : w.ownsRow B E size v n xs) (hg : GrownL w w' vs) (ap : ∀ x ∈ vs, Apart v x) : w'.ownsRow B E size v n xs :=
  own_same h fun b hb => hg.block b (h.lt b hb).2 fun x hx e => by
    rcases ap x hx with h1 | h1
    · rw [hb] at h1; cases h1
    · exact h1 (hb.trans e.symm)

theorem KOwnU.keptL {w w' : World} {vs us : List Value} {B : Nat} {v : Value} {l : List KnotM} (h : KOwnU w B v l us) (hg : GrownL w w' vs) (ap : ∀ y ∈ v :: us, ∀ x ∈ vs, Apart y x) : KOwnU w' B v l us :=
  ⟨h.1, own_keptL h.2.1 hg (ap v (by simp)), fun j h1 h2 => own_keptL (h.2.2.1 j h1 h2) hg (ap _ (List.mem_cons_of_mem _ (List.getElem_mem h2))), h.2.2.2⟩

theorem GrownL.sub {a b : World} {vs us : List Value} (h : GrownL a b vs) (hs : ∀ x ∈ vs, x ∈ us) : GrownL a b us :=
  ⟨h.os, h.tape, h.output, h.size, fun i hi hx => h.block i hi fun x hv => hx x (hs x hv)⟩
theorem GrownL.setCell {a b : World} {vs : List Value} {x : Value} {g : Nat} (h : GrownL a b vs) (hx : x ∈ vs) (hg : x.ownBlock = some g) (j : Nat) (v : Value) : GrownL a (b.setCell ⟨g, j, none⟩ v) vs :=
  h.trans (.grown (x := x) (by rw [hg]; exact grown_setCell b g j v) hx)
theorem GrownL.alloc {a b : World} {vs : List Value} (h : GrownL a b vs) (o : Obj) : GrownL a (b.alloc o) vs := h.trans (.below ((Below.refl _ _).alloc (Nat.le_refl _) o))

theorem GrownL.grown_new {a b c : World} {vs : List Value} {r : Option Nat} (h : GrownL a b vs) (k : b.grownBy c r) (hr : ∀ i, r = some i → i < a.heap.size → ∃ x ∈ vs, x.ownBlock = some i) : GrownL a c vs :=
  ⟨k.os.trans h.os, k.tape.trans h.tape, k.output.trans h.output, Nat.le_trans h.size k.size, fun i hi hx => (k.block i (Nat.lt_of_lt_of_le hi h.size) (fun e => by obtain ⟨x, hx1, hx2⟩ := hr i e.symm hi; exact hx x hx1 hx2)).trans (h.block i hi hx)⟩

/-- The first elements of an own row. -/
theorem own_take {w : World} {B g n cap k size : Nat} {e : TypeId} {xs : List Value} (h : w.ownsRow B e size (.slice (some ⟨g, 0, none⟩) n cap) n xs) (hk : k ≤ n) : w.ownsRow B e size (.slice (some ⟨g, 0, none⟩) k cap) k (xs.take (k * size)) := by
  have hl := h.1
  rcases h.2 with ⟨h1, _⟩ | ⟨g2, cap2, cur, h1, hb, hh, h2, h3, h4, h5⟩
  · cases h1
  · cases h1
    have hks : k * size ≤ n * size := Nat.mul_le_mul_right _ hk
    refine ⟨by rw [List.length_take, hl]; omega, .inr ⟨g, cap, cur, rfl, hb, hh, by omega, h3, h4, ?_⟩⟩
    rw [← h5, List.take_take, Nat.min_eq_left hks]

theorem GrownL.same {a b : World} {x y : Value} (h : GrownL a b [x]) (e : x.ownBlock = y.ownBlock) : GrownL a b [y] :=
  ⟨h.os, h.tape, h.output, h.size, fun i hi hx => h.block i hi fun z hz => by rw [List.mem_singleton.1 hz, e]; exact hx y (by simp)⟩

end Go.Proofs.YtmfbffhbgelnnaaGreatDoor

/- The walk of the program's NewTrie. -/
namespace Go.Proofs.YtmfbffhbgelnnaaGreatDoor
open Go.RowKit

theorem implNewTrie_any (w : World) :
    Calls Tryz.prog 51 #[] w fun e w' => ∃ u, e = .returned u ∧ KOwn w' w.heap.size u [knotZ] ∧ Below w.heap.size w w' := by
  have HO := Lib.hid (World.ownsRow_lit (base := w.heap.size) (e := 98) (size := 2) w #[.string knotZ.1, .slice none 0 0] 1 (Nat.le_refl _) (by unfold maxLen; omega) rfl)
  go_enter Tryz.func51, Tryz.ntmps51
  go_wp2
  go_ret
  exact ⟨_, rfl, ⟨[.slice none 0 0], rfl, HO.out, fun j h1 h2 => by
    obtain rfl : j = 0 := by simpa using h1
    exact World.ownsRow_nil _ _ _ _, by
    rw [List.pairwise_cons]
    exact ⟨fun a ha => by rw [List.mem_singleton.1 ha]; exact .inr (by intro h; cases h), List.pairwise_singleton _ _⟩⟩, (Below.refl _ _).alloc (Nat.le_refl _) _⟩

end Go.Proofs.YtmfbffhbgelnnaaGreatDoor

/- (KMark, what names no function of the laws.) -/
namespace Go.Proofs.YtmfbffhbgelnnaaGreatDoor
open Go.RowKit

/-- The marks k0, k0 + 1 .. in the first n places. -/
def imarks (k0 n : Nat) : List Int := (List.range n).map fun j => ((k0 + j : Nat) : Int)
def imarked (l : List Int) (k0 k : Nat) : List Int := imarks k0 k ++ l.drop k

theorem imarks_length (k0 n : Nat) : (imarks k0 n).length = n := by simp [imarks]
theorem imarked_length (l : List Int) (k0 k : Nat) (h : k ≤ l.length) : (imarked l k0 k).length = l.length := by simp [imarked, imarks]; omega
theorem imarked_next (l : List Int) (k0 k : Nat) (h : k < l.length) : (imarked l k0 k).set k ((k0 + k : Nat) : Int) = imarked l k0 (k + 1) := by
  unfold imarked imarks
  rw [List.set_append_right _ _ (by simp)]
  simp only [List.length_map, List.length_range, Nat.sub_self]
  rw [List.range_succ, List.map_append, List.append_assoc]
  congr 1
  rw [List.drop_eq_getElem_cons h]
  rfl
theorem imarked_all (l : List Int) (k0 : Nat) : imarked l k0 l.length = imarks k0 l.length := by simp [imarked]

theorem imarks_at (k0 n k : Nat) (h : k < (imarks k0 n).length) : (imarks k0 n)[k] = ((k0 : Int) + (k : Int)) := by
  simp [imarks]

/-- Another text in the k-th knot. -/
theorem KOwnU.text {w : World} {B g n cap k : Nat} {l : List KnotM} {us : List Value} (p : ByteArray) (h : KOwnU w B (.slice (some ⟨g, 0, none⟩) n cap) l us) (hn : n = l.length) (hk : k < l.length) :
    KOwnU (w.setCell ⟨g, k * 2, none⟩ (.string p)) B (.slice (some ⟨g, 0, none⟩) n cap) (l.set k (p, l[k].2)) us := by
  subst hn
  have hku : k < us.length := by rw [h.1]; exact hk
  have hrow : kcells (l.set k (p, l[k].2)) us = (kcells l us).set (k * 2) (.string p) := by
    have h1 := kcells_set l us k (p, l[k].2) us[k] h.1 hk
    rw [List.set_getElem_self] at h1
    rw [← h1]
    apply List.ext_getElem?
    intro i
    by_cases hi : i = k * 2 + 1
    · subst hi
      rw [List.getElem?_set_self (by simp [kcells_length l us h.1]; omega), List.getElem?_set_ne (by omega), kcells_ids l us k hku h.1]
    · rw [List.getElem?_set_ne (by omega)]
  refine ⟨by simp [h.1], ?_, fun j h1 h2 => ?_, h.2.2.2⟩
  · rw [List.length_set, hrow]
    exact (h.2.1.stored _ _).1
  · have hj : j < l.length := by simpa using h1
    have hs : (l.set k (p, l[k].2))[j].2 = l[j].2 := by rw [List.getElem_set]; split <;> simp_all
    have hne : us[j].ownBlock ≠ some g := by
      have := (List.pairwise_cons.1 h.2.2.2).1 us[j] (List.getElem_mem _)
      rcases this with h | h
      · cases h
      · exact fun e => h e.symm
    rw [hs]
    exact own_kept (h.2.2.1 j hj h2) hne

/-- Other numbers, as many, in the k-th knot's row. -/
theorem KOwnU.nums {w w' : World} {B k : Nat} {v : Value} {l : List KnotM} {us : List Value} {z : List Int} (h : KOwnU w B v l us) (hk : k < l.length) (hku : k < us.length) (hz : z.length = l[k].2.length)
    (ho : w'.ownsRow B 2 1 us[k] z.length (ints z)) (hg : w.grownBy w' us[k].ownBlock) : KOwnU w' B v (l.set k (l[k].1, z)) us := by
  have hap := h.2.2.2
  have hrow : kcells (l.set k (l[k].1, z)) us = kcells l us := by
    have h1 := kcells_set l us k (l[k].1, z) us[k] h.1 hk
    rw [List.set_getElem_self] at h1
    rw [← h1]
    have e1 := kcells_path l us k hk h.1
    have e2 := kcells_ids l us k hku h.1
    apply List.ext_getElem?
    intro i
    by_cases hi : i = k * 2 + 1
    · subst hi
      rw [List.getElem?_set_self (by simp [kcells_length l us h.1]; omega), e2]
    · rw [List.getElem?_set_ne (by omega)]
      by_cases hi2 : i = k * 2
      · subst hi2
        rw [List.getElem?_set_self (by rw [kcells_length l us h.1]; omega), e1]
      · rw [List.getElem?_set_ne (by omega)]
  have hG : GrownL w w' [us[k]] := .grown hg (by simp)
  refine ⟨by simp [h.1], ?_, fun j h1 h2 => ?_, hap⟩
  · rw [List.length_set, hrow]
    refine own_keptL h.2.1 hG fun x hx => ?_
    rw [List.mem_singleton.1 hx]
    exact (List.pairwise_cons.1 hap).1 _ (List.getElem_mem _)
  · by_cases hjk : j = k
    · subst hjk
      simp only [List.getElem_set_self]
      exact ho
    · simp only [List.getElem_set_ne (Ne.symm hjk)]
      have hj : j < l.length := by simpa using h1
      refine own_keptL (h.2.2.1 j hj h2) hG fun x hx => ?_
      rw [List.mem_singleton.1 hx]
      have hp := List.pairwise_iff_getElem.1 (List.pairwise_cons.1 hap).2
      rcases Nat.lt_or_gt_of_ne hjk with h3 | h3
      · exact hp j k h2 hku h3
      · exact (hp k j hku h2 h3).symm

/-- The marks from k on, laid into knots, and the number behind them. -/
def kmark : List KnotM → Nat → List KnotM
  | [], _ => []
  | x :: l, k => (mtext k, imarks (k + 1) x.2.length) :: kmark l (k + 1 + x.2.length)
def kend : List KnotM → Nat → Nat
  | [], k => k
  | x :: l, k => kend l (k + 1 + x.2.length)

theorem kmark_length : ∀ (l : List KnotM) (k : Nat), (kmark l k).length = l.length
  | [], _ => rfl
  | x :: l, k => by simp [kmark, kmark_length l]
theorem kmark_append : ∀ (a b : List KnotM) (k : Nat), kmark (a ++ b) k = kmark a k ++ kmark b (kend a k)
  | [], _, _ => rfl
  | x :: a, b, k => by simp [kmark, kend, kmark_append a b]
theorem kend_append : ∀ (a b : List KnotM) (k : Nat), kend (a ++ b) k = kend b (kend a k)
  | [], _, _ => rfl
  | x :: a, b, k => by simp [kend, kend_append a b]
theorem kend_le : ∀ (l : List KnotM) (k : Nat), k ≤ kend l k
  | [], _ => Nat.le_refl _
  | x :: l, k => by have := kend_le l (k + 1 + x.2.length); simp only [kend]; omega

theorem kend_next (l : List KnotM) (k0 k : Nat) (h : k < l.length) : kend (l.take (k + 1)) k0 = kend (l.take k) k0 + 1 + l[k].2.length := by
  rw [List.take_succ_eq_append_getElem h, kend_append]; rfl
theorem kend_bound (l : List KnotM) (k0 k : Nat) : kend (l.take k) k0 ≤ kend l k0 := by
  have h := kend_append (l.take k) (l.drop k) k0
  rw [List.take_append_drop] at h
  rw [h]; exact kend_le _ _

def kstate (l : List KnotM) (k0 k : Nat) : List KnotM := kmark (l.take k) k0 ++ l.drop k
theorem kstate_length (l : List KnotM) (k0 k : Nat) (h : k ≤ l.length) : (kstate l k0 k).length = l.length := by simp [kstate, kmark_length]; omega
theorem kstate_at (l : List KnotM) (k0 k : Nat) (h : k < l.length) (h2 : k < (kstate l k0 k).length) : (kstate l k0 k)[k] = l[k] := by
  have hm : (kmark (l.take k) k0).length = k := by rw [kmark_length, List.length_take]; omega
  have e : (kstate l k0 k)[k]? = some l[k] := by
    unfold kstate
    rw [List.getElem?_append_right (by omega), hm, Nat.sub_self, List.getElem?_drop, Nat.add_zero, List.getElem?_eq_getElem h]
  rw [List.getElem?_eq_getElem h2] at e
  exact Option.some.inj e
theorem kstate_next (l : List KnotM) (k0 k : Nat) (h : k < l.length) : (kstate l k0 k).set k (mtext (kend (l.take k) k0), imarks (kend (l.take k) k0 + 1) l[k].2.length) = kstate l k0 (k + 1) := by
  unfold kstate
  rw [List.set_append_right _ _ (by rw [kmark_length, List.length_take]; omega)]
  rw [kmark_length, List.length_take, Nat.min_eq_left (Nat.le_of_lt h), Nat.sub_self, List.drop_eq_getElem_cons h, List.set_cons_zero, List.take_succ_eq_append_getElem h, kmark_append, List.append_assoc]
  rfl

theorem kmark_at (l : List KnotM) (k0 k : Nat) (h : k < l.length) (h2 : k < (kmark l k0).length) : (kmark l k0)[k] = (mtext (kend (l.take k) k0), imarks (kend (l.take k) k0 + 1) l[k].2.length) := by
  have hm : (kmark (l.take k) k0).length = k := by rw [kmark_length, List.length_take]; omega
  have e : (kmark l k0)[k]? = some (mtext (kend (l.take k) k0), imarks (kend (l.take k) k0 + 1) l[k].2.length) := by
    have h3 := kmark_append (l.take k) (l.drop k) k0
    rw [List.take_append_drop] at h3
    rw [h3, List.getElem?_append_right (by omega), hm, Nat.sub_self, List.drop_eq_getElem_cons h]
    rfl
  rw [List.getElem?_eq_getElem h2] at e
  exact Option.some.inj e

end Go.Proofs.YtmfbffhbgelnnaaGreatDoor

/- How many marks a list of knots takes; rows of two lists that share no block. -/
namespace Go.Proofs.YtmfbffhbgelnnaaGreatDoor
open Go.RowKit

def totK (l : List KnotM) : Nat := (l.map (·.2.length)).sum

theorem kend_tot : ∀ (l : List KnotM) (k : Nat), kend l k = k + l.length + totK l
  | [], k => by simp [kend, totK]
  | x :: l, k => by rw [kend, kend_tot l]; simp only [totK, List.map_cons, List.sum_cons, List.length_cons]; omega

theorem totK_append (a b : List KnotM) : totK (a ++ b) = totK a + totK b := by simp [totK]
theorem totK_set : ∀ (l : List KnotM) (k : Nat) (x : KnotM), totK (l.set k x) ≤ totK l + x.2.length
  | [], _, _ => by simp [totK]
  | a :: l, 0, x => by simp only [List.set_cons_zero, totK, List.map_cons, List.sum_cons]; omega
  | a :: l, k + 1, x => by have := totK_set l k x; simp only [List.set_cons_succ, totK, List.map_cons, List.sum_cons] at *; omega

theorem totK_setAt : ∀ (l : List KnotM) (k : Nat) (h : k < l.length) (x : KnotM), totK (l.set k x) + l[k].2.length = totK l + x.2.length
  | a :: l, 0, _, x => by simp only [List.set_cons_zero, totK, List.map_cons, List.sum_cons, List.getElem_cons_zero]; omega
  | a :: l, k + 1, h, x => by have := totK_setAt l k (by simpa using h) x; simp only [List.set_cons_succ, totK, List.map_cons, List.sum_cons, List.getElem_cons_succ] at *; omega

theorem kend_ids {l : List KnotM} {x : KnotM} (h : x ∈ l) : x.2.length ≤ kend l 1 := by
  rw [kend_tot]
  have : x.2.length ≤ totK l := by
    unfold totK
    induction l with
    | nil => cases h
    | cons a l ih =>
      simp only [List.map_cons, List.sum_cons]
      rcases List.mem_cons.1 h with rfl | h
      · omega
      · have := ih h; omega
  omega
theorem kend_len (l : List KnotM) : l.length ≤ kend l 1 := by rw [kend_tot]; omega

/-- The rows of an elder list, and of a later one, share no block. -/
theorem elder_apart {w : World} {A B : Nat} {u v : Value} {l m : List KnotM} {us vs : List Value} (h : KOwnU w A u l us) (hB : w.heap.size ≤ B) {w2 : World} (k : KOwnU w2 B v m vs) : ∀ x ∈ u :: us, ∀ y ∈ v :: vs, Apart x y := fun x hx y hy => by
  cases e : x.ownBlock with
  | none => exact .inl e
  | some b => exact .inr (fun e2 => by
      have h1 := (h.lt x hx b e).2
      have h2 := (k.lt y hy b (by rw [← e2, e])).1
      omega)

end Go.Proofs.YtmfbffhbgelnnaaGreatDoor

/- The copies that the exact laws make of their arguments. -/
namespace Go.Proofs.YtmfbffhbgelnnaaGreatDoor
open Go.RowKit

set_option maxRecDepth 100000 in
set_option maxHeartbeats 400000 in
theorem toInts_any (v : Value) (l : List Int) (w : World) (hl : l.length ≤ 4000000) (hv : IntsAt w v l) :
    Calls Tryz.prog 113 #[v] w fun e w' => ∃ u, e = .returned u ∧ w'.ownsRow w.heap.size 2 1 u l.length (ints l) ∧ Below w.heap.size w w' := by
  obtain ⟨a, c, rfl, hc1, hc2, hc3⟩ := hv
  have HC := Lib.hid hc3
  clear hc3
  obtain ⟨i, hi1, hi2, hi3, hi4⟩ := info_parts (P := Tryz.prog) (e := 2) (z := .int .i64 0) (size := 1) (bytes := 8) (by kernel_rfl)
  go_enter Tryz.func113, Tryz.ntmps113
  go_wp2_with (first | (at_make; refine wpList_make_full _ rfl _ _ _ rfl w.heap.size 2 i (.int .i64 0) 1 (by kernel_rfl) hi1 hi2 hi3 _ _ _ _ l.length rfl rfl rfl rfl (by rw [hi4]; omega) (by unfold maxLen; omega) (Nat.le_refl _) ?_; intro w1 hown hgr))
  have H0 : Hid (w1.ownsRow w.heap.size 2 1 (.slice (some ⟨w.heap.size, 0, none⟩) l.length l.length) l.length (ints (l.take 0 ++ List.replicate (l.length - 0) 0))) := Lib.hid (by
    simp only [List.take_zero, List.nil_append, Nat.sub_zero]
    rw [← ints_zero]
    simpa [Value.cells] using hown)
  have H1 := Lib.hid ((Below.refl w.heap.size w).grown hgr (Nat.le_refl _) (fun k h => by cases h))
  clear hown hgr hi1 hi2 hi3 hi4
  obtain ⟨g, hg⟩ : ∃ g, w.heap.size = g := ⟨_, rfl⟩
  have HG := Lib.hid hg
  rw [hg] at H0 H1 ⊢
  clear hg
  go_loopw [4] (fun i wr => ∃ k : Nat, k ≤ l.length ∧ i = .int .i64 k ∧ Hid (wr.ownsRow g 2 1 (.slice (some ⟨g, 0, none⟩) l.length l.length) l.length (ints (l.take k ++ List.replicate (l.length - k) 0))) ∧ Hid (Below g w wr)) (fun i _ => l.length - (intOf i).toNat)
  case atStart => exact ⟨0, Nat.zero_le _, rfl, H0, H1⟩
  case round =>
    obtain ⟨k, hk, rfl, HO, HB⟩ := hrel
    by_cases hlt : k < l.length
    · obtain ⟨b, o, rfl, hin⟩ : ∃ b o, a = some ⟨b, o, none⟩ ∧ IntsIn w b o l := by
        rcases HC.out with h | h
        · subst h; simp at hlt
        · exact h
      have hcell := (hin.below (by rw [HG.out]; exact HB.out)) k hlt
      have hfz := HO.out.frozenAt k
      obtain ⟨u, hu⟩ : ∃ u, wr.cell? ⟨g, k, none⟩ = some u := ⟨_, (HO.out.cellAt k (by omega)).trans (List.getElem?_eq_getElem (by rw [HO.out.1]; omega))⟩
      have HN : Hid ((wr.setCell ⟨g, k, none⟩ (.int .i64 l[k])).ownsRow g 2 1 (.slice (some ⟨g, 0, none⟩) l.length l.length) l.length (ints (l.take (k + 1) ++ List.replicate (l.length - (k + 1)) 0))) := Lib.hid (by rw [← take_next l 0 l.length k rfl hlt, ← ints_set]; exact (HO.out.stored k _).1)
      have HN2 : Hid (Below g w (wr.setCell ⟨g, k, none⟩ (.int .i64 l[k]))) := Lib.hid (HB.out.grown (HO.out.stored k _).2 (HG.out ▸ HB.out.size) (fun j h => by cases h; exact Nat.le_refl _))
      obtain ⟨x, hx⟩ : ∃ x, l[k] = x := ⟨_, rfl⟩
      rw [hx] at hcell HN HN2
      clear hx hin HO HB
      go_wp2
      go_roundw
      case rel => exact ⟨k + 1, by omega, by go_num, HN, HN2⟩
      case measure => simp [intOf]; omega
    · obtain rfl : k = l.length := by omega
      have HE : Hid (wr.ownsRow w.heap.size 2 1 (.slice (some ⟨g, 0, none⟩) l.length l.length) l.length (ints l)) := Lib.hid (by have := HO.out; simp only [List.take_length, Nat.sub_self, List.replicate_zero, List.append_nil] at this; rw [HG.out]; exact this)
      have HB2 : Hid (Below w.heap.size w wr) := Lib.hid (by rw [HG.out]; exact HB.out)
      go_wp2
      go_ret
      exact ⟨_, rfl, HE.out, HB2.out⟩

set_option maxRecDepth 100000 in
set_option maxHeartbeats 400000 in
theorem toKnot_any (v : Value) (x : KnotM) (w : World) (hl : x.2.length ≤ 4000000) (hv : IntsAt w v x.2) :
    Calls Tryz.prog 79 #[.agg #[.string x.1, v]] w fun e w' => ∃ u, e = .returned (.agg #[.string x.1, u]) ∧ w'.ownsRow w.heap.size 2 1 u x.2.length (ints x.2) ∧ Below w.heap.size w w' := by
  obtain ⟨p, l⟩ := x
  have ct := fun wx (h : IntsAt wx v l) => toInts_any v l wx hl h
  have CT := Lib.hid ct
  have HV := Lib.hid hv
  clear ct hl hv
  go_enter Tryz.func79, Tryz.ntmps79
  go_wp2_with fail
  obtain ⟨w1, hw1⟩ : ∃ w1, w.alloc (.cells #[.string p, v] 92) = w1 := ⟨_, rfl⟩
  have hs1 : w1.heap.size = w.heap.size + 1 := by rw [← hw1]; simp
  have hb1 : Below w.heap.size w w1 := by rw [← hw1]; exact (Below.refl _ _).alloc (Nat.le_refl _) _
  rw [hw1]
  obtain ⟨w2, hw2⟩ : ∃ w2, w1.alloc (.cells #[.string { data := #[] }, .slice none 0 0] 98) = w2 := ⟨_, rfl⟩
  have hs2 : w2.heap.size = w.heap.size + 1 + 1 := by rw [← hw2]; simp [hs1]
  have hb2 : Below w.heap.size w w2 := by rw [← hw2]; exact hb1.alloc (by omega) _
  have r2 : w2.heap[w.heap.size + 1]? = some (.cells #[.string { data := #[] }, .slice none 0 0] 98 (0, 0)) := by rw [← hw2, ← hs1]; exact heap_alloc_new _ _
  rw [hw2]
  obtain ⟨w3, hw3⟩ : ∃ w3, w2.alloc (.cells #[.string p, .slice none 0 0] 98) = w3 := ⟨_, rfl⟩
  have hs3 : w3.heap.size = w.heap.size + 1 + 1 + 1 := by rw [← hw3]; simp [hs2]
  have hb3 : Below w.heap.size w w3 := by rw [← hw3]; exact hb2.alloc (by omega) _
  have k3 : w3.heap[w.heap.size + 1 + 1]? = some (.cells #[.string p, .slice none 0 0] 98 (0, 0)) := by rw [← hw3, ← hs2]; exact heap_alloc_new _ _
  have r3 : w3.heap[w.heap.size + 1]? = some (.cells #[.string { data := #[] }, .slice none 0 0] 98 (0, 0)) := by rw [← hw3]; exact (((Below.refl _ w2).alloc (Nat.le_refl _) _).block _ (by omega)).trans r2
  rw [hw3]
  refine (CT.out _ (HV.out.below hb3)).mono ?_
  rintro e w4 ⟨u, rfl, ho, hb4⟩
  obtain ⟨ua, uc, hu⟩ := own_slice ho
  subst hu
  have r4 : w4.heap[w.heap.size + 1]? = some (.cells #[.string { data := #[] }, .slice none 0 0] 98 (0, 0)) := (hb4.block _ (by omega)).trans r3
  have k4 : w4.heap[w.heap.size + 1 + 1]? = some (.cells #[.string p, .slice none 0 0] 98 (0, 0)) := (hb4.block _ (by omega)).trans k3
  have hb : Below w.heap.size w w4 := hb3.trans (hb4.mono (by omega))
  have ho2 := own_mono ho (A := w.heap.size + 1 + 1 + 1) (by omega)
  have h1 : w4.cell? ⟨w.heap.size + 1 + 1, 0, none⟩ = some (.string p) := cell_of_heap k4 0
  have h2 : w4.cell? ⟨w.heap.size + 1 + 1, 1, none⟩ = some (.slice none 0 0) := cell_of_heap k4 1
  have h3 : w4.frozen? ⟨w.heap.size + 1 + 1, 1, none⟩ = false := frozen_of_row _ _ _ _ _ k4
  have h4 : w4.cell? ⟨w.heap.size + 1, 0, none⟩ = some (.string { data := #[] }) := cell_of_heap r4 0
  have h5 : w4.cell? ⟨w.heap.size + 1, 1, none⟩ = some (.slice none 0 0) := cell_of_heap r4 1
  have h6 : w4.frozen? ⟨w.heap.size + 1, 0, none⟩ = false := frozen_of_row _ _ _ _ _ r4
  have h7 : w4.frozen? ⟨w.heap.size + 1, 1, none⟩ = false := frozen_of_row _ _ _ _ _ r4
  have HE : Hid ((((w4.setCell ⟨w.heap.size + 1 + 1, 1, none⟩ (.slice ua l.length uc)).setCell ⟨w.heap.size + 1, 0, none⟩ (.string p)).setCell ⟨w.heap.size + 1, 1, none⟩ (.slice ua l.length uc)).ownsRow w.heap.size 2 1 (.slice ua l.length uc) l.length (ints l)) :=
    Lib.hid (own_mono (own_far (own_far (own_far ho2 (by omega)) (by omega)) (by omega)) (by omega))
  have HR : Hid ((((w4.setCell ⟨w.heap.size + 1 + 1, 1, none⟩ (.slice ua l.length uc)).setCell ⟨w.heap.size + 1, 0, none⟩ (.string p)).setCell ⟨w.heap.size + 1, 1, none⟩ (.slice ua l.length uc)).heap[w.heap.size + 1]? = some (.cells #[.string p, .slice ua l.length uc] 98 (0, 0))) := Lib.hid (by
    have q1 := (heap_setCell_other w4 ⟨w.heap.size + 1 + 1, 1, none⟩ (w.heap.size + 1) (.slice ua l.length uc) (by simp)).trans r4
    have q2 := heap_setCell_same _ _ 0 _ _ (.string p) q1
    exact heap_setCell_same _ _ 1 _ _ (.slice ua l.length uc) q2)
  clear r2 k3 r3 r4 k4 ho ho2 hw1 hw2 hw3 hs1 hs2 hs3 hb1 hb2 hb3 hb4
  have HB : Hid (Below w.heap.size w (((w4.setCell ⟨w.heap.size + 1 + 1, 1, none⟩ (.slice ua l.length uc)).setCell ⟨w.heap.size + 1, 0, none⟩ (.string p)).setCell ⟨w.heap.size + 1, 1, none⟩ (.slice ua l.length uc))) :=
    Lib.hid (((hb.grown (grown_setCell _ _ _ _) hb.size (fun k h => by cases h; omega)).grown (grown_setCell _ _ _ _) (by simp; exact hb.size) (fun k h => by cases h; omega)).grown (grown_setCell _ _ _ _) (by simp; exact hb.size) (fun k h => by cases h; omega))
  clear hb
  go_wp2
  refine bodyPost_ret (results_cell_row rfl _ _ _ _ _ _ _ rfl HR.out Tryz.underlying98 rfl (by kernel_rfl)) rfl ⟨_, rfl, HE.out, HB.out⟩

set_option maxRecDepth 100000 in
set_option maxHeartbeats 800000 in
theorem toKnots_any (v : Value) (l : List KnotM) (w : World) (hl : l.length ≤ 4000000) (hs : ∀ x ∈ l, x.2.length ≤ 4000000) (hv : KnotsAt w v l) :
    Calls Tryz.prog 38 #[v] w fun e w' => ∃ u, e = .returned u ∧ KOwn w' w.heap.size u l ∧ Below w.heap.size w w' := by
  obtain ⟨a, c, rfl, hc1, hc2, hc3⟩ := hv
  have HC := Lib.hid hc3
  have HS := Lib.hid hs
  clear hc3 hs
  obtain ⟨i, hi1, hi2, hi3, hi4⟩ := info_parts (P := Tryz.prog) (e := 98) (z := .agg #[.string knotZ.1, .slice none 0 0]) (size := 2) (bytes := 40) (by kernel_rfl)
  go_enter Tryz.func38, Tryz.ntmps38
  go_wp2_with (first | (at_make; refine wpList_make_full _ rfl _ _ _ rfl w.heap.size 98 i (.agg #[.string knotZ.1, .slice none 0 0]) 2 (by kernel_rfl) hi1 hi2 hi3 _ _ _ _ l.length rfl rfl rfl rfl (by rw [hi4]; omega) (by unfold maxLen; omega) (Nat.le_refl _) ?_; intro w1 hown hgr))
  have H0 : Hid (KOwn w1 w.heap.size (.slice (some ⟨w.heap.size, 0, none⟩) l.length l.length) (l.take 0 ++ List.replicate (l.length - 0) knotZ)) := Lib.hid (by
    simp only [List.take_zero, List.nil_append, Nat.sub_zero]
    refine ⟨List.replicate l.length (.slice none 0 0), by simp, ?_, fun j h1 h2 => ?_, ?_⟩
    · rw [List.length_replicate, ← madeCells_two]; exact hown
    · simp only [List.getElem_replicate]; exact World.ownsRow_nil _ _ _ _
    · rw [List.pairwise_cons]
      exact ⟨fun a ha => by rw [List.eq_of_mem_replicate ha]; exact .inr (by intro h; cases h), List.pairwise_replicate.2 (.inr (.inl rfl))⟩)
  have H1 := Lib.hid ((Below.refl w.heap.size w).grown hgr (Nat.le_refl _) (fun k h => by cases h))
  clear hown hgr hi1 hi2 hi3 hi4
  obtain ⟨g, hg⟩ : ∃ g, w.heap.size = g := ⟨_, rfl⟩
  have HG := Lib.hid hg
  rw [hg] at H0 H1 ⊢
  clear hg
  go_loopw [4] (fun i wr => ∃ k : Nat, k ≤ l.length ∧ i = .int .i64 k ∧ Hid (KOwn wr g (.slice (some ⟨g, 0, none⟩) l.length l.length) (l.take k ++ List.replicate (l.length - k) knotZ)) ∧ Hid (Below g w wr)) (fun i _ => l.length - (intOf i).toNat)
  case atStart => exact ⟨0, Nat.zero_le _, rfl, H0, H1⟩
  case round =>
    obtain ⟨k, hk, rfl, HO, HB⟩ := hrel
    by_cases hlt : k < l.length
    · obtain ⟨b, o, rfl, hin⟩ : ∃ b o, a = some ⟨b, o, none⟩ ∧ KnotsIn w b o l := by
        rcases HC.out with h | h
        · subst h; simp at hlt
        · exact h
      have hinr := hin.below (show Below w.heap.size w wr by rw [HG.out]; exact HB.out)
      obtain ⟨hp, u0, hu0, hids⟩ := hinr k hlt
      have CT := Lib.hid (fun wx (h : IntsAt wx u0 l[k].2) => toKnot_any u0 l[k] wx (HS.out _ (List.getElem_mem hlt)) h)
      have HI := Lib.hid hids
      obtain ⟨ua, uc, rfl, _, _, _⟩ := hids
      obtain ⟨us, hus⟩ := HO.out
      have hlen : (l.take k ++ List.replicate (l.length - k) knotZ).length = l.length := by simp; omega
      have HU := Lib.hid hus
      obtain ⟨x, hx⟩ : ∃ x, l[k] = x := ⟨_, rfl⟩
      have HN := Lib.hid (take_next l knotZ l.length k rfl hlt)
      rw [hx] at hp hu0 CT HI HN
      clear hinr hin hus hx HO
      go_wp2_with fail
      refine (CT.out _ HI.out).mono ?_
      rintro e w2 ⟨u, rfl, ho, hb2⟩
      obtain ⟨xa, xc, hxu⟩ := own_slice ho
      subst hxu
      have hgr : g ≤ wr.heap.size := by have := HB.out.size; rw [HG.out] at this; exact this
      have hU2 := HU.out.below hb2
      have hgB : Below g w w2 := HB.out.trans (hb2.mono hgr)
      have hP := hU2.put (x := x) (k := k) hlen.symm (by rw [hlen]; exact hlt) (own_mono ho hgr) (fun y hy b hb => (HU.out.lt y hy b hb).2) (fun b hb => (ho.lt b hb).1)
      rw [HN.out] at hP
      have HP := Lib.hid (show KOwn _ _ _ _ from ⟨_, hP⟩)
      have hrow := hU2.2.1
      rw [hlen] at hrow
      have HB3 := Lib.hid ((hgB.grown (grown_setCell w2 g (k * 2) (.string x.1)) (HG.out ▸ hgB.size) (fun k h => by cases h; exact Nat.le_refl _)).grown (grown_setCell _ g (k * 2 + 1) (.slice xa x.2.length xc)) (by simp; exact HG.out ▸ hgB.size) (fun k h => by cases h; exact Nat.le_refl _))
      have f0 := hrow.frozenAt (k * 2)
      have f1 := hrow.frozenAt (k * 2 + 1)
      obtain ⟨z0, c0⟩ : ∃ u, w2.cell? ⟨g, k * 2, none⟩ = some u := ⟨_, (hrow.cellAt _ (by omega)).trans (List.getElem?_eq_getElem (by rw [hrow.1]; omega))⟩
      obtain ⟨z1, c1⟩ : ∃ u, w2.cell? ⟨g, k * 2 + 1, none⟩ = some u := ⟨_, (hrow.cellAt _ (by omega)).trans (List.getElem?_eq_getElem (by rw [hrow.1]; omega))⟩
      clear ho hb2 hU2 hgB hP hrow HN HU HI HB hp hu0
      go_wp2
      go_roundw
      case rel => exact ⟨k + 1, by omega, by go_num, HP, HB3⟩
      case measure => simp [intOf]; omega
    · obtain rfl : k = l.length := by omega
      have HE : Hid (KOwn wr w.heap.size (.slice (some ⟨g, 0, none⟩) l.length l.length) l) := Lib.hid (by have := HO.out; simp only [List.take_length, Nat.sub_self, List.replicate_zero, List.append_nil] at this; rw [HG.out]; exact this)
      have HB2 : Hid (Below w.heap.size w wr) := Lib.hid (by rw [HG.out]; exact HB.out)
      go_wp2
      go_ret
      exact ⟨_, rfl, HE.out, HB2.out⟩

end Go.Proofs.YtmfbffhbgelnnaaGreatDoor

/- A row read whole in a region that draws. Of no program. -/
namespace Go.Proofs.YtmfbffhbgelnnaaGreatDoor
open Go.RowKit

theorem range_of_heap {w : World} {g : Nat} {cs : List Value} {T : TypeId} {fz : Nat × Nat} (h : w.heap[g]? = some (.cells cs.toArray T fz)) : w.rangeAt g 0 cs := fun j v hj => by
  rw [Nat.zero_add]
  exact (cell_of_heap h j).trans (by simpa using hj)

end Go.Proofs.YtmfbffhbgelnnaaGreatDoor

/- A row that is set whole: what has changed. Of no program. -/
namespace Go.Proofs.YtmfbffhbgelnnaaGreatDoor
open Go.RowKit

theorem grown_setRow (w : World) (g : Nat) (cs : Array Value) : w.grownBy (w.setRow g cs) (some g) := by
  refine ⟨rfl, rfl, rfl, by simp [World.setRow], fun k _ hne => ?_⟩
  have : ¬ g = k := fun e => hne (by rw [e])
  simp [World.setRow, Array.getElem?_modify, this]

theorem setRow_heap {w : World} {g : Nat} {old : Array Value} {T : TypeId} (cs : Array Value) (h : w.heap[g]? = some (.cells old T (0, 0))) :
    (w.setRow g cs).heap[g]? = some (.cells cs T (0, 0)) := by
  simp [World.setRow, Array.getElem?_modify, h]

theorem below_of_grown {a b : World} {n g : Nat} (hg : a.grownBy b (some g)) (h : n ≤ g) (hn : n ≤ a.heap.size) : Below n a b :=
  ⟨hg.os, hg.tape, hg.output, hg.size, fun i hi => hg.block i (by omega) (fun e => by cases e; omega)⟩

theorem own_grownN {w w' : World} {B n size g : Nat} {E : TypeId} {v : Value} {xs : List Value} (h : w.ownsRow B E size v n xs) (hg : g < B) (hw : w.grownBy w' (some g)) : w'.ownsRow B E size v n xs :=
  h.kept hw (by
    cases e : v.ownBlock with
    | none => exact .inl rfl
    | some k => exact .inr (by have := (h.lt k e).1; intro e2; cases e2; omega))

theorem results_row_tmp {P : Program} {fn : Func} {p u : Tmp} {ty : TypeId} (h : fn.results = #[.cell p ty, .tmp u]) (tmps : Array Value) (w : World) (g : Nat) (t : TypeId) (cs : Array Value) (fr : Nat × Nat) (d : TypeDesc)
    (hp : tmps.getD p undef = .pointer (some ⟨g, 0, none⟩)) (hg : w.heap[g]? = some (.cells cs t fr))
    (hu : P.underlying ty = some d) (hd : (match d with | .struct _ | .array _ _ => true | _ => false) = true) (hi : (P.info? ty).map (·.size) = some cs.size) :
    (results fn tmps).run P w = .ok (.tuple #[.agg cs, tmps.getD u undef]) w := by
  rw [results_cell_tmp h, hp]
  simp [asAddr, run_loadVar_row w g t ty cs fr d hg hu hd hi, Result.andThen]

end Go.Proofs.YtmfbffhbgelnnaaGreatDoor

/- The walk of the reference's NewTrie. -/
namespace Go.Proofs.YtmfbffhbgelnnaaGreatDoor
open Go.RowKit

theorem specNewTrie_any (w : World) :
    Calls Tryz.prog 32 #[] w fun e w' => ∃ u, e = .returned u ∧ KOwn w' w.heap.size u [knotZ] ∧ Below w.heap.size w w' := by
  have HO := Lib.hid (World.ownsRow_lit (base := w.heap.size) (e := 98) (size := 2) w #[.string knotZ.1, .slice none 0 0] 1 (Nat.le_refl _) (by unfold maxLen; omega) rfl)
  go_enter Tryz.func32, Tryz.ntmps32
  go_wp2
  go_ret
  exact ⟨_, rfl, ⟨[.slice none 0 0], rfl, HO.out, fun j h1 h2 => by
    obtain rfl : j = 0 := by simpa using h1
    exact World.ownsRow_nil _ _ _ _, by
    rw [List.pairwise_cons]
    exact ⟨fun a ha => by rw [List.mem_singleton.1 ha]; exact .inr (by intro h; cases h), List.pairwise_singleton _ _⟩⟩, (Below.refl _ _).alloc (Nat.le_refl _) _⟩

end Go.Proofs.YtmfbffhbgelnnaaGreatDoor

/- Plain mathematics of chapter 2, as a walk over two lists side by side tells it. -/
namespace Go.Proofs.YtmfbffhbgelnnaaGreatDoor

/-- Does a part cover another? -/
def partC (p q : ByteArray) : Bool := if isPlus p then isPlus q || isWord q else alike p q

/-- What pairs tell, in order. -/
def runC : List (ByteArray × ByteArray) → Bool
  | [] => true
  | x :: r => isHash x.1 || (partC x.1 x.2 && runC r)

/-- Part k of a list; the empty text behind its end. -/
def partQ (L : List ByteArray) (k : Nat) : ByteArray := L.getD k ⟨#[]⟩

/-- The first k pairs. -/
def uptoP (F T : List ByteArray) (k : Nat) : List (ByteArray × ByteArray) := (List.range k).map fun j => (partQ F j, partQ T j)

theorem uptoP_succ (F T : List ByteArray) (k : Nat) : uptoP F T (k + 1) = uptoP F T k ++ [(partQ F k, partQ T k)] := by simp [uptoP, List.range_succ]
theorem uptoP_len (F T : List ByteArray) (k : Nat) : (uptoP F T k).length = k := by simp [uptoP]

theorem partQ_tail (L : List ByteArray) (k : Nat) : partQ L (k + 1) = partQ L.tail k := by
  cases L <;> simp [partQ]

theorem uptoP_cons (F T : List ByteArray) (k : Nat) : uptoP F T (k + 1) = (partQ F 0, partQ T 0) :: uptoP F.tail T.tail k := by
  simp [uptoP, List.range_succ_eq_map, partQ_tail]

theorem uptoP_prefix (F T : List ByteArray) {k n : Nat} (h : k ≤ n) : ∃ r, uptoP F T n = uptoP F T k ++ r := by
  obtain ⟨d, rfl⟩ := Nat.le.dest h
  induction d with
  | zero => exact ⟨[], by simp⟩
  | succ d ih =>
    obtain ⟨r, hr⟩ := ih (by omega)
    exact ⟨r ++ [(partQ F (k + d), partQ T (k + d))], by rw [← Nat.add_assoc, uptoP_succ, hr, List.append_assoc]⟩

theorem nil_toList : (⟨#[]⟩ : ByteArray).toList = [] := by rw [Go.ByteArray.toList_eq]
theorem nil_hash : isHash ⟨#[]⟩ = false := by rw [isHash, nil_toList]; rfl
theorem nil_plus : isPlus ⟨#[]⟩ = false := by rw [isPlus, nil_toList]; rfl
theorem nil_word : isWord ⟨#[]⟩ = false := by rfl

theorem hash_word {q : ByteArray} (h : isHash q = true) : isWord q = false := by
  have h2 : q.data.toList = [35] := by
    have := h
    rw [isHash, Go.ByteArray.toList_eq] at this
    simpa using this
  unfold isWord lowAll
  rw [h2]; rfl

theorem hash_plus {q : ByteArray} (h : isHash q = true) : isPlus q = false := by
  have h2 : q.toList = [35] := by simpa [isHash] using h
  rw [isPlus, h2]; rfl

theorem word_some {q : ByteArray} (h : isWord q = true) : q.toList ≠ [] := by
  intro e
  rw [Go.ByteArray.toList_eq] at e
  have h2 : q.size = 0 := by
    have : q.data.toList.length = 0 := by rw [e]; rfl
    simpa using this
  unfold isWord at h
  simp [h2] at h

theorem hash_alike {p q : ByteArray} (h : alike p q = true) : isHash q = isHash p := by
  simp only [alike, beq_iff_eq] at h
  rw [isHash, isHash, h]

/-- A part that may stand in a filter. -/
def goodF (q : ByteArray) : Prop := q.toList ≠ [] ∧ (isHash q || isPlus q || isWord q) = true

theorem goodF_word {q : ByteArray} (h : isWord q = true) : goodF q := ⟨word_some h, by rw [h]; simp⟩

theorem goodF_of {p : ByteArray} {b : Bool} (h : partF p b = true) : goodF p := by
  unfold partF at h
  cases hw : isWord p
  · rw [hw] at h
    cases hp : isPlus p
    · have hp2 : (p.toList == [43]) = false := hp
      rw [hp2] at h
      have h2 : isHash p = true := by simp [isHash] at h ⊢; exact h.2
      exact ⟨by have : p.toList = [35] := by simpa [isHash] using h2
                rw [this]; simp, by rw [h2]; rfl⟩
    · exact ⟨by have : p.toList = [43] := by simpa [isPlus] using hp
                rw [this]; simp, by rw [hp]; simp⟩
  · exact goodF_word hw

theorem filterP_good {F : List ByteArray} (h : filterP F = true) : ∀ p ∈ F, goodF p := by
  intro p hp
  obtain ⟨i, hi, rfl⟩ := List.getElem_of_mem hp
  unfold filterP at h
  rw [Bool.and_eq_true] at h
  have h2 := h.2
  unfold filterTo at h2
  rw [List.all_eq_true] at h2
  have h3 := h2 i (by simpa using hi)
  have h4 : F.getD i ByteArray.empty = F[i] := by simp [hi]
  rw [h4] at h3
  exact goodF_of h3

theorem topicP_good {T : List ByteArray} (h : topicP T = true) : ∀ q ∈ T, isWord q = true := by
  unfold topicP at h
  rw [Bool.and_eq_true, List.all_eq_true] at h
  exact h.2

theorem nil_alike {q : ByteArray} (h : q.toList ≠ []) : alike ⟨#[]⟩ q = false := by
  rw [alike, nil_toList]
  cases e : q.toList
  · exact absurd e h
  · rfl

theorem alike_nil {q : ByteArray} (h : q.toList ≠ []) : alike q ⟨#[]⟩ = false := by
  rw [alike, nil_toList]
  cases e : q.toList
  · exact absurd e h
  · rfl

theorem partC_nilL {q : ByteArray} (h : q.toList ≠ []) : partC ⟨#[]⟩ q = false := by
  unfold partC; rw [nil_plus, nil_alike h]; rfl

theorem partC_nilR {q : ByteArray} (h : q.toList ≠ []) : partC q ⟨#[]⟩ = false := by
  unfold partC; rw [nil_plus, nil_word, alike_nil h]; cases isPlus q <;> rfl

theorem runC_cover : ∀ F T : List ByteArray, (∀ p ∈ F, goodF p) → (∀ q ∈ T, goodF q) → runC (uptoP F T (max F.length T.length)) = coverP F T
  | [], [], _, _ => rfl
  | [], q :: T, _, hT => by
    have hq := hT q (by simp)
    rw [List.length_nil, List.length_cons, Nat.zero_max, uptoP_cons, runC, coverP]
    show (isHash ⟨#[]⟩ || (partC ⟨#[]⟩ q && _)) = false
    rw [nil_hash, partC_nilL hq.1]; rfl
  | p :: F, [], hF, _ => by
    have hp := hF p (by simp)
    rw [List.length_nil, List.length_cons, Nat.max_zero, uptoP_cons, runC, coverP]
    show (isHash p || (partC p ⟨#[]⟩ && _)) = isHash p
    rw [partC_nilR hp.1]; cases isHash p <;> rfl
  | p :: F, q :: T, hF, hT => by
    have hq := hT q (by simp)
    have ih := runC_cover F T (fun x hx => hF x (by simp [hx])) (fun x hx => hT x (by simp [hx]))
    rw [List.length_cons, List.length_cons, Nat.succ_max_succ, uptoP_cons, runC, coverP]
    show (isHash p || (partC p q && runC (uptoP F T _))) = _
    rw [ih]
    cases hp : isHash p
    · unfold partC
      cases hpp : isPlus p
      · cases ha : alike p q
        · simp
        · rw [hash_alike ha, hp]; rfl
      · cases hh : isHash q
        · have := hq.2; rw [hh] at this
          simp at this ⊢
          rcases this with h | h <;> simp [h]
        · rw [hash_word hh, hash_plus hh]; rfl
    · rfl

theorem runC_match : ∀ F T : List ByteArray, (∀ p ∈ F, goodF p) → (∀ q ∈ T, isWord q = true) → runC (uptoP F T (max F.length T.length)) = matchP F T
  | [], [], _, _ => rfl
  | [], q :: T, _, hT => by
    have hq := goodF_word (hT q (by simp))
    rw [List.length_nil, List.length_cons, Nat.zero_max, uptoP_cons, runC, matchP]
    show (isHash ⟨#[]⟩ || (partC ⟨#[]⟩ q && _)) = false
    rw [nil_hash, partC_nilL hq.1]; rfl
  | p :: F, [], hF, _ => by
    have hp := hF p (by simp)
    rw [List.length_nil, List.length_cons, Nat.max_zero, uptoP_cons, runC, matchP]
    show (isHash p || (partC p ⟨#[]⟩ && _)) = isHash p
    rw [partC_nilR hp.1]; cases isHash p <;> rfl
  | p :: F, q :: T, hF, hT => by
    have hq := hT q (by simp)
    have ih := runC_match F T (fun x hx => hF x (by simp [hx])) (fun x hx => hT x (by simp [hx]))
    rw [List.length_cons, List.length_cons, Nat.succ_max_succ, uptoP_cons, runC, matchP]
    show (isHash p || (partC p q && runC (uptoP F T _))) = _
    rw [ih]
    unfold partC
    cases isHash p <;> cases isPlus p <;> simp [hq]

theorem runC_step (pre : List (ByteArray × ByteArray)) (x : ByteArray × ByteArray) (h : ∀ r, runC (pre ++ r) = runC r) (hh : isHash x.1 = false) (hp : partC x.1 x.2 = true) : ∀ r, runC ((pre ++ [x]) ++ r) = runC r := by
  intro r
  rw [List.append_assoc, h]
  show (isHash x.1 || (partC x.1 x.2 && runC r)) = runC r
  rw [hh, hp]; rfl

theorem runC_yes (pre : List (ByteArray × ByteArray)) (x : ByteArray × ByteArray) (h : ∀ r, runC (pre ++ r) = runC r) (hh : isHash x.1 = true) : ∀ r, runC ((pre ++ [x]) ++ r) = true := by
  intro r
  rw [List.append_assoc, h]
  show (isHash x.1 || (partC x.1 x.2 && runC r)) = true
  rw [hh]; rfl

theorem runC_no (pre : List (ByteArray × ByteArray)) (x : ByteArray × ByteArray) (h : ∀ r, runC (pre ++ r) = runC r) (hh : isHash x.1 = false) (hp : partC x.1 x.2 = false) : ∀ r, runC ((pre ++ [x]) ++ r) = false := by
  intro r
  rw [List.append_assoc, h]
  show (isHash x.1 || (partC x.1 x.2 && runC r)) = false
  rw [hh, hp]; rfl

end Go.Proofs.YtmfbffhbgelnnaaGreatDoor

/- A run of cells that is set: what has changed. Of no program. -/
namespace Go.Proofs.YtmfbffhbgelnnaaGreatDoor
open Go.RowKit

/-- A list with a run of its places set. -/
def setL {α : Type} (xs : List α) : Nat → List α → List α
  | _, [] => xs
  | o, v :: r => setL (xs.set o v) (o + 1) r
def setA (xs : Array Value) : Nat → List Value → Array Value
  | _, [] => xs
  | o, v :: r => setA (xs.setIfInBounds o v) (o + 1) r

theorem setL_length {α : Type} : ∀ (r : List α) (xs : List α) (o : Nat), (setL xs o r).length = xs.length
  | [], _, _ => rfl
  | v :: r, xs, o => by rw [setL, setL_length r]; simp
theorem setL_out {α : Type} : ∀ (r : List α) (xs : List α) (o i : Nat), (i < o ∨ o + r.length ≤ i) → (setL xs o r)[i]? = xs[i]?
  | [], _, _, _, _ => rfl
  | v :: r, xs, o, i, h => by
    rw [setL, setL_out r _ _ _ (by simp only [List.length_cons] at h; omega), List.getElem?_set_ne (by simp only [List.length_cons] at h; omega)]
theorem setL_in {α : Type} : ∀ (r : List α) (xs : List α) (o i : Nat), i < r.length → o + r.length ≤ xs.length → (setL xs o r)[o + i]? = r[i]?
  | v :: r, xs, o, 0, _, h => by
    rw [setL, setL_out r _ _ _ (by omega), Nat.add_zero, List.getElem?_set_self (by simp only [List.length_cons] at h; omega)]; rfl
  | v :: r, xs, o, i + 1, hi, h => by
    rw [setL, show o + (i + 1) = o + 1 + i by omega, setL_in r _ _ _ (by simpa using hi) (by simp only [List.length_cons] at h; rw [List.length_set]; omega)]; rfl

theorem grown_setCells (g : Nat) : ∀ (vs : List Value) (o : Nat) (w : World), w.grownBy (w.setCells g o vs) (some g)
  | [], _, w => ⟨rfl, rfl, rfl, Nat.le_refl _, fun _ _ _ => rfl⟩
  | v :: r, o, w => by
    have h1 := grown_setCell w g o v
    have h2 := grown_setCells g r (o + 1) (w.setCell ⟨g, o, none⟩ v)
    rw [World.setCells]
    exact ⟨h2.os.trans h1.os, h2.tape.trans h1.tape, h2.output.trans h1.output, Nat.le_trans h1.size h2.size, fun k hk hne => (h2.block k (Nat.lt_of_lt_of_le hk h1.size) hne).trans (h1.block k hk hne)⟩
theorem heap_setCells (g : Nat) (T : TypeId) : ∀ (vs : List Value) (o : Nat) (w : World) (cs : Array Value), w.heap[g]? = some (.cells cs T (0, 0)) → (w.setCells g o vs).heap[g]? = some (.cells (setA cs o vs) T (0, 0))
  | [], _, _, _, h => h
  | v :: r, o, w, cs, h => by
    rw [World.setCells, setA]
    exact heap_setCells g T r (o + 1) _ _ (heap_setCell_same _ _ o _ _ v h)
theorem own_setCells {B size g n c : Nat} {E : TypeId} : ∀ (vs : List Value) (o : Nat) {w : World} {xs : List Value}, w.ownsRow B E size (.slice (some ⟨g, 0, none⟩) n c) n xs → (w.setCells g o vs).ownsRow B E size (.slice (some ⟨g, 0, none⟩) n c) n (setL xs o vs)
  | [], _, _, _, h => h
  | v :: r, o, w, xs, h => by
    rw [World.setCells, setL]
    exact own_setCells r (o + 1) (h.stored o v).1
/-- A whole block may be written. -/
theorem there_of_heap {w : World} {g : Nat} {cs : Array Value} {T : TypeId} (h : w.heap[g]? = some (.cells cs T (0, 0))) {o n : Nat} (hn : o + n ≤ cs.size) : w.there g o n := fun j hj =>
  ⟨by rw [cell_of_row w g (o + j) cs T (0, 0) h, Array.getElem?_eq_getElem (by omega)]; rfl, frozen_of_row _ _ _ _ _ h⟩
theorem there_of_own {w : World} {B size g n c m : Nat} {E : TypeId} {xs : List Value} (h : w.ownsRow B E size (.slice (some ⟨g, 0, none⟩) n c) n xs) {o : Nat} (hn : o + m ≤ xs.length) : w.there g o m := fun j hj =>
  ⟨by rw [h.cellAt (o + j) (by have := h.1; omega), List.getElem?_eq_getElem (by omega)]; rfl, h.frozenAt (o + j)⟩
theorem own_keptC {w w' : World} {B n size g : Nat} {E : TypeId} {v : Value} {xs : List Value} (h : w.ownsRow B E size v n xs) (hg : w.grownBy w' (some g)) (hne : v.ownBlock ≠ some g) : w'.ownsRow B E size v n xs :=
  h.kept hg (.inr hne)

end Go.Proofs.YtmfbffhbgelnnaaGreatDoor

/- The library contract of strings.Split, laid at this translation: a table of numbers, one fact a field, one application. -/
namespace Go.Proofs
open Go.Shelf
def Tryz.lays106_ren : Go.Shelf.Ren := ⟨fun | 106 => 183 | 213 => 190 | 265 => 196 | n => n, fun | 9 => 9 | 3 => 3 | n => n, fun | n => n⟩
theorem Tryz.lays106 : Go.Proofs.Lays.n106 Tryz.prog Tryz.lays106_ren := {
  mixed := by kernel_rfl
  f106 := Tryz.func183.trans (congrArg some (by kernel_rfl))
  f213 := Tryz.func190.trans (congrArg some (by kernel_rfl))
  f265 := Tryz.func196.trans (congrArg some (by kernel_rfl))
  t3 := Tryz.underlying3
  a3 := Tryz.isAgg3
  z3 := Tryz.sizeOf3
  v3 := Tryz.zeroValue3
  t9 := Tryz.underlying9
  a9 := Tryz.isAgg9
  z9 := Tryz.sizeOf9
  v9 := Tryz.zeroValue9 }
open Go.RowKit in
theorem Tryz.strings_Compare (a b : ByteArray) (w : World) :
    Calls Tryz.prog 183 #[.string a, .string b] w fun e w' => e = .returned (.int .i64 (Lib.compareBytes a.data.toList b.data.toList)) ∧ w' = w := Any.strings_Compare Tryz.lays106 a b w
def Tryz.lays146_ren : Go.Shelf.Ren := ⟨fun | 146 => 126 | 221 => 144 | 268 => 170 | 138 => 171 | 143 => 172 | 195 => 184 | 197 => 185 | 218 => 186 | 219 => 187 | 260 => 191 | 217 => 192 | 225 => 193 | 224 => 194 | 267 => 195 | 266 => 197 | 314 => 198 | n => n, fun | 9 => 9 | 31 => 99 | 3 => 3 | 4 => 4 | 0 => 0 | 105 => 204 | 21 => 21 | 5 => 5 | 46 => 151 | 119 => 212 | 139 => 215 | 138 => 214 | 146 => 216 | 51 => 171 | n => n, fun | 1 => 0 | 3 => 1 | 4 => 2 | n => n⟩
theorem Tryz.lays146 : Go.Proofs.Lays.n146 Tryz.prog Tryz.lays146_ren := {
  mixed := by kernel_rfl
  f138 := Tryz.func171.trans (congrArg some (by kernel_rfl))
  f143 := Tryz.func172.trans (congrArg some (by kernel_rfl))
  f146 := Tryz.func126.trans (congrArg some (by kernel_rfl))
  f195 := Tryz.func184.trans (congrArg some (by kernel_rfl))
  f197 := Tryz.func185.trans (congrArg some (by kernel_rfl))
  f217 := Tryz.func192.trans (congrArg some (by kernel_rfl))
  f218 := Tryz.func186.trans (congrArg some (by kernel_rfl))
  f219 := Tryz.func187.trans (congrArg some (by kernel_rfl))
  f221 := Tryz.func144.trans (congrArg some (by kernel_rfl))
  f224 := Tryz.func194.trans (congrArg some (by kernel_rfl))
  f225 := Tryz.func193.trans (congrArg some (by kernel_rfl))
  f260 := Tryz.func191.trans (congrArg some (by kernel_rfl))
  f266 := Tryz.func197.trans (congrArg some (by kernel_rfl))
  f267 := Tryz.func195.trans (congrArg some (by kernel_rfl))
  f268 := Tryz.func170.trans (congrArg some (by kernel_rfl))
  f314 := Tryz.func198.trans (congrArg some (by kernel_rfl))
  t0 := Tryz.underlying0
  a0 := Tryz.isAgg0
  z0 := Tryz.sizeOf0
  v0 := Tryz.zeroValue0
  t3 := Tryz.underlying3
  a3 := Tryz.isAgg3
  z3 := Tryz.sizeOf3
  v3 := Tryz.zeroValue3
  t4 := Tryz.underlying4
  a4 := Tryz.isAgg4
  z4 := Tryz.sizeOf4
  v4 := Tryz.zeroValue4
  t5 := Tryz.underlying5
  a5 := Tryz.isAgg5
  z5 := Tryz.sizeOf5
  v5 := Tryz.zeroValue5
  t9 := Tryz.underlying9
  a9 := Tryz.isAgg9
  z9 := Tryz.sizeOf9
  v9 := Tryz.zeroValue9
  t21 := Tryz.underlying21
  a21 := Tryz.isAgg21
  z21 := Tryz.sizeOf21
  v21 := Tryz.zeroValue21
  t31 := Tryz.underlying99
  a31 := Tryz.isAgg99
  z31 := Tryz.sizeOf99
  v31 := Tryz.zeroValue99
  t46 := Tryz.underlying151
  a46 := Tryz.isAgg151
  z46 := Tryz.sizeOf151
  v46 := Tryz.zeroValue151
  t51 := Tryz.underlying171
  a51 := Tryz.isAgg171
  z51 := Tryz.sizeOf171
  v51 := Tryz.zeroValue171
  t105 := Tryz.underlying204
  a105 := Tryz.isAgg204
  z105 := Tryz.sizeOf204
  v105 := Tryz.zeroValue204
  t119 := Tryz.underlying212
  a119 := Tryz.isAgg212
  z119 := Tryz.sizeOf212
  t138 := Tryz.underlying214
  a138 := Tryz.isAgg214
  z138 := Tryz.sizeOf214
  v138 := Tryz.zeroValue214
  t139 := Tryz.underlying215
  a139 := Tryz.isAgg215
  z139 := Tryz.sizeOf215
  v139 := Tryz.zeroValue215
  t146 := Tryz.underlying216
  a146 := Tryz.isAgg216
  z146 := Tryz.sizeOf216
  v146 := Tryz.zeroValue216
  g1 := by kernel_rfl
  g3 := by kernel_rfl
  g4 := by kernel_rfl }
open Go.RowKit Go.Lib in
theorem Tryz.strings_Split (s sep : ByteArray) (m : Int) (w : World) (hs : s.size < 4294967281) (hm : w.cell? ⟨0, 0, none⟩ = some (.int .i64 m)) (h1 : 1 ≤ sep.size) :
    Calls Tryz.prog 126 #[.string s, .string sep] w fun e w' =>
      e = .returned (.slice (some ⟨w.heap.size, 0, none⟩) (Lib.countB s sep + 1) (Lib.countB s sep + 1)) ∧ w' = w.alloc (.cells ((Lib.splitB sep 0 (Lib.countB s sep) s).map Value.string).toArray 9) := Any.strings_Split Tryz.lays146 (by kernel_rfl) s sep m w hs hm h1
end Go.Proofs

/- slices.SortFunc at places, laid at this translation: a table of numbers, one fact a field. -/
namespace Go.Proofs
open Go.Shelf
def Tryz.sortP_ren : Go.Shelf.Ren := ⟨fun | 6 => 103 | 15 => 128 | 14 => 129 | 28 => 154 | 29 => 155 | 20 => 156 | 21 => 157 | 22 => 158 | 23 => 159 | 24 => 160 | 25 => 161 | 26 => 162 | 27 => 163 | 46 => 178 | 47 => 174 | 48 => 175 | 49 => 179 | 50 => 180 | 57 => 189 | n => n, fun | 22 => 83 | 24 => 115 | 25 => 128 | 3 => 3 | 39 => 151 | 0 => 0 | 53 => 171 | 55 => 173 | 4 => 4 | 46 => 164 | 45 => 163 | 50 => 168 | 5 => 5 | 9 => 9 | 66 => 186 | 70 => 190 | 76 => 207 | 77 => 208 | n => n, fun | n => n⟩
theorem Tryz.sortP : Go.Proofs.SlLaysF0.n6 Tryz.prog Tryz.sortP_ren := {
  mixed := by kernel_rfl
  f6 := ⟨Tryz.f103.name, by decide, Tryz.func103.trans (congrArg some (by kernel_rfl))⟩
  f14 := ⟨Tryz.f129.name, by decide, Tryz.func129.trans (congrArg some (by kernel_rfl))⟩
  f15 := Tryz.func128.trans (congrArg some (by kernel_rfl))
  f20 := ⟨Tryz.f156.name, by decide, Tryz.func156.trans (congrArg some (by kernel_rfl))⟩
  f21 := ⟨Tryz.f157.name, by decide, Tryz.func157.trans (congrArg some (by kernel_rfl))⟩
  f22 := ⟨Tryz.f158.name, by decide, Tryz.func158.trans (congrArg some (by kernel_rfl))⟩
  f23 := ⟨Tryz.f159.name, by decide, Tryz.func159.trans (congrArg some (by kernel_rfl))⟩
  f24 := ⟨Tryz.f160.name, by decide, Tryz.func160.trans (congrArg some (by kernel_rfl))⟩
  f25 := ⟨Tryz.f161.name, by decide, Tryz.func161.trans (congrArg some (by kernel_rfl))⟩
  f26 := ⟨Tryz.f162.name, by decide, Tryz.func162.trans (congrArg some (by kernel_rfl))⟩
  f27 := ⟨Tryz.f163.name, by decide, Tryz.func163.trans (congrArg some (by kernel_rfl))⟩
  f28 := Tryz.func154.trans (congrArg some (by kernel_rfl))
  f29 := Tryz.func155.trans (congrArg some (by kernel_rfl))
  f46 := ⟨Tryz.f178.name, by decide, Tryz.func178.trans (congrArg some (by kernel_rfl))⟩
  f47 := Tryz.func174.trans (congrArg some (by kernel_rfl))
  f48 := Tryz.func175.trans (congrArg some (by kernel_rfl))
  f49 := ⟨Tryz.f179.name, by decide, Tryz.func179.trans (congrArg some (by kernel_rfl))⟩
  f50 := ⟨Tryz.f180.name, by decide, Tryz.func180.trans (congrArg some (by kernel_rfl))⟩
  f57 := ⟨Tryz.f189.name, by decide, Tryz.func189.trans (congrArg some (by kernel_rfl))⟩
  t0 := Tryz.underlying0
  a0 := Tryz.isAgg0
  z0 := Tryz.sizeOf0
  v0 := Tryz.zeroValue0
  t3 := Tryz.underlying3
  a3 := Tryz.isAgg3
  z3 := Tryz.sizeOf3
  v3 := Tryz.zeroValue3
  t4 := Tryz.underlying4
  a4 := Tryz.isAgg4
  z4 := Tryz.sizeOf4
  v4 := Tryz.zeroValue4
  t5 := Tryz.underlying5
  a5 := Tryz.isAgg5
  z5 := Tryz.sizeOf5
  v5 := Tryz.zeroValue5
  t9 := Tryz.underlying9
  a9 := Tryz.isAgg9
  z9 := Tryz.sizeOf9
  v9 := Tryz.zeroValue9
  t22 := Tryz.underlying83
  a22 := Tryz.isAgg83
  z22 := Tryz.sizeOf83
  v22 := Tryz.zeroValue83
  t25 := Tryz.underlying128
  a25 := Tryz.isAgg128
  z25 := Tryz.sizeOf128
  v25 := Tryz.zeroValue128
  t39 := Tryz.underlying151
  a39 := Tryz.isAgg151
  z39 := Tryz.sizeOf151
  v39 := Tryz.zeroValue151
  t45 := Tryz.underlying163
  a45 := Tryz.isAgg163
  z45 := Tryz.sizeOf163
  v45 := Tryz.zeroValue163
  t46 := Tryz.underlying164
  a46 := Tryz.isAgg164
  z46 := Tryz.sizeOf164
  v46 := Tryz.zeroValue164
  t50 := Tryz.underlying168
  a50 := Tryz.isAgg168
  z50 := Tryz.sizeOf168
  v50 := Tryz.zeroValue168
  t53 := Tryz.underlying171
  a53 := Tryz.isAgg171
  z53 := Tryz.sizeOf171
  v53 := Tryz.zeroValue171
  t55 := Tryz.underlying173
  a55 := Tryz.isAgg173
  z55 := Tryz.sizeOf173
  v55 := Tryz.zeroValue173
  t66 := Tryz.underlying186
  a66 := Tryz.isAgg186
  z66 := Tryz.sizeOf186
  v66 := Tryz.zeroValue186
  t70 := Tryz.underlying190
  a70 := Tryz.isAgg190
  z70 := Tryz.sizeOf190
  v70 := Tryz.zeroValue190
  t76 := Tryz.underlying207
  a76 := Tryz.isAgg207
  z76 := Tryz.sizeOf207
  v76 := Tryz.zeroValue207
  t77 := Tryz.underlying208
  a77 := Tryz.isAgg208
  z77 := Tryz.sizeOf208
  v77 := Tryz.zeroValue208 }
end Go.Proofs
