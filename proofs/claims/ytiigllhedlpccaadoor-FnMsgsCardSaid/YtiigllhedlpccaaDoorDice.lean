/- The walks of the laws' dice: a number from 0 to n - 1, whatever it be; of what was there nothing turns but the dice's own block. -/
import Derived.Test.YtiigllhedlpccaaDoorSTopic
import Derived.BigQuiet
import Derived.Deep.QuietTactic
namespace Go.Proofs.YtiigllhedlpccaaDoor
open Go.RowKit

theorem and_u64 (x : Int) (M : Nat) (hM : M < 2147483648) : 0 ≤ bits .and .u64 x (M : Int) ∧ bits .and .u64 x (M : Int) ≤ M := by
  have e : bits .and .u64 x (M : Int) = IntKind.u64.wrap ((BitVec.ofInt 64 x &&& BitVec.ofInt 64 (M : Int)).toNat : Int) := rfl
  have h2 : (BitVec.ofInt 64 (M : Int)).toNat = M := by
    rw [BitVec.ofInt_natCast, BitVec.toNat_ofNat]; exact Nat.mod_eq_of_lt (by omega)
  have h3 : (BitVec.ofInt 64 x).toNat &&& M ≤ M := Nat.and_le_right
  rw [e, BitVec.toNat_and, h2, IntKind.wrap_u64]
  omega

theorem and_i64 (x : Int) (M : Nat) (hM : M < 2147483648) : 0 ≤ bits .and .i64 x (M : Int) ∧ bits .and .i64 x (M : Int) ≤ M := by
  have e : bits .and .i64 x (M : Int) = IntKind.i64.wrap ((BitVec.ofInt 64 x &&& BitVec.ofInt 64 (M : Int)).toNat : Int) := rfl
  have h2 : (BitVec.ofInt 64 (M : Int)).toNat = M := by
    rw [BitVec.ofInt_natCast, BitVec.toNat_ofNat]; exact Nat.mod_eq_of_lt (by omega)
  have h3 : (BitVec.ofInt 64 x).toNat &&& M ≤ M := Nat.and_le_right
  rw [e, BitVec.toNat_and, h2, IntKind.wrap_i64]
  omega

theorem mask_u64 (x : Int) : ∃ r : Nat, r ≤ 16777215 ∧ wrap64 (bits .and .u64 x 16777215) = r := by
  have h : 0 ≤ bits .and .u64 x 16777215 ∧ bits .and .u64 x 16777215 ≤ 16777215 := and_u64 x 16777215 (by decide)
  refine ⟨(bits .and .u64 x 16777215).toNat, by omega, ?_⟩
  unfold wrap64
  omega

theorem u64_nonneg (x : Int) : 0 ≤ IntKind.u64.wrap x := by rw [IntKind.wrap_u64]; omega

/-- Block g holds a dice over the bytes that lie in 'a'. -/
def DiceAt (g : Nat) (a : Option Addr) (len cap : Nat) (w : World) : Prop :=
  ∃ (i : Nat) (h : Int), w.heap[g]? = some (.cells #[.slice a len cap, .int .i64 i, .int .u64 h] 59 (0, 0)) ∧ i ≤ len ∧ 0 ≤ h ∧ len ≤ 4096

/-- The bytes of the code can be read; they lie below block g. -/
def CodeAt (g : Nat) (a : Option Addr) (len : Nat) (w : World) : Prop :=
  len = 0 ∨ ∃ b o, a = some ⟨b, o, none⟩ ∧ b < g ∧ ∀ j, j < len → ∃ z : Nat, z < 256 ∧ w.cell? ⟨b, o + j, none⟩ = some (.int .u8 z)

theorem CodeAt.below {g : Nat} {a : Option Addr} {len : Nat} {w w' : World} (h : CodeAt g a len w) (hb : ∀ k, k < g → w'.heap[k]? = w.heap[k]?) : CodeAt g a len w' := by
  rcases h with h | ⟨b, o, ha, hbg, hc⟩
  · exact .inl h
  · refine .inr ⟨b, o, ha, hbg, fun j hj => ?_⟩
    obtain ⟨z, hz, e⟩ := hc j hj
    exact ⟨z, hz, (World.cell?_of_block (hb b hbg)).trans e⟩

theorem CodeAt.mono {g g' : Nat} {a : Option Addr} {len : Nat} {w : World} (h : CodeAt g a len w) (hg : g ≤ g') : CodeAt g' a len w := by
  rcases h with h | ⟨b, o, ha, hb, hc⟩
  · exact .inl h
  · exact .inr ⟨b, o, ha, Nat.lt_of_lt_of_le hb hg, hc⟩

theorem big_any (a : Option Addr) (len cap : Nat) (w : World) :
    Calls Tryd.prog 6 #[.slice a len cap] w fun e w' => e = .returned (.bool (decide (4096 < len))) ∧ w = w' := by
  go_enter Tryd.func6, Tryd.ntmps6
  go_wp2
  go_ret
  exact ⟨ret_bool (by grind), rfl⟩

set_option maxRecDepth 100000 in
set_option maxHeartbeats 1600000 in
theorem below_any (g : Nat) (a : Option Addr) (len cap : Nat) (n : Nat) (w : World) (hn : 0 < n) (hn2 : n ≤ 100000) (hd : DiceAt g a len cap w) (hc : CodeAt g a len w) :
    Calls Tryd.prog 27 #[.pointer (some ⟨g, 0, none⟩), .int .i64 n] w fun e w' => ∃ r : Nat, r < n ∧ e = .returned (.int .i64 r) ∧ DiceAt g a len cap w' ∧ w.grownBy w' (some g) := by
  obtain ⟨i, h, hh, hi, h0, hlen⟩ := hd
  have c0 : w.cell? ⟨g, 0, none⟩ = some (.slice a len cap) := by simp [World.cell?, hh]
  have c1 : w.cell? ⟨g, 1, none⟩ = some (.int .i64 i) := by simp [World.cell?, hh]
  have c2 : w.cell? ⟨g, 2, none⟩ = some (.int .u64 h) := by simp [World.cell?, hh]
  have f2 : w.frozen? ⟨g, 2, none⟩ = false := by simp [World.frozen?, hh]
  have HH := Lib.hid hh
  clear hh
  go_enter Tryd.func27, Tryd.ntmps27
  go_wp2_with fail
  generalize hh2 : IntKind.u64.wrap (IntKind.u64.wrap (h * 6364136223846793005) + 1442695040888963407) = h2
  have h20 : 0 ≤ h2 := by rw [← hh2]; exact u64_nonneg _
  clear hh2
  obtain ⟨r, hr1, hr2⟩ := mask_u64 (h2 / 8589934592)
  rw [hr2]
  clear hr2
  generalize IntKind.u64.wrap (h * 6364136223846793005) = y1
  generalize bits BinOp.and IntKind.u64 (h2 / 8589934592) 16777215 = y2
  generalize h2 / 8589934592 = y3
  have hh3 : (w.setCell ⟨g, 2, none⟩ (.int .u64 h2)).heap[g]? = some (.cells #[.slice a len cap, .int .i64 i, .int .u64 h2] 59 (0, 0)) := heap_setCell_same w g 2 _ _ (.int .u64 h2) HH.out
  have hg3 := grown_setCell w g 2 (.int .u64 h2)
  have hcd := CodeAt.below hc (w' := w.setCell ⟨g, 2, none⟩ (.int .u64 h2)) (fun k hk => Below.heap_setCell _ _ _ _ (by simp; omega))
  generalize w.setCell ⟨g, 2, none⟩ (.int .u64 h2) = w2 at hh3 hg3 hcd ⊢
  clear HH c0 c1 c2 f2 hc h0
  have c0 : w2.cell? ⟨g, 0, none⟩ = some (.slice a len cap) := by simp [World.cell?, hh3]
  have c1 : w2.cell? ⟨g, 1, none⟩ = some (.int .i64 i) := by simp [World.cell?, hh3]
  have f1 : w2.frozen? ⟨g, 1, none⟩ = false := by simp [World.frozen?, hh3]
  have HH := Lib.hid hh3
  have HG := Lib.hid hg3
  clear hh3 hg3
  by_cases hil : i < len
  · obtain ⟨b, o, rfl, hcc⟩ : ∃ b o, a = some ⟨b, o, none⟩ ∧ ∀ j, j < len → ∃ z : Nat, z < 256 ∧ w2.cell? ⟨b, o + j, none⟩ = some (.int .u8 z) := by
      rcases hcd with h | ⟨b, o, h1, _, h2⟩
      · omega
      · exact ⟨b, o, h1, h2⟩
    obtain ⟨z, hz, hcell⟩ := hcc i hil
    clear hcc hcd
    go_quiet (fail)
    go_wp2_with fail
    go_quiet (fail)
    go_wp2_with fail
    go_ret
    refine ⟨(r + z) % n, Nat.mod_lt _ hn, congrArg (fun x => Ending.returned (Value.int .i64 x)) (by simp), ⟨i + 1, h2, ?_, hil, h20, hlen⟩, grown_trans (grown_trans HG.out (grown_drewN _ _ _)) (grown_setCell (w2.drewN _) g 1 _)⟩
    exact heap_setCell_same (w2.drewN _) g 1 _ _ _ HH.out
  · clear hcd
    go_quiet (fail)
    go_wp2_with fail
    go_ret
    exact ⟨r % n, Nat.mod_lt _ hn, congrArg (fun x => Ending.returned (Value.int .i64 x)) (by omega), ⟨i, h2, HH.out, hi, h20, hlen⟩, grown_trans HG.out (grown_drewN _ _ _)⟩

set_option maxRecDepth 100000 in
set_option maxHeartbeats 1600000 in
theorem roll_any (a : Option Addr) (len cap : Nat) (seed : Nat) (w : World) (hlen : len ≤ 4096) (hseed : seed ≤ 1000000) (hc : CodeAt w.heap.size a len w) :
    Calls Tryd.prog 14 #[.slice a len cap, .int .u64 seed] w fun e w' => e = .returned (.pointer (some ⟨w.heap.size, 0, none⟩)) ∧ DiceAt w.heap.size a len cap w' ∧ Below w.heap.size w w' ∧ w.heap.size < w'.heap.size := by
  go_enter Tryd.func14, Tryd.ntmps14
  go_wp2
  go_loopw [6] (fun i wr => ∃ (k : Nat) (h : Int), k ≤ len ∧ i = .int .i64 k ∧ 0 ≤ h ∧ Hid (wr.heap[w.heap.size]? = some (.cells #[.slice a len cap, .int .i64 0, .int .u64 h] 59 (0, 0))) ∧ Hid (Below w.heap.size w wr)) (fun i _ => len - (intOf i).toNat)
  case atStart => exact ⟨0, _, Nat.zero_le _, rfl, by omega, heap_alloc_new w _, (Below.refl _ _).alloc (Nat.le_refl _) _⟩
  case round =>
    obtain ⟨k, h, hk, rfl, h0, HH, HB⟩ := hrel
    by_cases hlt : k < len
    · obtain ⟨b, o, rfl, hcc⟩ : ∃ b o, a = some ⟨b, o, none⟩ ∧ ∀ j, j < len → ∃ z : Nat, z < 256 ∧ wr.cell? ⟨b, o + j, none⟩ = some (.int .u8 z) := by
        rcases CodeAt.below hc HB.out.block with h | ⟨b, o, h1, _, h2⟩
        · omega
        · exact ⟨b, o, h1, h2⟩
      obtain ⟨z, hz, hcell⟩ := hcc k hlt
      have hne : b ≠ w.heap.size := by
        rcases hc with h | ⟨b', o', h1, h2, _⟩
        · omega
        · cases h1; omega
      have c2 : wr.cell? ⟨w.heap.size, 2, none⟩ = some (.int .u64 h) := by simp [World.cell?, HH.out]
      have f2 : wr.frozen? ⟨w.heap.size, 2, none⟩ = false := by simp [World.frozen?, HH.out]
      clear hcc
      go_wp2
      go_region
      go_wp2
      go_roundw
      case rel => exact ⟨k + 1, _, by omega, by go_num, u64_nonneg _, heap_setCell_same wr w.heap.size 2 _ _ _ HH.out, (HB.out.setCell (p := ⟨w.heap.size, 2, none⟩) (Nat.le_refl _) _).drew⟩
      case measure => simp [intOf]; omega
    · obtain rfl : k = len := by omega
      go_wp2
      go_ret
      exact ⟨rfl, ⟨0, h, HH.out, Nat.zero_le _, h0, hlen⟩, HB.out, (Array.getElem?_eq_some_iff.1 HH.out).1⟩

theorem CodeAt.grown {g : Nat} {a : Option Addr} {len : Nat} {w w' : World} (h : CodeAt g a len w) (hg : g ≤ w.heap.size) (hb : w.grownBy w' (some g)) : CodeAt g a len w' :=
  h.below fun k hk => hb.block k (by omega) (by simp; omega)

/-- The whole of what a walk over dice carries on. -/
structure Rolls (g : Nat) (a : Option Addr) (len cap : Nat) (w : World) : Prop where
  dice : DiceAt g a len cap w
  code : CodeAt g a len w

theorem Rolls.lt {g : Nat} {a : Option Addr} {len cap : Nat} {w : World} (h : Rolls g a len cap w) : g < w.heap.size := by
  obtain ⟨_, _, hh, _⟩ := h.dice
  exact (Array.getElem?_eq_some_iff.1 hh).1

theorem Rolls.after {g : Nat} {a : Option Addr} {len cap : Nat} {w w' : World} (h : Rolls g a len cap w) (hb : Below w.heap.size w w') : Rolls g a len cap w' := by
  have hlt := h.lt
  obtain ⟨i, x, hh, r⟩ := h.dice
  exact ⟨⟨i, x, (hb.block g hlt).trans hh, r⟩, h.code.below fun k hk => hb.block k (by omega)⟩

theorem Rolls.alloc {g : Nat} {a : Option Addr} {len cap : Nat} {w : World} (h : Rolls g a len cap w) (o : Obj) : Rolls g a len cap (w.alloc o) :=
  h.after ((Below.refl _ _).alloc (Nat.le_refl _) o)

theorem roll_below {g : Nat} {a : Option Addr} {len cap : Nat} (n : Nat) {w : World} (hn : 0 < n) (hn2 : n ≤ 100000) (h : Rolls g a len cap w) :
    Calls Tryd.prog 27 #[.pointer (some ⟨g, 0, none⟩), .int .i64 n] w fun e w' => ∃ r : Nat, r < n ∧ e = .returned (.int .i64 r) ∧ Rolls g a len cap w' ∧ w.grownBy w' (some g) := by
  refine (below_any g a len cap n w hn hn2 h.dice h.code).mono ?_
  rintro e w' ⟨r, hr, he, hd, hg⟩
  exact ⟨r, hr, he, ⟨hd, h.code.grown (Nat.le_of_lt h.lt) hg⟩, hg⟩

/-- A cell of a literal, laid ahead of a throw. -/
theorem pick_lit {w w1 : World} {E : TypeId} {cs : Array Value} {g r : Nat} (h : (w.alloc (.cells cs E)).grownBy w1 (some g)) (hg : g < w.heap.size) : w1.cell? ⟨w.heap.size, r, none⟩ = cs[r]? := by
  rw [World.cell?_of_block (a := ⟨w.heap.size, r, none⟩) (h.block w.heap.size (by simp) (by simp; omega)), World.cell?_alloc_at _ _ _ _ rfl]

/-! ### Texts with slashes between -/

theorem cut_eq (c : UInt8) (l : List UInt8) : cut c (c :: l) = [] :: cut c l := by rw [cut, if_pos rfl]
theorem cut_ne {c x : UInt8} {l p : List UInt8} {ps : List (List UInt8)} (h : ¬ x = c) (hl : cut c l = p :: ps) : cut c (x :: l) = (x :: p) :: ps := by rw [cut, if_neg h, hl]

theorem cut_app (c : UInt8) (a b : List UInt8) : cut c (a ++ c :: b) = cut c a ++ cut c b := by
  induction a with
  | nil => rw [List.nil_append, cut_eq]; rfl
  | cons x a ih =>
    obtain ⟨p, ps, h⟩ := cut_cons c a
    rw [List.cons_append]
    by_cases e : x = c
    · subst e; rw [cut_eq, cut_eq, ih]; rfl
    · rw [h] at ih
      rw [cut_ne e (ih.trans (List.cons_append ..)), cut_ne e h]; rfl

theorem cut_none (c : UInt8) (b : List UInt8) (h : c ∉ b) : cut c b = [b] := by
  induction b with
  | nil => rfl
  | cons x b ih =>
    simp only [List.mem_cons, not_or] at h
    rw [cut, if_neg (fun e => h.1 e.symm), ih h.2]

theorem parts_of_cut {s : ByteArray} {c : UInt8} {L : List ByteArray} (h : cut c s.data.toList = L.map (·.data.toList)) : parts s c = L :=
  lists_ext (by rw [parts_data, h])

theorem parts_one {s : ByteArray} {c : UInt8} (h : c ∉ s.data.toList) : parts s c = [s] := parts_of_cut (by rw [cut_none c _ h]; rfl)

theorem parts_app {s x : ByteArray} (h : (47 : UInt8) ∉ x.data.toList) : parts (s ++ ⟨#[47]⟩ ++ x) 47 = parts s 47 ++ [x] := by
  refine parts_of_cut ?_
  have e : (s ++ ⟨#[47]⟩ ++ x).data.toList = s.data.toList ++ 47 :: x.data.toList := by simp [ByteArray.data_append]
  rw [e, cut_app, cut_none _ _ h, ← parts_data]
  simp

/-- A part of a name as the dice draw it: a word or a plus, without a slash. -/
def goodPart (f : Bool) (p : ByteArray) : Prop := (isWord p = true ∨ (f = true ∧ p.toList = [43])) ∧ (47 : UInt8) ∉ p.data.toList

/-- A text of n parts, all of them good. -/
def NameN (f : Bool) (s : ByteArray) (n : Nat) : Prop := (parts s 47).length = n ∧ ∀ p ∈ parts s 47, goodPart f p

theorem NameN.one {f : Bool} {s : ByteArray} (h : goodPart f s) : NameN f s 1 := by
  rw [NameN, parts_one h.2]; exact ⟨rfl, fun p hp => by simp at hp; rw [hp]; exact h⟩

theorem NameN.next {f : Bool} {s x : ByteArray} {n : Nat} (h : NameN f s n) (hx : goodPart f x) : NameN f (s ++ ⟨#[47]⟩ ++ x) (n + 1) := by
  rw [NameN, parts_app hx.2]
  refine ⟨by simp [h.1], fun p hp => ?_⟩
  simp at hp
  rcases hp with hp | rfl
  · exact h.2 p hp
  · exact hx

theorem NameN.topic {s : ByteArray} {n : Nat} (h : NameN false s n) (hn : n ≤ 6) : topicP (parts s 47) = true := by
  rw [topicP, Bool.and_eq_true, decide_eq_true_iff, List.all_eq_true]
  refine ⟨by rw [h.1]; exact hn, fun p hp => ?_⟩
  rcases (h.2 p hp).1 with h | ⟨h, _⟩
  · exact h
  · cases h

theorem partF_good {f b : Bool} {p : ByteArray} (h : goodPart f p) : partF p b = true := by
  unfold partF
  rcases h.1 with h | ⟨_, h⟩ <;> simp [h]

theorem filterTo_all {l : List ByteArray} (h : ∀ j (hj : j < l.length), partF l[j] (decide (j + 1 = l.length)) = true) : filterTo l l.length = true := by
  rw [filterTo, List.all_eq_true]
  intro j hj
  have hj2 := List.mem_range.1 hj
  rw [List.getD_eq_getElem?_getD, List.getElem?_eq_getElem hj2]
  exact h j hj2

theorem NameN.filter {f : Bool} {s : ByteArray} {n : Nat} (h : NameN f s n) (hn : n ≤ 6) : filterP (parts s 47) = true := by
  rw [filterP, Bool.and_eq_true, decide_eq_true_iff]
  exact ⟨by rw [h.1]; exact hn, filterTo_all fun j hj => partF_good (h.2 _ (List.getElem_mem hj))⟩

theorem NameN.filterAll {f : Bool} {s : ByteArray} {n : Nat} (h : NameN f s n) (hn : n ≤ 5) : filterP (parts (s ++ ⟨#[47]⟩ ++ ⟨#[35]⟩) 47) = true := by
  rw [parts_app (x := ⟨#[35]⟩) (by decide), filterP, Bool.and_eq_true, decide_eq_true_iff]
  refine ⟨by simp [h.1]; omega, filterTo_all fun j hj => ?_⟩
  by_cases e : j < (parts s 47).length
  · rw [List.getElem_append_left e]; exact partF_good (h.2 _ (List.getElem_mem e))
  · have e2 : j = (parts s 47).length := by simp at hj; omega
    subst e2
    simp [partF, ByteArray.toList_eq]

theorem size_app1 (s y : ByteArray) : (s ++ ⟨#[47]⟩ ++ y).size = s.size + 1 + y.size := by rw [ByteArray.size_append, ByteArray.size_append]; rfl
theorem size_app2 (s : ByteArray) : (s ++ ⟨#[47, 35]⟩).size = s.size + 2 := by rw [ByteArray.size_append]; rfl
theorem app_hash (s : ByteArray) : s ++ ⟨#[47, 35]⟩ = s ++ ⟨#[47]⟩ ++ ⟨#[35]⟩ := by rw [ByteArray.append_assoc]; rfl

theorem hash_filter : filterP (parts ⟨#[35]⟩ 47) = true := by
  rw [parts_one (by decide)]
  simp [filterP, filterTo, partF, ByteArray.toList_eq]

end Go.Proofs.YtiigllhedlpccaaDoor
