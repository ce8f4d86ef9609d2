/- Small texts, laid together. -/
import Derived.Test.YtcpoodhbakkmcaaGreatDoorZOwn
import Derived.Deep.RegionHeld
import Derived.Test.YtcpoodhbakkmcaaGreatDoorZB1
set_option linter.unusedSimpArgs false
set_option linter.unusedVariables false
/- A change of named rows alone. -/
namespace Go.Proofs.YtcpoodhbakkmcaaGreatDoor
open Go.RowKit

/-- Nothing that was there has changed but in the own blocks of vs. -/
structure GrownL (w w' : World) (vs : List Value) : Prop where
  os : w'.os = w.os
  tape : w'.tape = w.tape
  output : w'.output = w.output
  size : w.heap.size ≤ w'.heap.size
  block : ∀ i, i < w.heap.size → (∀ x ∈ vs, x.ownBlock ≠ some i) → w'.heap[i]? = w.heap[i]?

theorem GrownL.refl (w : World) (vs : List Value) : GrownL w w vs := ⟨rfl, rfl, rfl, Nat.le_refl _, fun _ _ _ => rfl⟩
theorem GrownL.trans {a b c : World} {vs : List Value} (h : GrownL a b vs) (k : GrownL b c vs) : GrownL a c vs :=
  ⟨k.os.trans h.os, k.tape.trans h.tape, k.output.trans h.output, Nat.le_trans h.size k.size, fun i hi hx => (k.block i (Nat.lt_of_lt_of_le hi h.size) hx).trans (h.block i hi hx)⟩
theorem GrownL.below {a b : World} {vs : List Value} (h : Below a.heap.size a b) : GrownL a b vs := ⟨h.os, h.tape, h.output, h.size, fun i hi _ => h.block i hi⟩
theorem GrownL.grown {a b : World} {vs : List Value} {x : Value} (h : a.grownBy b x.ownBlock) (hx : x ∈ vs) : GrownL a b vs :=
  ⟨h.os, h.tape, h.output, h.size, fun i hi hn => h.block i hi (fun e => hn x hx e.symm)⟩
theorem GrownL.toBelow {a b : World} {vs : List Value} {B : Nat} (h : GrownL a b vs) (hB : B ≤ a.heap.size) (hv : ∀ x ∈ vs, ∀ k, x.ownBlock = some k → B ≤ k) : Below B a b :=
  ⟨h.os, h.tape, h.output, h.size, fun i hi => h.block i (by omega) (fun x hx e => by have := hv x hx i e; omega)⟩

/-- An own row of which the block is as it was. -/
theorem own_same {w w' : World} {B n size : Nat} {E : TypeId} {v : Value} {xs : List Value} (h : w.ownsRow B E size v n xs) (hs : ∀ b, v.ownBlock = some b → w'.heap[b]? = w.heap[b]?) : w'.ownsRow B E size v n xs := by
  refine ⟨h.1, ?_⟩
  rcases h.2 with h2 | ⟨g, cap, cur, rfl, hg, hh, r⟩
  · exact .inl h2
  · exact .inr ⟨g, cap, cur, rfl, hg, (hs g rfl).trans hh, r⟩

theorem own_keptL {w w' : World} {vs : List Value} {B n size : Nat} {E : TypeId} {v : Value} {xs : List Value} (h : w.ownsRow B E size v n xs) (hg : GrownL w w' vs) (ap : ∀ x ∈ vs, Apart v x) : w'.ownsRow B E size v n xs :=
  own_same h fun b hb => hg.block b (h.lt b hb).2 fun x hx e => by
    rcases ap x hx with h1 | h1
    · rw [hb] at h1; cases h1
    · exact h1 (hb.trans e.symm)

theorem KOwnU.keptL {w w' : World} {vs us : List Value} {B : Nat} {v : Value} {l : List KnotM} (h : KOwnU w B v l us) (hg : GrownL w w' vs) (ap : ∀ y ∈ v :: us, ∀ x ∈ vs, Apart y x) : KOwnU w' B v l us :=
  ⟨h.1, own_keptL h.2.1 hg (ap v (by simp)), fun j h1 h2 => own_keptL (h.2.2.1 j h1 h2) hg (ap _ (List.mem_cons_of_mem _ (List.getElem_mem h2))), h.2.2.2⟩

theorem GrownL.sub {a b : World} {vs us : List Value} (h : GrownL a b vs) (hs : ∀ x ∈ vs, x ∈ us) : GrownL a b us :=
  ⟨h.os, h.tape, h.output, h.size, fun i hi hx => h.block i hi fun x hv => hx x (hs x hv)⟩
theorem GrownL.setCell {a b : World} {vs : List Value} {x : Value} {g : Nat} (h : GrownL a b vs) (hx : x ∈ vs) (hg : x.ownBlock = some g) (j : Nat) (v : Value) : GrownL a (b.setCell ⟨g, j, none⟩ v) vs :=
  h.trans (.grown (x := x) (by rw [hg]; exact grown_setCell b g j v) hx)
theorem GrownL.alloc {a b : World} {vs : List Value} (h : GrownL a b vs) (o : Obj) : GrownL a (b.alloc o) vs := h.trans (.below ((Below.refl _ _).alloc (Nat.le_refl _) o))

theorem GrownL.grown_new {a b c : World} {vs : List Value} {r : Option Nat} (h : GrownL a b vs) (k : b.grownBy c r) (hr : ∀ i, r = some i → i < a.heap.size → ∃ x ∈ vs, x.ownBlock = some i) : GrownL a c vs :=
  ⟨k.os.trans h.os, k.tape.trans h.tape, k.output.trans h.output, Nat.le_trans h.size k.size, fun i hi hx => (k.block i (Nat.lt_of_lt_of_le hi h.size) (fun e => by obtain ⟨x, hx1, hx2⟩ := hr i e.symm hi; exact hx x hx1 hx2)).trans (h.block i hi hx)⟩

/-- The first elements of an own row. -/
theorem own_take {w : World} {B g n cap k size : Nat} {e : TypeId} {xs : List Value} (h : w.ownsRow B e size (.slice (some ⟨g, 0, none⟩) n cap) n xs) (hk : k ≤ n) : w.ownsRow B e size (.slice (some ⟨g, 0, none⟩) k cap) k (xs.take (k * size)) := by
  have hl := h.1
  rcases h.2 with ⟨h1, _⟩ | ⟨g2, cap2, cur, h1, hb, hh, h2, h3, h4, h5⟩
  · cases h1
  · cases h1
    have hks : k * size ≤ n * size := Nat.mul_le_mul_right _ hk
    refine ⟨by rw [List.length_take, hl]; omega, .inr ⟨g, cap, cur, rfl, hb, hh, by omega, h3, h4, ?_⟩⟩
    rw [← h5, List.take_take, Nat.min_eq_left hks]

theorem GrownL.same {a b : World} {x y : Value} (h : GrownL a b [x]) (e : x.ownBlock = y.ownBlock) : GrownL a b [y] :=
  ⟨h.os, h.tape, h.output, h.size, fun i hi hx => h.block i hi fun z hz => by rw [List.mem_singleton.1 hz, e]; exact hx y (by simp)⟩

end Go.Proofs.YtcpoodhbakkmcaaGreatDoor

/- The walk of the program's NewTrie. -/
namespace Go.Proofs.YtcpoodhbakkmcaaGreatDoor
open Go.RowKit

theorem implNewTrie_any (w : World) :
    Calls Tryz.prog 6 #[] w fun e w' => ∃ u, e = .returned u ∧ KOwn w' w.heap.size u [knotZ] ∧ Below w.heap.size w w' := by
  have HO := Lib.hid (World.ownsRow_lit (base := w.heap.size) (e := 43) (size := 2) w #[.string knotZ.1, .slice none 0 0] 1 (Nat.le_refl _) (by unfold maxLen; omega) rfl)
  go_enter Tryz.func6, Tryz.ntmps6
  go_wp2
  go_ret
  exact ⟨_, rfl, ⟨[.slice none 0 0], rfl, HO.out, fun j h1 h2 => by
    obtain rfl : j = 0 := by simpa using h1
    exact World.ownsRow_nil _ _ _ _, by
    rw [List.pairwise_cons]
    exact ⟨fun a ha => by rw [List.mem_singleton.1 ha]; exact .inr (by intro h; cases h), List.pairwise_singleton _ _⟩⟩, (Below.refl _ _).alloc (Nat.le_refl _) _⟩

end Go.Proofs.YtcpoodhbakkmcaaGreatDoor

/- (KMark, what names no function of the laws.) -/
namespace Go.Proofs.YtcpoodhbakkmcaaGreatDoor
open Go.RowKit

/-- The marks k0, k0 + 1 .. in the first n places. -/
def imarks (k0 n : Nat) : List Int := (List.range n).map fun j => ((k0 + j : Nat) : Int)
def imarked (l : List Int) (k0 k : Nat) : List Int := imarks k0 k ++ l.drop k

theorem imarks_length (k0 n : Nat) : (imarks k0 n).length = n := by simp [imarks]
theorem imarked_length (l : List Int) (k0 k : Nat) (h : k ≤ l.length) : (imarked l k0 k).length = l.length := by simp [imarked, imarks]; omega
theorem imarked_next (l : List Int) (k0 k : Nat) (h : k < l.length) : (imarked l k0 k).set k ((k0 + k : Nat) : Int) = imarked l k0 (k + 1) := by
  unfold imarked imarks
  rw [List.set_append_right _ _ (by simp)]
  simp only [List.length_map, List.length_range, Nat.sub_self]
  rw [List.range_succ, List.map_append, List.append_assoc]
  congr 1
  rw [List.drop_eq_getElem_cons h]
  rfl
theorem imarked_all (l : List Int) (k0 : Nat) : imarked l k0 l.length = imarks k0 l.length := by simp [imarked]

theorem imarks_at (k0 n k : Nat) (h : k < (imarks k0 n).length) : (imarks k0 n)[k] = ((k0 : Int) + (k : Int)) := by
  simp [imarks]

/-- Another text in the k-th knot. -/
theorem KOwnU.text {w : World} {B g n cap k : Nat} {l : List KnotM} {us : List Value} (p : ByteArray) (h : KOwnU w B (.slice (some ⟨g, 0, none⟩) n cap) l us) (hn : n = l.length) (hk : k < l.length) :
    KOwnU (w.setCell ⟨g, k * 2, none⟩ (.string p)) B (.slice (some ⟨g, 0, none⟩) n cap) (l.set k (p, l[k].2)) us := by
  subst hn
  have hku : k < us.length := by rw [h.1]; exact hk
  have hrow : kcells (l.set k (p, l[k].2)) us = (kcells l us).set (k * 2) (.string p) := by
    have h1 := kcells_set l us k (p, l[k].2) us[k] h.1 hk
    rw [List.set_getElem_self] at h1
    rw [← h1]
    apply List.ext_getElem?
    intro i
    by_cases hi : i = k * 2 + 1
    · subst hi
      rw [List.getElem?_set_self (by simp [kcells_length l us h.1]; omega), List.getElem?_set_ne (by omega), kcells_ids l us k hku h.1]
    · rw [List.getElem?_set_ne (by omega)]
  refine ⟨by simp [h.1], ?_, fun j h1 h2 => ?_, h.2.2.2⟩
  · rw [List.length_set, hrow]
    exact (h.2.1.stored _ _).1
  · have hj : j < l.length := by simpa using h1
    have hs : (l.set k (p, l[k].2))[j].2 = l[j].2 := by rw [List.getElem_set]; split <;> simp_all
    have hne : us[j].ownBlock ≠ some g := by
      have := (List.pairwise_cons.1 h.2.2.2).1 us[j] (List.getElem_mem _)
      rcases this with h | h
      · cases h
      · exact fun e => h e.symm
    rw [hs]
    exact own_kept (h.2.2.1 j hj h2) hne

/-- Other numbers, as many, in the k-th knot's row. -/
theorem KOwnU.nums {w w' : World} {B k : Nat} {v : Value} {l : List KnotM} {us : List Value} {z : List Int} (h : KOwnU w B v l us) (hk : k < l.length) (hku : k < us.length) (hz : z.length = l[k].2.length)
    (ho : w'.ownsRow B 2 1 us[k] z.length (ints z)) (hg : w.grownBy w' us[k].ownBlock) : KOwnU w' B v (l.set k (l[k].1, z)) us := by
  have hap := h.2.2.2
  have hrow : kcells (l.set k (l[k].1, z)) us = kcells l us := by
    have h1 := kcells_set l us k (l[k].1, z) us[k] h.1 hk
    rw [List.set_getElem_self] at h1
    rw [← h1]
    have e1 := kcells_path l us k hk h.1
    have e2 := kcells_ids l us k hku h.1
    apply List.ext_getElem?
    intro i
    by_cases hi : i = k * 2 + 1
    · subst hi
      rw [List.getElem?_set_self (by simp [kcells_length l us h.1]; omega), e2]
    · rw [List.getElem?_set_ne (by omega)]
      by_cases hi2 : i = k * 2
      · subst hi2
        rw [List.getElem?_set_self (by rw [kcells_length l us h.1]; omega), e1]
      · rw [List.getElem?_set_ne (by omega)]
  have hG : GrownL w w' [us[k]] := .grown hg (by simp)
  refine ⟨by simp [h.1], ?_, fun j h1 h2 => ?_, hap⟩
  · rw [List.length_set, hrow]
    refine own_keptL h.2.1 hG fun x hx => ?_
    rw [List.mem_singleton.1 hx]
    exact (List.pairwise_cons.1 hap).1 _ (List.getElem_mem _)
  · by_cases hjk : j = k
    · subst hjk
      simp only [List.getElem_set_self]
      exact ho
    · simp only [List.getElem_set_ne (Ne.symm hjk)]
      have hj : j < l.length := by simpa using h1
      refine own_keptL (h.2.2.1 j hj h2) hG fun x hx => ?_
      rw [List.mem_singleton.1 hx]
      have hp := List.pairwise_iff_getElem.1 (List.pairwise_cons.1 hap).2
      rcases Nat.lt_or_gt_of_ne hjk with h3 | h3
      · exact hp j k h2 hku h3
      · exact (hp k j hku h2 h3).symm

/-- The marks from k on, laid into knots, and the number behind them. -/
def kmark : List KnotM → Nat → List KnotM
  | [], _ => []
  | x :: l, k => (mtext k, imarks (k + 1) x.2.length) :: kmark l (k + 1 + x.2.length)
def kend : List KnotM → Nat → Nat
  | [], k => k
  | x :: l, k => kend l (k + 1 + x.2.length)

theorem kmark_length : ∀ (l : List KnotM) (k : Nat), (kmark l k).length = l.length
  | [], _ => rfl
  | x :: l, k => by simp [kmark, kmark_length l]
theorem kmark_append : ∀ (a b : List KnotM) (k : Nat), kmark (a ++ b) k = kmark a k ++ kmark b (kend a k)
  | [], _, _ => rfl
  | x :: a, b, k => by simp [kmark, kend, kmark_append a b]
theorem kend_append : ∀ (a b : List KnotM) (k : Nat), kend (a ++ b) k = kend b (kend a k)
  | [], _, _ => rfl
  | x :: a, b, k => by simp [kend, kend_append a b]
theorem kend_le : ∀ (l : List KnotM) (k : Nat), k ≤ kend l k
  | [], _ => Nat.le_refl _
  | x :: l, k => by have := kend_le l (k + 1 + x.2.length); simp only [kend]; omega

theorem kend_next (l : List KnotM) (k0 k : Nat) (h : k < l.length) : kend (l.take (k + 1)) k0 = kend (l.take k) k0 + 1 + l[k].2.length := by
  rw [List.take_succ_eq_append_getElem h, kend_append]; rfl
theorem kend_bound (l : List KnotM) (k0 k : Nat) : kend (l.take k) k0 ≤ kend l k0 := by
  have h := kend_append (l.take k) (l.drop k) k0
  rw [List.take_append_drop] at h
  rw [h]; exact kend_le _ _

def kstate (l : List KnotM) (k0 k : Nat) : List KnotM := kmark (l.take k) k0 ++ l.drop k
theorem kstate_length (l : List KnotM) (k0 k : Nat) (h : k ≤ l.length) : (kstate l k0 k).length = l.length := by simp [kstate, kmark_length]; omega
theorem kstate_at (l : List KnotM) (k0 k : Nat) (h : k < l.length) (h2 : k < (kstate l k0 k).length) : (kstate l k0 k)[k] = l[k] := by
  have hm : (kmark (l.take k) k0).length = k := by rw [kmark_length, List.length_take]; omega
  have e : (kstate l k0 k)[k]? = some l[k] := by
    unfold kstate
    rw [List.getElem?_append_right (by omega), hm, Nat.sub_self, List.getElem?_drop, Nat.add_zero, List.getElem?_eq_getElem h]
  rw [List.getElem?_eq_getElem h2] at e
  exact Option.some.inj e
theorem kstate_next (l : List KnotM) (k0 k : Nat) (h : k < l.length) : (kstate l k0 k).set k (mtext (kend (l.take k) k0), imarks (kend (l.take k) k0 + 1) l[k].2.length) = kstate l k0 (k + 1) := by
  unfold kstate
  rw [List.set_append_right _ _ (by rw [kmark_length, List.length_take]; omega)]
  rw [kmark_length, List.length_take, Nat.min_eq_left (Nat.le_of_lt h), Nat.sub_self, List.drop_eq_getElem_cons h, List.set_cons_zero, List.take_succ_eq_append_getElem h, kmark_append, List.append_assoc]
  rfl

theorem kmark_at (l : List KnotM) (k0 k : Nat) (h : k < l.length) (h2 : k < (kmark l k0).length) : (kmark l k0)[k] = (mtext (kend (l.take k) k0), imarks (kend (l.take k) k0 + 1) l[k].2.length) := by
  have hm : (kmark (l.take k) k0).length = k := by rw [kmark_length, List.length_take]; omega
  have e : (kmark l k0)[k]? = some (mtext (kend (l.take k) k0), imarks (kend (l.take k) k0 + 1) l[k].2.length) := by
    have h3 := kmark_append (l.take k) (l.drop k) k0
    rw [List.take_append_drop] at h3
    rw [h3, List.getElem?_append_right (by omega), hm, Nat.sub_self, List.drop_eq_getElem_cons h]
    rfl
  rw [List.getElem?_eq_getElem h2] at e
  exact Option.some.inj e

end Go.Proofs.YtcpoodhbakkmcaaGreatDoor

/- How many marks a list of knots takes; rows of two lists that share no block. -/
namespace Go.Proofs.YtcpoodhbakkmcaaGreatDoor
open Go.RowKit

def totK (l : List KnotM) : Nat := (l.map (·.2.length)).sum

theorem kend_tot : ∀ (l : List KnotM) (k : Nat), kend l k = k + l.length + totK l
  | [], k => by simp [kend, totK]
  | x :: l, k => by rw [kend, kend_tot l]; simp only [totK, List.map_cons, List.sum_cons, List.length_cons]; omega

theorem totK_append (a b : List KnotM) : totK (a ++ b) = totK a + totK b := by simp [totK]
theorem totK_set : ∀ (l : List KnotM) (k : Nat) (x : KnotM), totK (l.set k x) ≤ totK l + x.2.length
  | [], _, _ => by simp [totK]
  | a :: l, 0, x => by simp only [List.set_cons_zero, totK, List.map_cons, List.sum_cons]; omega
  | a :: l, k + 1, x => by have := totK_set l k x; simp only [List.set_cons_succ, totK, List.map_cons, List.sum_cons] at *; omega

theorem totK_setAt : ∀ (l : List KnotM) (k : Nat) (h : k < l.length) (x : KnotM), totK (l.set k x) + l[k].2.length = totK l + x.2.length
  | a :: l, 0, _, x => by simp only [List.set_cons_zero, totK, List.map_cons, List.sum_cons, List.getElem_cons_zero]; omega
  | a :: l, k + 1, h, x => by have := totK_setAt l k (by simpa using h) x; simp only [List.set_cons_succ, totK, List.map_cons, List.sum_cons, List.getElem_cons_succ] at *; omega

theorem kend_ids {l : List KnotM} {x : KnotM} (h : x ∈ l) : x.2.length ≤ kend l 1 := by
  rw [kend_tot]
  have : x.2.length ≤ totK l := by
    unfold totK
    induction l with
    | nil => cases h
    | cons a l ih =>
      simp only [List.map_cons, List.sum_cons]
      rcases List.mem_cons.1 h with rfl | h
      · omega
      · have := ih h; omega
  omega
theorem kend_len (l : List KnotM) : l.length ≤ kend l 1 := by rw [kend_tot]; omega

/-- The rows of an elder list, and of a later one, share no block. -/
theorem elder_apart {w : World} {A B : Nat} {u v : Value} {l m : List KnotM} {us vs : List Value} (h : KOwnU w A u l us) (hB : w.heap.size ≤ B) {w2 : World} (k : KOwnU w2 B v m vs) : ∀ x ∈ u :: us, ∀ y ∈ v :: vs, Apart x y := fun x hx y hy => by
  cases e : x.ownBlock with
  | none => exact .inl e
  | some b => exact .inr (fun e2 => by
      have h1 := (h.lt x hx b e).2
      have h2 := (k.lt y hy b (by rw [← e2, e])).1
      omega)

end Go.Proofs.YtcpoodhbakkmcaaGreatDoor

/- The walk of the reference's NewTrie. -/
namespace Go.Proofs.YtcpoodhbakkmcaaGreatDoor
open Go.RowKit

theorem specNewTrie_any (w : World) :
    Calls Tryz.prog 78 #[] w fun e w' => ∃ u, e = .returned u ∧ KOwn w' w.heap.size u [knotZ] ∧ Below w.heap.size w w' := by
  have HO := Lib.hid (World.ownsRow_lit (base := w.heap.size) (e := 43) (size := 2) w #[.string knotZ.1, .slice none 0 0] 1 (Nat.le_refl _) (by unfold maxLen; omega) rfl)
  go_enter Tryz.func78, Tryz.ntmps78
  go_wp2
  go_ret
  exact ⟨_, rfl, ⟨[.slice none 0 0], rfl, HO.out, fun j h1 h2 => by
    obtain rfl : j = 0 := by simpa using h1
    exact World.ownsRow_nil _ _ _ _, by
    rw [List.pairwise_cons]
    exact ⟨fun a ha => by rw [List.mem_singleton.1 ha]; exact .inr (by intro h; cases h), List.pairwise_singleton _ _⟩⟩, (Below.refl _ _).alloc (Nat.le_refl _) _⟩

end Go.Proofs.YtcpoodhbakkmcaaGreatDoor
