/- Small texts, laid together. -/
import Derived.Test.YtojifogefnjefaaDoorZOwn
import Derived.BigQuiet
import Derived.Deep.RegionHeld
import Derived.Deep.QuietTactic
set_option linter.unusedSimpArgs false
set_option linter.unusedVariables false
/- A change of named rows alone. -/
namespace Go.Proofs.YtojifogefnjefaaDoor
open Go.RowKit

/-- Nothing that was there has changed but in the own blocks of vs. -/
structure GrownL (w w' : World) (vs : List Value) : Prop where
  os : w'.os = w.os
  tape : w'.tape = w.tape
  output : w'.output = w.output
  size : w.heap.size ≤ w'.heap.size
  block : ∀ i, i < w.heap.size → (∀ x ∈ vs, x.ownBlock ≠ some i) → w'.heap[i]? = w.heap[i]?

theorem GrownL.refl (w : World) (vs : List Value) : GrownL w w vs := ⟨rfl, rfl, rfl, Nat.le_refl _, fun _ _ _ => rfl⟩
theorem GrownL.trans {a b c : World} {vs : List Value} (h : GrownL a b vs) (k : GrownL b c vs) : GrownL a c vs :=
  ⟨k.os.trans h.os, k.tape.trans h.tape, k.output.trans h.output, Nat.le_trans h.size k.size, fun i hi hx => (k.block i (Nat.lt_of_lt_of_le hi h.size) hx).trans (h.block i hi hx)⟩
theorem GrownL.below {a b : World} {vs : List Value} (h : Below a.heap.size a b) : GrownL a b vs := ⟨h.os, h.tape, h.output, h.size, fun i hi _ => h.block i hi⟩
theorem GrownL.grown {a b : World} {vs : List Value} {x : Value} (h : a.grownBy b x.ownBlock) (hx : x ∈ vs) : GrownL a b vs :=
  ⟨h.os, h.tape, h.output, h.size, fun i hi hn => h.block i hi (fun e => hn x hx e.symm)⟩
theorem GrownL.toBelow {a b : World} {vs : List Value} {B : Nat} (h : GrownL a b vs) (hB : B ≤ a.heap.size) (hv : ∀ x ∈ vs, ∀ k, x.ownBlock = some k → B ≤ k) : Below B a b :=
  ⟨h.os, h.tape, h.output, h.size, fun i hi => h.block i (by omega) (fun x hx e => by have := hv x hx i e; omega)⟩

/-- An own row of which the block is as it was. -/
theorem own_same {w w' : World} {B n size : Nat} {E : TypeId} {v : Value} {xs : List Value} (h : w.ownsRow B E size v n xs) (hs : ∀ b, v.ownBlock = some b → w'.heap[b]? = w.heap[b]?) : w'.ownsRow B E size v n xs := by
  refine ⟨h.1, ?_⟩
  rcases h.2 with h2 | ⟨g, cap, cur, rfl, hg, hh, r⟩
  · exact .inl h2
  · exact .inr ⟨g, cap, cur, rfl, hg, (hs g rfl).trans hh, r⟩

theorem own_keptL {w w' : World} {vs : List Value} {B n size : Nat} {E : TypeId} {v : Value} {xs : List Value} (h : w.ownsRow B E size v n xs) (hg : GrownL w w' vs) (ap : ∀ x ∈ vs, Apart v x) : w'.ownsRow B E size v n xs :=
  own_same h fun b hb => hg.block b (h.lt b hb).2 fun x hx e => by
    rcases ap x hx with h1 | h1
    · rw [hb] at h1; cases h1
    · exact h1 (hb.trans e.symm)

theorem KOwnU.keptL {w w' : World} {vs us : List Value} {B : Nat} {v : Value} {l : List KnotM} (h : KOwnU w B v l us) (hg : GrownL w w' vs) (ap : ∀ y ∈ v :: us, ∀ x ∈ vs, Apart y x) : KOwnU w' B v l us :=
  ⟨h.1, own_keptL h.2.1 hg (ap v (by simp)), fun j h1 h2 => own_keptL (h.2.2.1 j h1 h2) hg (ap _ (List.mem_cons_of_mem _ (List.getElem_mem h2))), h.2.2.2⟩

theorem GrownL.sub {a b : World} {vs us : List Value} (h : GrownL a b vs) (hs : ∀ x ∈ vs, x ∈ us) : GrownL a b us :=
  ⟨h.os, h.tape, h.output, h.size, fun i hi hx => h.block i hi fun x hv => hx x (hs x hv)⟩
theorem GrownL.setCell {a b : World} {vs : List Value} {x : Value} {g : Nat} (h : GrownL a b vs) (hx : x ∈ vs) (hg : x.ownBlock = some g) (j : Nat) (v : Value) : GrownL a (b.setCell ⟨g, j, none⟩ v) vs :=
  h.trans (.grown (x := x) (by rw [hg]; exact grown_setCell b g j v) hx)
theorem GrownL.alloc {a b : World} {vs : List Value} (h : GrownL a b vs) (o : Obj) : GrownL a (b.alloc o) vs := h.trans (.below ((Below.refl _ _).alloc (Nat.le_refl _) o))

theorem GrownL.grown_new {a b c : World} {vs : List Value} {r : Option Nat} (h : GrownL a b vs) (k : b.grownBy c r) (hr : ∀ i, r = some i → i < a.heap.size → ∃ x ∈ vs, x.ownBlock = some i) : GrownL a c vs :=
  ⟨k.os.trans h.os, k.tape.trans h.tape, k.output.trans h.output, Nat.le_trans h.size k.size, fun i hi hx => (k.block i (Nat.lt_of_lt_of_le hi h.size) (fun e => by obtain ⟨x, hx1, hx2⟩ := hr i e.symm hi; exact hx x hx1 hx2)).trans (h.block i hi hx)⟩

/-- The first elements of an own row. -/
theorem own_take {w : World} {B g n cap k size : Nat} {e : TypeId} {xs : List Value} (h : w.ownsRow B e size (.slice (some ⟨g, 0, none⟩) n cap) n xs) (hk : k ≤ n) : w.ownsRow B e size (.slice (some ⟨g, 0, none⟩) k cap) k (xs.take (k * size)) := by
  have hl := h.1
  rcases h.2 with ⟨h1, _⟩ | ⟨g2, cap2, cur, h1, hb, hh, h2, h3, h4, h5⟩
  · cases h1
  · cases h1
    have hks : k * size ≤ n * size := Nat.mul_le_mul_right _ hk
    refine ⟨by rw [List.length_take, hl]; omega, .inr ⟨g, cap, cur, rfl, hb, hh, by omega, h3, h4, ?_⟩⟩
    rw [← h5, List.take_take, Nat.min_eq_left hks]

theorem GrownL.same {a b : World} {x y : Value} (h : GrownL a b [x]) (e : x.ownBlock = y.ownBlock) : GrownL a b [y] :=
  ⟨h.os, h.tape, h.output, h.size, fun i hi hx => h.block i hi fun z hz => by rw [List.mem_singleton.1 hz, e]; exact hx y (by simp)⟩

end Go.Proofs.YtojifogefnjefaaDoor

/- The walks of the exact laws' measures of knots, and of their looks whether two rows of knots are alike. -/
namespace Go.Proofs.YtojifogefnjefaaDoor
open Go.RowKit

/-- What is left behind n more. -/
def szI (n : Nat) (left : Int) : Int := if left - n < 0 then -1 else left - n
def szK (x : KnotM) (left : Int) : Int := if left - x.1.size < 0 then -1 else szI x.2.length (left - x.1.size)
def szTo : List KnotM → Int → Int
  | [], a => a
  | x :: l, a => if szK x a < 0 then -1 else szTo l (szK x a)
def szKs (l : List KnotM) (left : Int) : Int := if left - l.length < 0 then -1 else szTo l (left - l.length)

theorem szI_le (n : Nat) (a : Int) (h : 0 ≤ a) : szI n a ≤ a := by unfold szI; split <;> omega
theorem szK_le (x : KnotM) (a : Int) (h : 0 ≤ a) : szK x a ≤ a := by
  unfold szK; split
  · omega
  · have := szI_le x.2.length (a - x.1.size) (by omega); omega
theorem szK_small {x : KnotM} {a : Int} (h : 0 ≤ szK x a) : (x.1.size : Int) ≤ a ∧ (x.2.length : Int) ≤ a := by
  unfold szK szI at h; split at h
  · omega
  · split at h <;> omega
theorem szTo_small : ∀ {l : List KnotM} {a : Int}, 0 ≤ a → 0 ≤ szTo l a → ∀ x ∈ l, (x.1.size : Int) ≤ a ∧ (x.2.length : Int) ≤ a
  | x :: l, a, h0, h, y, hy => by
    unfold szTo at h
    split at h
    · omega
    · rename_i h2
      have h3 : 0 ≤ szK x a := by omega
      have h4 := szK_le x a h0
      rcases List.mem_cons.1 hy with rfl | hy
      · exact szK_small h3
      · have := szTo_small h3 h y hy; omega
theorem szKs_small {l : List KnotM} {a : Int} (h0 : 0 ≤ a) (h : 0 ≤ szKs l a) : (l.length : Int) ≤ a ∧ ∀ x ∈ l, (x.1.size : Int) ≤ a ∧ (x.2.length : Int) ≤ a := by
  unfold szKs at h
  split at h
  · omega
  · exact ⟨by omega, fun x hx => by have := szTo_small (by omega) h x hx; omega⟩

set_option maxRecDepth 100000 in
set_option maxHeartbeats 400000 in
theorem szInts_any (v : Value) (l : List Int) (left : Int) (w : World) (h0 : 0 ≤ left) (h1 : left ≤ 1048576) (hv : IntsAt w v l) :
    Calls Tryd.prog 27 #[v, .int .i64 left] w fun e w' => e = .returned (.int .i64 (szI l.length left)) ∧ w = w' := by
  obtain ⟨a, c, rfl, hc1, hc2, _⟩ := hv
  obtain ⟨n, hn⟩ : ∃ n, l.length = n := ⟨_, rfl⟩
  rw [hn] at hc1 ⊢
  unfold maxLen at hc2
  have g1 : IntKind.i64.wrap (left - n) = left - n := by rw [IntKind.wrap_i64]; omega
  by_cases h : left - n < 0
  · have HE : Hid (szI n left = -1) := Lib.hid (by unfold szI; rw [if_pos h])
    have g2 : decide (left - n < 0) = true := decide_eq_true h
    clear hc1 hc2 hn
    go_enter Tryd.func27, Tryd.ntmps27
    go_wp2
    go_ret
    exact ⟨ret_int HE.out.symm, rfl⟩
  · have HE : Hid (szI n left = left - n) := Lib.hid (by unfold szI; rw [if_neg h])
    have g2 : decide (left - n < 0) = false := decide_eq_false h
    clear hc1 hc2 hn
    go_enter Tryd.func27, Tryd.ntmps27
    go_wp2
    go_ret
    exact ⟨ret_int HE.out.symm, rfl⟩

theorem szI_two (n : Nat) (a : Int) (_h : 0 ≤ a) : (szI n a < 0 ∧ szI n a = -1) ∨ ¬ szI n a < 0 := by unfold szI; split <;> omega

set_option maxRecDepth 100000 in
set_option maxHeartbeats 400000 in
theorem szKnot_any (v : Value) (x : KnotM) (left : Int) (w : World) (h0 : 0 ≤ left) (h1 : left ≤ 1048576) (hp : x.1.size ≤ maxLen) (hv : IntsAt w v x.2) :
    Calls Tryd.prog 11 #[.agg #[.string x.1, v], .int .i64 left] w fun e w' => e = .returned (.int .i64 (szK x left)) ∧ Below w.heap.size w w' := by
  obtain ⟨p, ids⟩ := x
  obtain ⟨n, hn⟩ : ∃ n, p.size = n := ⟨_, rfl⟩
  have HN := Lib.hid hn
  have hp : n ≤ maxLen := hn ▸ hp
  unfold maxLen at hp
  have HV := Lib.hid hv
  obtain ⟨ua, uc, rfl, _, _, _⟩ := hv
  have g1 : IntKind.i64.wrap (left - p.size) = left - p.size := by rw [IntKind.wrap_i64, hn]; omega
  by_cases h : left - p.size < 0
  · have HE : Hid (szK (p, ids) left = -1) := Lib.hid (by unfold szK; rw [if_pos h])
    have g2 : decide (left - p.size < 0) = true := decide_eq_true h
    clear hp hn HN
    go_enter Tryd.func11, Tryd.ntmps11
    go_wp2
    go_ret
    exact ⟨ret_int HE.out.symm, (Below.refl _ _).alloc (Nat.le_refl _) _⟩
  · have HE : Hid (szK (p, ids) left = szI ids.length (left - p.size)) := Lib.hid (by unfold szK; rw [if_neg h])
    have g2 : decide (left - p.size < 0) = false := decide_eq_false h
    have CS := Lib.hid (fun wx (h : IntsAt wx (.slice ua ids.length uc) ids) => szInts_any _ ids (left - p.size) wx (by omega) (by omega) h)
    have H2 := Lib.hid (szI_two ids.length (left - p.size) (by omega))
    obtain ⟨r, hr⟩ : ∃ r, szI ids.length (left - p.size) = r := ⟨_, rfl⟩
    rw [hr] at CS H2 HE
    clear hp hn HN hr h
    go_enter Tryd.func11, Tryd.ntmps11
    go_wp2_with fail
    refine (CS.out _ (HV.out.alloc _)).mono ?_
    rintro e w2 ⟨rfl, rfl⟩
    rcases H2.out with ⟨h3, h4⟩ | h3
    · have g3 : decide (r < 0) = true := decide_eq_true h3
      subst h4
      clear H2 h3
      go_wp2
      go_ret
      exact ⟨ret_int HE.out.symm, (Below.refl _ _).alloc (Nat.le_refl _) _⟩
    · have g3 : decide (r < 0) = false := decide_eq_false (by omega)
      clear H2 h3
      go_wp2
      go_ret
      exact ⟨ret_int HE.out.symm, (Below.refl _ _).alloc (Nat.le_refl _) _⟩

set_option maxRecDepth 100000 in
set_option maxHeartbeats 800000 in
theorem szKnots_any (v : Value) (l : List KnotM) (left : Int) (w : World) (h0 : 0 ≤ left) (h1 : left ≤ 1048576) (hs : ∀ x ∈ l, x.1.size ≤ maxLen) (hv : KnotsAt w v l) :
    Calls Tryd.prog 4 #[v, .int .i64 left] w fun e w' => e = .returned (.int .i64 (szKs l left)) ∧ Below w.heap.size w w' := by
  obtain ⟨a, c, rfl, hc1, hc2, hc3⟩ := hv
  have HC := Lib.hid hc3
  have HS := Lib.hid hs
  unfold maxLen at hc2
  have g1 : IntKind.i64.wrap (left - l.length) = left - l.length := by rw [IntKind.wrap_i64]; omega
  clear hc3 hs
  by_cases h : left - l.length < 0
  · have HE : Hid (szKs l left = -1) := Lib.hid (by unfold szKs; rw [if_pos h])
    have g2 : decide (left - l.length < 0) = true := decide_eq_true h
    clear hc1 hc2
    go_enter Tryd.func4, Tryd.ntmps4
    go_wp2
    go_ret
    exact ⟨ret_int HE.out.symm, Below.refl _ _⟩
  · have HE : Hid (szKs l left = szTo l (left - l.length)) := Lib.hid (by unfold szKs; rw [if_neg h])
    have g2 : decide (left - l.length < 0) = false := decide_eq_false h
    go_enter Tryd.func4, Tryd.ntmps4
    go_wp2
    go_loopw [1, 5] (fun lv i wr => ∃ (k : Nat) (q : Int), k ≤ l.length ∧ i = .int .i64 k ∧ lv = .int .i64 q ∧ 0 ≤ q ∧ q ≤ 1048576 ∧ Hid (szTo l (left - l.length) = szTo (l.drop k) q) ∧ Hid (Below w.heap.size w wr)) (fun _ i _ => l.length - (intOf i).toNat)
    case atStart => exact ⟨0, _, Nat.zero_le _, rfl, rfl, by omega, by omega, rfl, Below.refl _ _⟩
    case round =>
      obtain ⟨k, q, hk, rfl, rfl, hq0, hq1, HR, HB⟩ := hrel
      by_cases hlt : k < l.length
      · obtain ⟨b, o, rfl, hin⟩ : ∃ b o, a = some ⟨b, o, none⟩ ∧ KnotsIn w b o l := by
          rcases HC.out with h | h
          · subst h; simp at hlt
          · exact h
        obtain ⟨hp, u0, hu0, hids⟩ := (hin.below HB.out) k hlt
        have CZ := Lib.hid (szKnot_any u0 l[k] q wr hq0 hq1 (HS.out _ (List.getElem_mem hlt)) hids)
        obtain ⟨ua, uc, rfl, _, _, _⟩ := hids
        have HD : Hid (szTo (l.drop k) q = if szK l[k] q < 0 then -1 else szTo (l.drop (k + 1)) (szK l[k] q)) := Lib.hid (by rw [List.drop_eq_getElem_cons hlt]; rfl)
        have hle := szK_le l[k] q hq0
        obtain ⟨x, hx⟩ : ∃ x, l[k] = x := ⟨_, rfl⟩
        rw [hx] at hp hu0 CZ HD hle
        clear hin hx
        obtain ⟨r, hr⟩ : ∃ r, szK x q = r := ⟨_, rfl⟩
        rw [hr] at CZ HD hle
        clear hr
        go_wp2_with fail
        refine CZ.out.mono ?_
        clear CZ
        rintro e w2 ⟨rfl, hb⟩
        have HB2 := Lib.hid (below_end HB.out hb)
        clear hb HB
        by_cases h3 : r < 0
        · have g3 : decide (r < 0) = true := decide_eq_true h3
          have HF : Hid (szKs l left = -1) := Lib.hid (by rw [HE.out, HR.out, HD.out, if_pos h3])
          clear HE HR HD
          go_wp2
          go_ret
          exact ⟨ret_int HF.out.symm, HB2.out⟩
        · have g3 : decide (r < 0) = false := decide_eq_false h3
          have HN : Hid (szTo l (left - l.length) = szTo (l.drop (k + 1)) r) := Lib.hid (by rw [HR.out, HD.out, if_neg h3])
          have h4 : 0 ≤ r := by omega
          have h5 : r ≤ 1048576 := by omega
          clear HE HR HD
          go_wp2
          go_roundw
          case rel => exact ⟨k + 1, r, by omega, by go_num, rfl, h4, h5, HN, HB2⟩
          case measure => simp [intOf]; omega
      · obtain rfl : k = l.length := by omega
        have HF : Hid (szKs l left = q) := Lib.hid (by rw [HE.out, HR.out, List.drop_length]; rfl)
        go_wp2
        go_ret
        exact ⟨ret_int HF.out.symm, HB.out⟩

end Go.Proofs.YtojifogefnjefaaDoor
