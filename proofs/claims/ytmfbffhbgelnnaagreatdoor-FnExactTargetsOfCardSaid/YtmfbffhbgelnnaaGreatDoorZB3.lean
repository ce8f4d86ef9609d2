/- Small texts, laid together. -/
import Derived.Test.YtmfbffhbgelnnaaGreatDoorZB2
import Derived.Deep.RegionHeld
import Derived.Deep.RegionHeld3
import Derived.Test.YtmfbffhbgelnnaaGreatDoorZB1
import Derived.Deep.Slices
import Derived.ChangeSame
import Derived.Deep.Cut
import Derived.Lib.Hide
import Derived.Deep.Draws
import Derived.WalkSpells
import Derived.WalkLawsBesides
import Derived.Deep.CutBlock
import Derived.Lib.SmallJoins
import Derived.BigQuiet
import Derived.Deep.QuietTactic
import Derived.Deep.AppendLies
import Derived.Test.YtmfbffhbgelnnaaGreatDoorRows
import Derived.Laws.StructEq
import Derived.Laws.Rows
set_option linter.unusedSimpArgs false
set_option linter.unusedVariables false
/- The walks of cmp.Compare at int64, of cmp.Or. -/
namespace Go.Proofs.YtmfbffhbgelnnaaGreatDoor
open Go.RowKit Go.Sort

set_option maxRecDepth 100000 in
set_option maxHeartbeats 800000 in
theorem compareI_any (x y : Int) (w : World) :
    Calls Tryz.prog 132 #[.int .i64 x, .int .i64 y] w fun e w' => e = .returned (.int .i64 (cmpI x y)) ∧ w' = w := by
  have e1 : (x != x) = false := by simp
  have e2 : (y != y) = false := by simp
  have HE : Hid (cmpI x y = if x < y then -1 else if y < x then 1 else 0) := rfl
  generalize cmpI x y = c at HE ⊢
  go_enter Tryz.func132, Tryz.ntmps132
  by_cases h1 : x < y
  · have g1 : decide (x < y) = true := decide_eq_true h1
    have HF : Hid (c = -1) := Lib.hid (by rw [HE.out, if_pos h1])
    clear h1 HE
    go_wp2
    go_ret
    exact ⟨by rw [HF.out]; rfl, rfl⟩
  · have g1 : decide (x < y) = false := decide_eq_false h1
    by_cases h2 : y < x
    · have g2 : decide (y < x) = true := decide_eq_true h2
      have HF : Hid (c = 1) := Lib.hid (by rw [HE.out, if_neg h1, if_pos h2])
      clear h1 h2 HE
      go_wp2
      go_ret
      exact ⟨by rw [HF.out]; rfl, rfl⟩
    · have g2 : decide (y < x) = false := decide_eq_false h2
      have HF : Hid (c = 0) := Lib.hid (by rw [HE.out, if_neg h1, if_neg h2])
      clear h1 h2 HE
      go_wp2
      go_ret
      exact ⟨by rw [HF.out]; rfl, rfl⟩

set_option maxRecDepth 100000 in
set_option maxHeartbeats 800000 in
theorem or_any (x y : Int) (g c : Nat) (w : World) (h0 : w.cell? ⟨g, 0, none⟩ = some (.int .i64 x)) (h1 : w.cell? ⟨g, 1, none⟩ = some (.int .i64 y)) :
    Calls Tryz.prog 130 #[.slice (some ⟨g, 0, none⟩) 2 c] w fun e w' => e = .returned (.int .i64 (if x = 0 then y else x)) ∧ w' = w := by
  have H0 := Lib.hid h0
  have H1 := Lib.hid h1
  clear h0 h1
  go_enter Tryz.func130, Tryz.ntmps130
  go_wp2
  go_loopw [8] (fun i wr => ∃ k : Nat, k ≤ 2 ∧ i = .int .i64 k ∧ wr = w ∧ (1 ≤ k → x = 0) ∧ (2 ≤ k → y = 0)) (fun i _ => 2 - (intOf i).toNat)
  case atStart => exact ⟨0, by omega, rfl, rfl, by omega, by omega⟩
  case round =>
    obtain ⟨k, hk, rfl, rfl, hx, hy⟩ := hrel
    by_cases h2 : k = 2
    · subst h2
      have ex := hx (by omega)
      have ey := hy (by omega)
      subst ex
      subst ey
      go_wp2
      go_ret
      exact ⟨by simp, rfl⟩
    · by_cases h1 : k = 1
      · subst h1
        have ex := hx (by omega)
        subst ex
        have c1 := H1.out
        by_cases hy0 : y = 0
        · subst hy0
          have g1 : ((0 : Int) != 0) = false := by decide
          go_wp2
          go_roundw
          case rel => exact ⟨2, by omega, by go_num, by trivial, by simp, by simp⟩
          case measure => simp [intOf]
        · have g1 : (y != 0) = true := by simp [hy0]
          go_wp2
          go_ret
          exact ⟨by simp, rfl⟩
      · obtain rfl : k = 0 := by omega
        have c0 := H0.out
        by_cases hx0 : x = 0
        · subst hx0
          have g1 : ((0 : Int) != 0) = false := by decide
          go_wp2
          go_roundw
          case rel => exact ⟨1, by omega, by go_num, by trivial, by simp, by omega⟩
          case measure => simp [intOf]
        · have g1 : (x != 0) = true := by simp [hx0]
          go_wp2
          go_ret
          exact ⟨by simp [hx0], rfl⟩

theorem grow_drew_grow (w : World) (os os' : Array Obj) (q n : Nat) : grow ((grow (w.drewN q) os).drewN n) os' = grow (w.drewN (q + n)) (os ++ os') := by
  show grow (grow ((w.drewN q).drewN n) os) os' = _
  rw [grow_grow]
  congr 1
  simp [World.drewN, Nat.add_assoc]

/-- Some draws and blocks behind w. -/
def After (w wx : World) : Prop := ∃ n os, wx = grow (w.drewN n) os

theorem After.drew {w wx : World} (h : After w wx) : After w wx.drew := by
  obtain ⟨n, os, rfl⟩ := h
  exact ⟨n + 1, os, rfl⟩

theorem After.grow {w wx : World} (h : After w wx) (os : Array Obj) : After w (grow wx os) := by
  obtain ⟨n, os2, rfl⟩ := h
  exact ⟨n, _, by rw [grow_grow]⟩

theorem After.alloc {w wx : World} (h : After w wx) (o : Obj) : After w (wx.alloc o) := by rw [alloc_eq_grow]; exact h.grow _

theorem cell_after {wx : World} {os : Array Obj} {a : Addr} {v : Value} (h : wx.cell? a = some v) : (grow wx os).cell? a = some v := by
  rw [cell?_grow _ _ _ (World.block_lt_of_cell? _ _ h)]; exact h

end Go.Proofs.YtmfbffhbgelnnaaGreatDoor

/- Rows of knots that come in as arguments: what their cells hold. -/
namespace Go.Proofs.YtmfbffhbgelnnaaGreatDoor
open Go.ChangeShapes Go.WideShapes Go.RowKit Go.Deep

section
variable {H : Type} {enc : TypeId × Value → H} {P : Program} {w : World} {base : Nat} {spare : Nat → Bool} {held : Bool}

/-- An address of which a first cell is there has no spot. -/
theorem addr_plain {a : Addr} {v : Value} (h : w.cell? a = some v) : a = ⟨a.block, a.off, none⟩ := by
  obtain ⟨b, o, s⟩ := a
  cases s with
  | none => rfl
  | some s =>
    unfold World.cell? at h
    split at h <;> simp at h

theorem addr_mk (b o n : Nat) : (⟨b, o, none⟩ : Addr).add n = ⟨b, o + n, none⟩ := by
  unfold Addr.add; split <;> simp_all

theorem ints_read {t e : TypeId} {fuel : Nat} {cs : List Value} {x : DataW H × List MemPlace} (ht : P.underlying t = some (.slice e)) (he : P.underlying e = some (.int .i64)) (hc : P.cellsOf e = 1)
    (h : DataW.trod enc P w base spare held fuel t cs = some x) : ∃ u l, cs = [u] ∧ IntsAt w u l := by
  rcases open_ints ht he hc h with ⟨rfl, _⟩ | ⟨a, len, cap, zs, rfl, _, hl, hm, hz, _, hcell, _⟩
  · exact ⟨_, [], rfl, none, 0, rfl, Nat.le_refl _, by unfold maxLen; omega, .inl rfl⟩
  · have hz2 : len ≤ zs.length := by rw [hz]; split <;> omega
    have hlen : (zs.take len).length = len := by rw [List.length_take]; omega
    refine ⟨_, zs.take len, rfl, _, cap, by rw [hlen], by omega, hm, ?_⟩
    by_cases h0 : len = 0
    · subst h0; exact .inl rfl
    · have ha : a = ⟨a.block, a.off, none⟩ := addr_plain (by have := hcell 0 (by omega); simpa [Addr.add] using this)
      refine .inr ⟨a.block, a.off, by rw [← ha], fun j hj => ?_⟩
      have hj2 : j < zs.length := by omega
      have := hcell j hj2
      rw [ha, addr_mk] at this
      rw [this, List.getElem_take, List.getD_eq_getElem?_getD, List.getElem?_eq_getElem hj2]; rfl

theorem knot_read {t ts ti ei : TypeId} {f0 f1 : Field} {fuel : Nat} {cs : List Value} {x : DataW H × List MemPlace} (ht : P.underlying t = some (.struct #[f0, f1])) (hC : P.cellsOf t = 2)
    (h0 : f0.type = ts) (o0 : f0.offset = 0) (h1 : f1.type = ti) (o1 : f1.offset = 1) (hs : P.underlying ts = some .string) (hcs : P.cellsOf ts = 1) (hti : P.underlying ti = some (.slice ei)) (hci : P.cellsOf ti = 1) (hei : P.underlying ei = some (.int .i64)) (hce : P.cellsOf ei = 1)
    (h : DataW.trod enc P w base spare held fuel t cs = some x) : ∃ p u l, cs = [.string p, u] ∧ p.size ≤ maxLen ∧ IntsAt w u l := by
  obtain ⟨y0, y1, n, _, hl, q0, q1⟩ := trod_struct2 ht h
  rw [hC] at hl
  match cs, hl with
  | [c0, c1], _ =>
    rw [h0, o0, hcs] at q0
    rw [h1, o1, hci] at q1
    obtain ⟨p, hp, _, hsz⟩ := DataW.trod_string hs q0
    obtain ⟨u, l, hu, hi⟩ := ints_read hti hei hce q1
    simp only [List.drop_zero, List.take_succ_cons, List.take_zero, List.cons.injEq, and_true] at hp
    simp only [List.drop_succ_cons, List.drop_zero, List.take_succ_cons, List.take_zero, List.cons.injEq, and_true] at hu
    subst hp hu
    exact ⟨p, _, l, rfl, hsz, hi⟩

theorem knots_read {tt t ts ti ei : TypeId} {f0 f1 : Field} {fuel : Nat} {cs : List Value} {x : DataW H × List MemPlace} (htt : P.underlying tt = some (.slice t)) (ht : P.underlying t = some (.struct #[f0, f1])) (hC : P.cellsOf t = 2)
    (h0 : f0.type = ts) (o0 : f0.offset = 0) (h1 : f1.type = ti) (o1 : f1.offset = 1) (hs : P.underlying ts = some .string) (hcs : P.cellsOf ts = 1) (hti : P.underlying ti = some (.slice ei)) (hci : P.cellsOf ti = 1) (hei : P.underlying ei = some (.int .i64)) (hce : P.cellsOf ei = 1)
    (h : DataW.trod enc P w base spare held fuel tt cs = some x) : ∃ v l, cs = [v] ∧ KnotsAt w v l ∧ ∀ y ∈ l, y.1.size ≤ maxLen := by
  rcases open_slice htt h with ⟨rfl, _⟩ | ⟨a, len, cap, m, n, D, Pl, rfl, _, hl, hm, hmm, _, hx⟩
  · exact ⟨_, [], rfl, ⟨none, 0, rfl, Nat.le_refl _, by unfold maxLen; omega, .inl rfl⟩, by simp⟩
  · have hlm : len ≤ m := by rw [hmm]; split <;> omega
    have hk : ∀ i, i < len → ∃ y : KnotM, y.1.size ≤ maxLen ∧ w.cell? (a.add (i * 2)) = some (.string y.1) ∧ ∃ u, w.cell? ((a.add (i * 2)).add 1) = some u ∧ IntsAt w u y.2 := fun i hi => by
      obtain ⟨cs', e1, e2⟩ := hx i (by omega)
      rw [hC] at e1
      obtain ⟨_, _, hat⟩ := World.cells?_some e1
      obtain ⟨p, u, l, rfl, hsz, hi⟩ := knot_read ht hC h0 o0 h1 o1 hs hcs hti hci hei hce e2
      refine ⟨(p, l), hsz, ?_, u, ?_, hi⟩
      · have := hat 0 (by omega); simpa [Addr.add] using this
      · have := hat 1 (by omega); simpa using this
    have : Inhabited KnotM := ⟨(⟨#[]⟩, [])⟩
    obtain ⟨f, hf⟩ := choose_lt hk
    refine ⟨_, (List.range len).map f, rfl, ⟨some a, cap, by simp, by simpa using hl, hm, ?_⟩, fun y hy => ?_⟩
    · by_cases h00 : len = 0
      · subst h00; exact .inl rfl
      · have ha : a = ⟨a.block, a.off, none⟩ := addr_plain (by have := (hf 0 (by omega)).2.1; simpa [Addr.add] using this)
        refine .inr ⟨a.block, a.off, by rw [← ha], fun j hj => ?_⟩
        simp only [List.length_map, List.length_range] at hj
        obtain ⟨_, c1, u, c2, hi⟩ := hf j hj
        simp only [List.getElem_map, List.getElem_range]
        rw [ha, addr_mk] at c1 c2
        rw [addr_mk] at c2
        exact ⟨c1, u, c2, hi⟩
    · obtain ⟨i, hi, rfl⟩ := List.mem_map.1 hy
      exact (hf i (List.mem_range.1 hi)).1

end

end Go.Proofs.YtmfbffhbgelnnaaGreatDoor

/- A message in a box. -/
namespace Go.Proofs.YtmfbffhbgelnnaaGreatDoor
open Go.RowKit

/-- The message lies boxed in block B. -/
def MBox (w : World) (B : Nat) (T : TypeId) (x : MsgM) : Prop := w.heap[B]? = some (.cells #[.int .i64 x.1, .int .i64 x.2.1, .string x.2.2.1, .int .i64 x.2.2.2] T (0, 0))
theorem MBox.below {w w' : World} {B : Nat} {T : TypeId} {x : MsgM} (h : MBox w B T x) (hb : Below w.heap.size w w') : MBox w' B T x := (hb.block _ (Array.getElem?_eq_some_iff.1 h).1).trans h
theorem MBox.new (w : World) (T : TypeId) (x : MsgM) : MBox (w.alloc (.cells #[.int .i64 x.1, .int .i64 x.2.1, .string x.2.2.1, .int .i64 x.2.2.2] T)) w.heap.size T x := heap_alloc_new _ _
theorem MBox.cells {w : World} {B : Nat} {T : TypeId} {x : MsgM} (h : MBox w B T x) : w.cell? ⟨B, 0, none⟩ = some (.int .i64 x.1) ∧ w.cell? ⟨B, 1, none⟩ = some (.int .i64 x.2.1) ∧ w.cell? ⟨B, 2, none⟩ = some (.string x.2.2.1) ∧ w.cell? ⟨B, 3, none⟩ = some (.int .i64 x.2.2.2) := by
  unfold MBox at h
  refine ⟨?_, ?_, ?_, ?_⟩ <;> simp [World.cell?, h]

end Go.Proofs.YtmfbffhbgelnnaaGreatDoor

/- An answer that is a part of an own row of messages: what it holds. -/
namespace Go.Proofs.YtmfbffhbgelnnaaGreatDoor
open Go.RowKit

theorem own_cap2 {w : World} {B n size g c : Nat} {E : TypeId} {xs : List Value} (h : w.ownsRow B E size (.slice (some ⟨g, 0, none⟩) n c) n xs) : n ≤ c := by
  rcases h.2 with ⟨e, _⟩ | ⟨g2, cap, cur, e, _, _, h4, _⟩
  · cases e
  · cases e; exact h4

theorem own_max {w : World} {B n size g c : Nat} {E : TypeId} {xs : List Value} (h : w.ownsRow B E size (.slice (some ⟨g, 0, none⟩) n c) n xs) : c ≤ maxLen := by
  rcases h.2 with ⟨e, _⟩ | ⟨g2, cap, cur, e, _, _, h4, h5, _⟩
  · cases e
  · cases e; exact h5

/-- u is n elements of the row V, from its p-th on. -/
def PartOf (V : Value) (p n : Nat) (u : Value) : Prop :=
  (V = .slice none 0 0 ∧ u = .slice none 0 0 ∧ n = 0) ∨ ∃ g o c C N, V = .slice (some ⟨g, 0, none⟩) N C ∧ u = .slice (some ⟨g, o, none⟩) n c ∧ n ≤ c ∧ c ≤ maxLen ∧ (n = 0 ∨ o = p * 4)

theorem PartOf.slice {V u : Value} {p n : Nat} (h : PartOf V p n u) : ∃ a c, u = .slice a n c := by
  rcases h with ⟨_, rfl, rfl⟩ | ⟨g, o, c, C, N, _, rfl, _⟩
  · exact ⟨none, 0, rfl⟩
  · exact ⟨_, _, rfl⟩

/-- A whole own row is a part of itself. -/
theorem PartOf.whole {w : World} {B : Nat} {v : Value} {l : List MsgM} (h : MOwn w B v l) : PartOf v 0 l.length v := by
  rcases h.2 with ⟨rfl, h0⟩ | ⟨g, cap, cur, rfl, _, _, h4, h5, _, _⟩
  · exact .inl ⟨rfl, rfl, h0⟩
  · exact .inr ⟨g, 0, cap, cap, l.length, rfl, rfl, h4, h5, .inr (by omega)⟩

theorem part_at {w : World} {B : Nat} {V u : Value} {pre l post : List MsgM} (h : MOwn w B V (pre ++ l ++ post)) (hp : PartOf V pre.length l.length u) : MsgsAt w u l := by
  rcases hp with ⟨rfl, rfl, h0⟩ | ⟨g, o, c, C, N, rfl, rfl, h1, h2, h3⟩
  · exact ⟨none, 0, by rw [h0], by omega, by unfold maxLen; omega, .inl (List.length_eq_zero_iff.1 h0)⟩
  · refine ⟨_, c, rfl, h1, h2, ?_⟩
    rcases h3 with h3 | h3
    · exact .inl (List.length_eq_zero_iff.1 h3)
    · refine .inr ⟨g, o, rfl, fun j hj => ?_⟩
      have e := mcells_at (pre ++ l ++ post) (pre.length + j) (by simp; omega)
      have e2 : (pre ++ l ++ post)[pre.length + j]'(by simp; omega) = l[j] := by
        rw [List.getElem_append_left (by simp; omega), List.getElem_append_right (by omega)]
        simp
      rw [e2] at e
      obtain ⟨_, _, eN⟩ := own_slice h
      cases eN
      have hlen : (pre ++ l ++ post).length = pre.length + l.length + post.length := by simp; omega
      subst h3
      have hc := fun i (hi : i < (pre ++ l ++ post).length * 4) => h.cellAt i hi
      refine ⟨?_, ?_, ?_, ?_⟩
      · rw [show pre.length * 4 + j * 4 = (pre.length + j) * 4 by omega, hc _ (by omega)]; exact e.1
      · rw [show pre.length * 4 + j * 4 + 1 = (pre.length + j) * 4 + 1 by omega, hc _ (by omega)]; exact e.2.1
      · rw [show pre.length * 4 + j * 4 + 2 = (pre.length + j) * 4 + 2 by omega, hc _ (by omega)]; exact e.2.2.1
      · rw [show pre.length * 4 + j * 4 + 3 = (pre.length + j) * 4 + 3 by omega, hc _ (by omega)]; exact e.2.2.2

end Go.Proofs.YtmfbffhbgelnnaaGreatDoor

/- slices.IndexFunc and slices.ContainsFunc at messages, with whatever closure that only makes memory of its own. -/
namespace Go.Proofs.YtmfbffhbgelnnaaGreatDoor
open Go.RowKit

/-- What is asked of the closure. -/
def PredM (g : Nat) (lb : Array Value) (p : MsgM → Bool) (l : List MsgM) (w : World) : Prop :=
  ∀ (W : World) (x : MsgM), x ∈ l → Below w.heap.size w W → Calls Tryz.prog g (#[magg x] ++ lb) W fun e w' => e = .returned (.bool (p x)) ∧ Below W.heap.size W w'

set_option maxRecDepth 100000 in
set_option maxHeartbeats 3200000 in
theorem indexG_any (u : Value) (l : List MsgM) (pr : MsgM → Bool) (g : Nat) (lb : Array Value) (eg : ∀ args w, (callFunc g args).run Tryz.prog w = .ok (.enter g args) w) (w : World) (hl : l.length ≤ 2000000) (hv : MsgsAt w u l) (hp : PredM g lb pr l w) :
    Calls Tryz.prog 139 #[u, .func (.func g) #[] lb] w fun e w' =>
      ∃ z : Int, e = .returned (.int .i64 z) ∧ ((z = -1 ∧ ∀ x ∈ l, pr x = false) ∨ ∃ k : Nat, z = k ∧ ∃ h : k < l.length, pr l[k] = true ∧ ∀ j (hj : j < k), pr (l[j]'(by omega)) = false) ∧ Below w.heap.size w w' := by
  obtain ⟨a, c, rfl, hc1, hc2, hc3⟩ := hv
  have HC := Lib.hid hc3
  have HP := Lib.hid hp
  clear hc3 hp
  go_enter Tryz.func139, Tryz.ntmps139
  go_wp2
  go_loopw [8] (fun i wr => ∃ k : Nat, k ≤ l.length ∧ i = .int .i64 k ∧ Hid (∀ j (hj : j < k) (hk : j < l.length), pr l[j] = false) ∧ Hid (Below w.heap.size w wr)) (fun i _ => l.length - (intOf i).toNat)
  case atStart => exact ⟨0, Nat.zero_le _, rfl, Lib.hid (fun j hj => absurd hj (Nat.not_lt_zero _)), Below.refl _ _⟩
  case round =>
    obtain ⟨k, hk, rfl, HT, HB⟩ := hrel
    by_cases hlt : k < l.length
    · obtain ⟨b, o, rfl, hin⟩ : ∃ b o, a = some ⟨b, o, none⟩ ∧ MsgsIn w b o l := by
        rcases HC.out with h | h
        · subst h; simp at hlt
        · exact h
      obtain ⟨p0, p1, p2, p3⟩ := (hin.below HB.out) k hlt
      have CX := Lib.hid (HP.out wr l[k] (List.getElem_mem hlt) HB.out)
      have HG : Hid (pr l[k] = true → (∃ kk : Nat, (k : Int) = kk ∧ ∃ h : kk < l.length, pr l[kk] = true ∧ ∀ j (hj : j < kk), pr (l[j]'(by omega)) = false)) := Lib.hid (fun h => ⟨k, rfl, hlt, h, fun j hj => HT.out j hj (by omega)⟩)
      have HN : Hid (pr l[k] = false → ∀ j (hj : j < k + 1) (hk : j < l.length), pr l[j] = false) := Lib.hid (fun h j hj hk => by
        rcases Nat.lt_or_ge j k with h1 | h1
        · exact HT.out j h1 hk
        · have : j = k := by omega
          subst this; exact h)
      generalize pr l[k] = gb at CX HG HN
      generalize l[k] = x at p0 p1 p2 p3 CX
      obtain ⟨q, t, p, d⟩ := x
      clear hin HT
      cases gb
      · have HT := Lib.hid (HN.out (by trivial))
        go_wp2_with fail
        refine CX.out.mono ?_
        rintro e w1 ⟨rfl, hb⟩
        have B1 := Lib.hid (below_end HB.out hb)
        clear hb p0 p1 p2 p3
        go_wp2
        go_roundw
        case rel => exact ⟨k + 1, by omega, by go_num, HT, B1⟩
        case measure => simp [intOf]; omega
      · have HT := Lib.hid (HG.out (by trivial))
        go_wp2_with fail
        refine CX.out.mono ?_
        rintro e w1 ⟨rfl, hb⟩
        have B1 := Lib.hid (below_end HB.out hb)
        clear hb p0 p1 p2 p3
        go_wp2
        go_ret
        exact ⟨_, rfl, .inr HT.out, B1.out⟩
    · obtain rfl : k = l.length := by omega
      go_wp2
      go_ret
      exact ⟨-1, rfl, .inl ⟨rfl, fun x hx => by obtain ⟨j, hj, rfl⟩ := List.mem_iff_getElem.1 hx; exact HT.out j hj hj⟩, HB.out⟩

end Go.Proofs.YtmfbffhbgelnnaaGreatDoor

/- Messages, rows of them and rings that come in as arguments: what their cells hold. -/
namespace Go.Proofs.YtmfbffhbgelnnaaGreatDoor
open Go.ChangeShapes Go.WideShapes Go.RowKit Go.Deep

section
variable {H : Type} {enc : TypeId × Value → H} {P : Program} {w : World} {base : Nat} {spare : Nat → Bool} {held : Bool}

/-- An address of which a first cell is there has no spot. -/
theorem addr_plainM {a : Addr} {v : Value} (h : w.cell? a = some v) : a = ⟨a.block, a.off, none⟩ := by
  obtain ⟨b, o, s⟩ := a
  cases s with
  | none => rfl
  | some s =>
    unfold World.cell? at h
    split at h <;> simp at h

theorem addr_mkM (b o n : Nat) : (⟨b, o, none⟩ : Addr).add n = ⟨b, o + n, none⟩ := by
  unfold Addr.add; split <;> simp_all

theorem trod_struct4 {t : TypeId} {f0 f1 f2 f3 : Field} {fuel : Nat} {cs : List Value} {x : DataW H × List MemPlace} (ht : P.underlying t = some (.struct #[f0, f1, f2, f3])) (h : DataW.trod enc P w base spare held fuel t cs = some x) :
    ∃ y0 y1 y2 y3 n, cs.length = P.cellsOf t ∧ DataW.trod enc P w base spare held n f0.type ((cs.drop f0.offset).take (P.cellsOf f0.type)) = some y0 ∧
      DataW.trod enc P w base spare held n f1.type ((cs.drop f1.offset).take (P.cellsOf f1.type)) = some y1 ∧ DataW.trod enc P w base spare held n f2.type ((cs.drop f2.offset).take (P.cellsOf f2.type)) = some y2 ∧
      DataW.trod enc P w base spare held n f3.type ((cs.drop f3.offset).take (P.cellsOf f3.type)) = some y3 := by
  obtain ⟨xs, n, _, rfl, hl, hlen, hf⟩ := DataW.trod_struct ht h
  match xs, hlen with
  | [y0, y1, y2, y3], _ => exact ⟨y0, y1, y2, y3, n, hl, by simpa using hf 0 f0 rfl, by simpa using hf 1 f1 rfl, by simpa using hf 2 f2 rfl, by simpa using hf 3 f3 rfl⟩

theorem msg_read {t ti ts : TypeId} {f0 f1 f2 f3 : Field} {fuel : Nat} {cs : List Value} {x : DataW H × List MemPlace} (ht : P.underlying t = some (.struct #[f0, f1, f2, f3])) (hC : P.cellsOf t = 4)
    (h0 : f0.type = ti ∧ f0.offset = 0) (h1 : f1.type = ti ∧ f1.offset = 1) (h2 : f2.type = ts ∧ f2.offset = 2) (h3 : f3.type = ti ∧ f3.offset = 3)
    (hi : P.underlying ti = some (.int .i64)) (hci : P.cellsOf ti = 1) (hs : P.underlying ts = some .string) (hcs : P.cellsOf ts = 1)
    (h : DataW.trod enc P w base spare held fuel t cs = some x) : ∃ y : MsgM, cs = mval y ∧ y.2.2.1.size ≤ maxLen := by
  obtain ⟨y0, y1, y2, y3, n, hl, q0, q1, q2, q3⟩ := trod_struct4 ht h
  rw [hC] at hl
  match cs, hl with
  | [c0, c1, c2, c3], _ =>
    rw [h0.1, h0.2, hci] at q0
    rw [h1.1, h1.2, hci] at q1
    rw [h2.1, h2.2, hcs] at q2
    rw [h3.1, h3.2, hci] at q3
    obtain ⟨a, e0, _, _⟩ := DataW.trod_int hi q0
    obtain ⟨b, e1, _, _⟩ := DataW.trod_int hi q1
    obtain ⟨p, e2, _, hsz⟩ := DataW.trod_string hs q2
    obtain ⟨d, e3, _, _⟩ := DataW.trod_int hi q3
    simp only [List.drop_zero, List.take_succ_cons, List.take_zero, List.cons.injEq, and_true, List.drop_succ_cons] at e0 e1 e2 e3
    subst e0 e1 e2 e3
    exact ⟨(a, b, p, d), rfl, hsz⟩

theorem msgs_read {tt t ti ts : TypeId} {f0 f1 f2 f3 : Field} {fuel : Nat} {cs : List Value} {x : DataW H × List MemPlace} (htt : P.underlying tt = some (.slice t)) (ht : P.underlying t = some (.struct #[f0, f1, f2, f3])) (hC : P.cellsOf t = 4)
    (h0 : f0.type = ti ∧ f0.offset = 0) (h1 : f1.type = ti ∧ f1.offset = 1) (h2 : f2.type = ts ∧ f2.offset = 2) (h3 : f3.type = ti ∧ f3.offset = 3)
    (hi : P.underlying ti = some (.int .i64)) (hci : P.cellsOf ti = 1) (hs : P.underlying ts = some .string) (hcs : P.cellsOf ts = 1)
    (h : DataW.trod enc P w base spare held fuel tt cs = some x) : ∃ v l, cs = [v] ∧ MsgsAt w v l ∧ ∀ y ∈ l, y.2.2.1.size ≤ maxLen := by
  rcases open_slice htt h with ⟨rfl, _⟩ | ⟨a, len, cap, m, n, D, Pl, rfl, _, hl, hm, hmm, _, hx⟩
  · exact ⟨_, [], rfl, ⟨none, 0, rfl, Nat.le_refl _, by unfold maxLen; omega, .inl rfl⟩, by simp⟩
  · have hlm : len ≤ m := by rw [hmm]; split <;> omega
    have hk : ∀ i, i < len → ∃ y : MsgM, y.2.2.1.size ≤ maxLen ∧ w.cell? (a.add (i * 4)) = some (.int .i64 y.1) ∧ w.cell? ((a.add (i * 4)).add 1) = some (.int .i64 y.2.1) ∧ w.cell? ((a.add (i * 4)).add 2) = some (.string y.2.2.1) ∧ w.cell? ((a.add (i * 4)).add 3) = some (.int .i64 y.2.2.2) := fun i hi' => by
      obtain ⟨cs', e1, e2⟩ := hx i (by omega)
      rw [hC] at e1
      obtain ⟨_, _, hat⟩ := World.cells?_some e1
      obtain ⟨y, rfl, hsz⟩ := msg_read ht hC h0 h1 h2 h3 hi hci hs hcs e2
      refine ⟨y, hsz, ?_, ?_, ?_, ?_⟩
      · have := hat 0 (by omega); simpa [Addr.add, mval] using this
      · have := hat 1 (by omega); simpa [mval] using this
      · have := hat 2 (by omega); simpa [mval] using this
      · have := hat 3 (by omega); simpa [mval] using this
    have : Inhabited MsgM := ⟨(0, 0, ⟨#[]⟩, 0)⟩
    obtain ⟨f, hf⟩ := choose_lt hk
    refine ⟨_, (List.range len).map f, rfl, ⟨some a, cap, by simp, by simpa using hl, hm, ?_⟩, fun y hy => ?_⟩
    · by_cases h00 : len = 0
      · subst h00; exact .inl rfl
      · have ha : a = ⟨a.block, a.off, none⟩ := addr_plainM (by have := (hf 0 (by omega)).2.1; simpa [Addr.add] using this)
        refine .inr ⟨a.block, a.off, by rw [← ha], fun j hj => ?_⟩
        simp only [List.length_map, List.length_range] at hj
        obtain ⟨_, c1, c2, c3, c4⟩ := hf j hj
        simp only [List.getElem_map, List.getElem_range]
        rw [ha, addr_mkM] at c1 c2 c3 c4
        rw [addr_mkM] at c2 c3 c4
        exact ⟨c1, c2, c3, c4⟩
    · obtain ⟨i, hi, rfl⟩ := List.mem_map.1 hy
      exact (hf i (List.mem_range.1 hi)).1

theorem ring_read {tr tt t ti ts : TypeId} {g0 g1 f0 f1 f2 f3 : Field} {fuel : Nat} {cs : List Value} {x : DataW H × List MemPlace} (hr : P.underlying tr = some (.struct #[g0, g1])) (hR : P.cellsOf tr = 2)
    (hg0 : g0.type = ti ∧ g0.offset = 0) (hg1 : g1.type = tt ∧ g1.offset = 1) (hctt : P.cellsOf tt = 1)
    (htt : P.underlying tt = some (.slice t)) (ht : P.underlying t = some (.struct #[f0, f1, f2, f3])) (hC : P.cellsOf t = 4)
    (h0 : f0.type = ti ∧ f0.offset = 0) (h1 : f1.type = ti ∧ f1.offset = 1) (h2 : f2.type = ts ∧ f2.offset = 2) (h3 : f3.type = ti ∧ f3.offset = 3)
    (hi : P.underlying ti = some (.int .i64)) (hci : P.cellsOf ti = 1) (hs : P.underlying ts = some .string) (hcs : P.cellsOf ts = 1)
    (h : DataW.trod enc P w base spare held fuel tr cs = some x) : ∃ cap v l, cs = [.int .i64 cap, v] ∧ MsgsAt w v l ∧ ∀ y ∈ l, y.2.2.1.size ≤ maxLen := by
  obtain ⟨y0, y1, n, _, hl, q0, q1⟩ := trod_struct2 hr h
  rw [hR] at hl
  match cs, hl with
  | [c0, c1], _ =>
    rw [hg0.1, hg0.2, hci] at q0
    rw [hg1.1, hg1.2, hctt] at q1
    obtain ⟨a, e0, _, _⟩ := DataW.trod_int hi q0
    obtain ⟨v, l, e1, hv, hsz⟩ := msgs_read htt ht hC h0 h1 h2 h3 hi hci hs hcs q1
    simp only [List.drop_zero, List.take_succ_cons, List.take_zero, List.cons.injEq, and_true, List.drop_succ_cons] at e0 e1
    subst e0 e1
    exact ⟨a, _, l, rfl, hv, hsz⟩

end

end Go.Proofs.YtmfbffhbgelnnaaGreatDoor

/- Boxes that come in as arguments: what their cells hold. -/
namespace Go.Proofs.YtmfbffhbgelnnaaGreatDoor
open Go.ChangeShapes Go.WideShapes Go.RowKit Go.Deep

section
variable {H : Type} {enc : TypeId × Value → H} {P : Program} {w : World} {base : Nat} {spare : Nat → Bool} {held : Bool}

theorem trod_struct8 {t : TypeId} {f0 f1 f2 f3 f4 f5 f6 f7 : Field} {fuel : Nat} {cs : List Value} {x : DataW H × List MemPlace} (ht : P.underlying t = some (.struct #[f0, f1, f2, f3, f4, f5, f6, f7])) (h : DataW.trod enc P w base spare held fuel t cs = some x) :
    ∃ n, cs.length = P.cellsOf t ∧ ∀ (j : Nat) (f : Field), [f0, f1, f2, f3, f4, f5, f6, f7][j]? = some f → ∃ y, DataW.trod enc P w base spare held n f.type ((cs.drop f.offset).take (P.cellsOf f.type)) = some y := by
  obtain ⟨xs, n, _, rfl, hl, hlen, hf⟩ := DataW.trod_struct ht h
  match xs, hlen with
  | [y0, y1, y2, y3, y4, y5, y6, y7], _ =>
    refine ⟨n, hl, fun j f hj => ?_⟩
    match j with
    | 0 => cases hj; exact ⟨y0, by simpa using hf 0 f0 rfl⟩
    | 1 => cases hj; exact ⟨y1, by simpa using hf 1 f1 rfl⟩
    | 2 => cases hj; exact ⟨y2, by simpa using hf 2 f2 rfl⟩
    | 3 => cases hj; exact ⟨y3, by simpa using hf 3 f3 rfl⟩
    | 4 => cases hj; exact ⟨y4, by simpa using hf 4 f4 rfl⟩
    | 5 => cases hj; exact ⟨y5, by simpa using hf 5 f5 rfl⟩
    | 6 => cases hj; exact ⟨y6, by simpa using hf 6 f6 rfl⟩
    | 7 => cases hj; exact ⟨y7, by simpa using hf 7 f7 rfl⟩
    | j + 8 => simp at hj

theorem box_read {tr tt t ti ts tb : TypeId} {g0 g1 g2 g3 g4 g5 g6 g7 f0 f1 f2 f3 : Field} {fuel : Nat} {cs : List Value} {x : DataW H × List MemPlace} (hr : P.underlying tr = some (.struct #[g0, g1, g2, g3, g4, g5, g6, g7])) (hR : P.cellsOf tr = 8)
    (hg0 : g0.type = ti ∧ g0.offset = 0) (hg1 : g1.type = ti ∧ g1.offset = 1) (hg2 : g2.type = tt ∧ g2.offset = 2) (hg3 : g3.type = ti ∧ g3.offset = 3) (hg4 : g4.type = ti ∧ g4.offset = 4) (hg5 : g5.type = ti ∧ g5.offset = 5) (hg6 : g6.type = ti ∧ g6.offset = 6) (hg7 : g7.type = tb ∧ g7.offset = 7)
    (hctt : P.cellsOf tt = 1) (hb : P.underlying tb = some .bool) (hcb : P.cellsOf tb = 1)
    (htt : P.underlying tt = some (.slice t)) (ht : P.underlying t = some (.struct #[f0, f1, f2, f3])) (hC : P.cellsOf t = 4)
    (h0 : f0.type = ti ∧ f0.offset = 0) (h1 : f1.type = ti ∧ f1.offset = 1) (h2 : f2.type = ts ∧ f2.offset = 2) (h3 : f3.type = ti ∧ f3.offset = 3)
    (hi : P.underlying ti = some (.int .i64)) (hci : P.cellsOf ti = 1) (hs : P.underlying ts = some .string) (hcs : P.cellsOf ts = 1)
    (h : DataW.trod enc P w base spare held fuel tr cs = some x) : ∃ (b : BoxM) (v : Value), cs = (bcells b v).toList ∧ MsgsAt w v b.q ∧ ∀ y ∈ b.q, y.2.2.1.size ≤ maxLen := by
  obtain ⟨n, hl, hf⟩ := trod_struct8 hr h
  rw [hR] at hl
  match cs, hl with
  | [c0, c1, c2, c3, c4, c5, c6, c7], _ =>
    obtain ⟨y0, q0⟩ := hf 0 g0 rfl
    obtain ⟨y1, q1⟩ := hf 1 g1 rfl
    obtain ⟨y2, q2⟩ := hf 2 g2 rfl
    obtain ⟨y3, q3⟩ := hf 3 g3 rfl
    obtain ⟨y4, q4⟩ := hf 4 g4 rfl
    obtain ⟨y5, q5⟩ := hf 5 g5 rfl
    obtain ⟨y6, q6⟩ := hf 6 g6 rfl
    obtain ⟨y7, q7⟩ := hf 7 g7 rfl
    rw [hg0.1, hg0.2, hci] at q0
    rw [hg1.1, hg1.2, hci] at q1
    rw [hg2.1, hg2.2, hctt] at q2
    rw [hg3.1, hg3.2, hci] at q3
    rw [hg4.1, hg4.2, hci] at q4
    rw [hg5.1, hg5.2, hci] at q5
    rw [hg6.1, hg6.2, hci] at q6
    rw [hg7.1, hg7.2, hcb] at q7
    obtain ⟨z0, e0, _, _⟩ := DataW.trod_int hi q0
    obtain ⟨z1, e1, _, _⟩ := DataW.trod_int hi q1
    obtain ⟨v, l, e2, hv, hsz⟩ := msgs_read htt ht hC h0 h1 h2 h3 hi hci hs hcs q2
    obtain ⟨z3, e3, _, _⟩ := DataW.trod_int hi q3
    obtain ⟨z4, e4, _, _⟩ := DataW.trod_int hi q4
    obtain ⟨z5, e5, _, _⟩ := DataW.trod_int hi q5
    obtain ⟨z6, e6, _, _⟩ := DataW.trod_int hi q6
    obtain ⟨z7, e7, _⟩ := DataW.trod_bool hb q7
    simp only [List.drop_zero, List.take_succ_cons, List.take_zero, List.cons.injEq, and_true, List.drop_succ_cons] at e0 e1 e2 e3 e4 e5 e6 e7
    subst e0 e1 e2 e3 e4 e5 e6 e7
    exact ⟨⟨z0, z1, l, z3, z4, z5, z6, z7⟩, _, rfl, hv, hsz⟩

end

end Go.Proofs.YtmfbffhbgelnnaaGreatDoor

/- Rows of messages: empty ones, and one laid anew. -/
namespace Go.Proofs.YtmfbffhbgelnnaaGreatDoor
open Go.RowKit

def msgZ : MsgM := (0, 0, ⟨#[]⟩, 0)

theorem madeCells_four (n : Nat) : (madeCells #[.int .i64 0, .int .i64 0, .string ⟨#[]⟩, .int .i64 0] (n * 4)).toList = mcells (List.replicate n msgZ) := by
  have hl := mcells_length (List.replicate n msgZ)
  rw [List.length_replicate] at hl
  apply List.ext_getElem?
  intro i
  by_cases hi : i < n * 4
  · have e := mcells_at (List.replicate n msgZ) (i / 4) (by simp; omega)
    simp only [List.getElem_replicate] at e
    obtain ⟨j, hj | hj | hj | hj⟩ : ∃ j, i = j * 4 ∨ i = j * 4 + 1 ∨ i = j * 4 + 2 ∨ i = j * 4 + 3 := ⟨i / 4, by omega⟩
    · subst hj
      rw [show j * 4 / 4 = j by omega] at e
      rw [e.1]; simp [madeCells, hi, msgZ]
    · subst hj
      rw [show (j * 4 + 1) / 4 = j by omega] at e
      rw [e.2.1]; simp [madeCells, hi, msgZ, Nat.add_mod]
    · subst hj
      rw [show (j * 4 + 2) / 4 = j by omega] at e
      rw [e.2.2.1]; simp [madeCells, hi, msgZ, Nat.add_mod]
    · subst hj
      rw [show (j * 4 + 3) / 4 = j by omega] at e
      rw [e.2.2.2]; simp [madeCells, hi, msgZ, Nat.add_mod]
  · rw [List.getElem?_eq_none (by simp [size_madeCells]; omega), List.getElem?_eq_none (by omega)]

/-- The k-th message laid anew: four stores. -/
def put4 (w : World) (g k : Nat) (x : MsgM) : World :=
  (((w.setCell ⟨g, k * 4, none⟩ (.int .i64 x.1)).setCell ⟨g, k * 4 + 1, none⟩ (.int .i64 x.2.1)).setCell ⟨g, k * 4 + 2, none⟩ (.string x.2.2.1)).setCell ⟨g, k * 4 + 3, none⟩ (.int .i64 x.2.2.2)

theorem MOwn.put {w : World} {B g n cap k : Nat} {l : List MsgM} (x : MsgM) (h : MOwn w B (.slice (some ⟨g, 0, none⟩) n cap) l) (hn : n = l.length) (hk : k < l.length) : MOwn (put4 w g k x) B (.slice (some ⟨g, 0, none⟩) n cap) (l.set k x) := by
  subst hn
  unfold MOwn at h ⊢
  rw [List.length_set, ← mcells_set l k x hk]
  exact ((((h.stored _ _).1.stored _ _).1.stored _ _).1.stored _ _).1

theorem grown_put4 (w : World) (g k : Nat) (x : MsgM) : w.grownBy (put4 w g k x) (some g) :=
  grown_trans (grown_trans (grown_trans (grown_setCell _ _ _ _) (grown_setCell _ _ _ _)) (grown_setCell _ _ _ _)) (grown_setCell _ _ _ _)

end Go.Proofs.YtmfbffhbgelnnaaGreatDoor

/- The walk of impl.PartsOf. -/
namespace Go.Proofs.YtmfbffhbgelnnaaGreatDoor
open Go.RowKit

theorem implParts_any (s : ByteArray) (m : Int) (w : World) (hs : s.size ≤ 1048576) (hm : w.cell? ⟨0, 0, none⟩ = some (.int .i64 m)) :
    Calls Tryz.prog 100 #[.string s] w fun e w' =>
      ∃ v, e = .returned v ∧ w'.ownsRow w.heap.size 9 1 v (parts s 47).length (texts (parts s 47)) ∧ Below w.heap.size w w' := by
  have c := Tryz.strings_Split s ⟨#[47]⟩ m w (by omega) hm (Nat.le_refl 1)
  rw [splitB_parts, countB_parts] at c
  have hp := parts_le s 47
  go_enter Tryz.func100, Tryz.ntmps100
  go_wp2_with (go_at_call 126; refine c.mono ?_; rintro e w' ⟨rfl, rfl⟩)
  go_ret
  refine ⟨_, rfl, ?_, (Below.refl _ _).alloc (Nat.le_refl _) _⟩
  have := World.ownsRow_lit (base := w.heap.size) (e := 9) (size := 1) w (texts (parts s 47)).toArray (parts s 47).length (Nat.le_refl _) (by unfold maxLen; omega) (by simp)
  simpa using this

end Go.Proofs.YtmfbffhbgelnnaaGreatDoor

/- The walk of impl.partCovers: does a part cover another? -/
namespace Go.Proofs.YtmfbffhbgelnnaaGreatDoor
open Go.RowKit

theorem wordOk_all (s : ByteArray) (w : World) : Calls Tryz.prog 124 #[.string s] w fun e w' => e = .returned (.bool (isWord s)) ∧ Below w.heap.size w w' := by
  by_cases h : s.size ≤ maxLen
  · exact wordOk_any s w h
  · unfold maxLen at h
    go_enter Tryz.func124, Tryz.ntmps124
    go_wp2
    go_ret
    exact ⟨ret_bool (by unfold isWord; grind), Below.refl _ _⟩

set_option maxRecDepth 100000 in
set_option maxHeartbeats 800000 in
theorem partCovers_any (p q : ByteArray) (w : World) :
    Calls Tryz.prog 125 #[.string p, .string q] w fun e w' => e = .returned (.bool (partC p q)) ∧ Below w.heap.size w w' := by
  have cw := wordOk_all q w
  cases hP : isPlus p
  · have hP2 : (p.toList == [43]) = false := hP
    have hE : partC p q = (p.toList == q.toList) := by unfold partC; rw [hP]; rfl
    rw [hE]
    clear cw hP hE
    go_enter Tryz.func125, Tryz.ntmps125
    go_wp2
    go_ret
    exact ⟨rfl, Below.refl _ _⟩
  · have hP2 : (p.toList == [43]) = true := hP
    cases hQ : isPlus q
    · have hQ2 : (q.toList == [43]) = false := hQ
      have hE : partC p q = isWord q := by unfold partC; rw [hP, hQ]; rfl
      rw [hE]
      clear hP hQ hE
      go_enter Tryz.func125, Tryz.ntmps125
      go_wp2_with (go_at_call 124; refine cw.mono ?_; rintro e w' ⟨rfl, hb⟩)
      go_ret
      exact ⟨rfl, hb⟩
    · have hQ2 : (q.toList == [43]) = true := hQ
      have hE : partC p q = true := by unfold partC; rw [hP, hQ]; rfl
      rw [hE]
      clear cw hP hQ hE
      go_enter Tryz.func125, Tryz.ntmps125
      go_wp2
      go_ret
      exact ⟨rfl, Below.refl _ _⟩

end Go.Proofs.YtmfbffhbgelnnaaGreatDoor

/- The walk of the reference's FilterOk: is a text a filter? -/
namespace Go.Proofs.YtmfbffhbgelnnaaGreatDoor
open Go.RowKit

set_option maxRecDepth 100000 in
set_option maxHeartbeats 1600000 in
theorem specFilter_any (s : ByteArray) (w : World) (hs : s.size ≤ 1048576) :
    Calls Tryz.prog 33 #[.string s] w fun e w' => e = .returned (.bool (filterP (parts s 47))) ∧ Below w.heap.size w w' := by
  have hpos := parts_pos s 47
  have hple := parts_le s 47
  have hps : Hid (∀ p ∈ parts s 47, p.size ≤ s.size) := Lib.hid (fun p h => parts_size h)
  obtain ⟨l, hl⟩ : ∃ l, parts s 47 = l := ⟨_, rfl⟩
  have hc := fun w => specParts_any s w hs
  rw [hl] at hpos hple hps ⊢
  simp only [hl] at hc
  clear hl
  go_enter Tryz.func33, Tryz.ntmps33
  go_wp2_with (go_at_call 68; refine (hc w).mono ?_; clear hc; rintro e w1 ⟨v, rfl, h1, h2⟩; obtain ⟨g, cap, rfl, hg1, hg2, hcell, _⟩ := row_open h1 hpos; have HC := Lib.hid hcell; have H2 := Lib.hid h2; clear h1 h2 hcell)
  go_loop [4] (fun i => ∃ k : Nat, k ≤ l.length ∧ i = .int .i64 k ∧ Hid (filterTo l k = true)) (fun i => l.length - (intOf i).toNat)
  case atStart => exact ⟨0, Nat.zero_le _, rfl, rfl⟩
  case round =>
    obtain ⟨k, hk, rfl, HL⟩ := hrel
    by_cases hlt : k < l.length
    · have hcx := HC.out k hlt
      have hsz : Hid (l[k].size ≤ maxLen) := Lib.hid (by have := hps.out _ (List.getElem_mem hlt); unfold maxLen; omega)
      obtain ⟨p, hp⟩ : ∃ p, l[k] = p := ⟨_, rfl⟩
      have HP : Hid (l[k] = p) := hp
      rw [hp] at hcx hsz
      clear hp
      have cw := specWord_any p w1 hsz.out
      obtain ⟨b, hb⟩ : ∃ b, isWord p = b := ⟨_, rfl⟩
      rw [hb] at cw
      have HB := Lib.hid hb
      clear hb
      cases b
      · go_wp2_with (go_at_call 69; refine cw.mono ?_; rintro e w' ⟨rfl, rfl⟩)
        all_goals first
          | (go_round
             case rel => exact ⟨k + 1, by omega, by go_num, Lib.hid (filterTo_next hlt HP.out HL.out (by have := HB.out; unfold partF; grind))⟩
             case measure => simp [intOf]; omega)
          | (go_ret; exact ⟨ret_bool (filterP_no hlt HP.out (by have := HB.out; unfold partF; grind)).symm, H2.out⟩)
      · go_wp2_with (go_at_call 69; refine cw.mono ?_; rintro e w' ⟨rfl, rfl⟩)
        go_round
        case rel => exact ⟨k + 1, by omega, by go_num, Lib.hid (filterTo_next hlt HP.out HL.out (by have := HB.out; unfold partF; grind))⟩
        case measure => simp [intOf]; omega
    · obtain rfl : k = l.length := by omega
      have HE := Lib.hid (filterP_end HL.out)
      clear HL
      go_wp2
      go_ret
      exact ⟨ret_bool (by rw [HE.out]; grind), H2.out⟩

end Go.Proofs.YtmfbffhbgelnnaaGreatDoor

/- The walk of impl.FilterOk: is a text a filter? -/
namespace Go.Proofs.YtmfbffhbgelnnaaGreatDoor
open Go.RowKit

set_option maxRecDepth 100000 in
set_option maxHeartbeats 1600000 in
theorem implFilter_any (s : ByteArray) (m : Int) (w : World) (hs : s.size ≤ 1048576) (hm : w.cell? ⟨0, 0, none⟩ = some (.int .i64 m)) :
    Calls Tryz.prog 115 #[.string s] w fun e w' => e = .returned (.bool (filterP (parts s 47))) ∧ Below w.heap.size w w' := by
  have hpos := parts_pos s 47
  have hple := parts_le s 47
  have hps : Hid (∀ p ∈ parts s 47, p.size ≤ s.size) := Lib.hid (fun p h => parts_size h)
  obtain ⟨l, hl⟩ : ∃ l, parts s 47 = l := ⟨_, rfl⟩
  have hc := implParts_any s m w hs hm
  rw [hl] at hpos hple hps hc ⊢
  clear hl hm
  by_cases h6 : l.length ≤ 6
  · go_enter Tryz.func115, Tryz.ntmps115
    go_wp2_with (go_at_call 100; refine hc.mono ?_; clear hc; rintro e w1 ⟨v, rfl, h1, h2⟩; obtain ⟨g, cap, rfl, hg1, hg2, hcell, _⟩ := row_open h1 hpos; have HC := Lib.hid hcell; have H2 := Lib.hid h2; clear h1 h2 hcell)
    go_loopw [14] (fun i wr => ∃ k : Nat, k ≤ l.length ∧ i = .int .i64 k ∧ Hid (filterTo l k = true) ∧ Hid (Below w1.heap.size w1 wr)) (fun i _ => l.length - (intOf i).toNat)
    case atStart => exact ⟨0, Nat.zero_le _, rfl, rfl, Below.refl _ _⟩
    case round =>
      obtain ⟨k, hk, rfl, HL, HW⟩ := hrel
      by_cases hlt : k < l.length
      · have hcx : wr.cell? ⟨g, k, none⟩ = some (.string l[k]) := (HW.out.cell hg2).trans (HC.out k hlt)
        have hsz : Hid (l[k].size ≤ maxLen) := Lib.hid (by have := hps.out _ (List.getElem_mem hlt); unfold maxLen; omega)
        obtain ⟨p, hp⟩ : ∃ p, l[k] = p := ⟨_, rfl⟩
        have HP : Hid (l[k] = p) := hp
        rw [hp] at hcx hsz
        clear hp
        have cw := wordOk_any p wr hsz.out
        obtain ⟨b, hb⟩ : ∃ b, isWord p = b := ⟨_, rfl⟩
        rw [hb] at cw
        have HB := Lib.hid hb
        clear hb
        cases b
        all_goals
          go_wp2_with (go_at_call 124; refine cw.mono ?_; rintro e w' ⟨rfl, hb⟩)
          all_goals first
            | (go_roundw
               case rel => exact ⟨k + 1, by omega, by go_num, Lib.hid (filterTo_next hlt HP.out HL.out (by have := HB.out; unfold partF; grind)), HW.out.trans (hb.mono HW.out.size)⟩
               case measure => simp [intOf]; omega)
            | (go_ret; exact ⟨ret_bool (filterP_no hlt HP.out (by have := HB.out; unfold partF; grind)).symm, H2.out.trans ((HW.out.trans (hb.mono HW.out.size)).mono H2.out.size)⟩)
      · obtain rfl : k = l.length := by omega
        have HE := Lib.hid (filterP_end HL.out)
        clear HL
        go_wp2
        go_ret
        exact ⟨ret_bool (by rw [HE.out]; grind), H2.out.trans (HW.out.mono H2.out.size)⟩
  · have hf : Hid (filterP l = false) := Lib.hid (by simp [filterP, h6])
    go_enter Tryz.func115, Tryz.ntmps115
    go_wp2_with (go_at_call 100; refine hc.mono ?_; clear hc; rintro e w1 ⟨v, rfl, h1, h2⟩; obtain ⟨g, cap, rfl, hg1, hg2, hcell, _⟩ := row_open h1 hpos; have HC := Lib.hid hcell; have H2 := Lib.hid h2; clear h1 h2 hcell)
    go_ret
    exact ⟨ret_bool hf.out.symm, H2.out⟩

end Go.Proofs.YtmfbffhbgelnnaaGreatDoor

/- The walk of the reference's look whether a number lies between two. -/
namespace Go.Proofs.YtmfbffhbgelnnaaGreatDoor
open Go.RowKit

theorem quiet_back {P : Program} {f : Nat} {args : Array Value} {w : World} {v : Value} (h : Calls P f args w fun e w' => e = .returned v ∧ w = w') : Calls P f args w fun e w' => e = .returned v ∧ w' = w := h.mono fun _ _ ⟨he, hw⟩ => ⟨he, hw.symm⟩

theorem specIn_any (x lo hi : Int) (w : World) :
    Calls Tryz.prog 27 #[.int .i64 x, .int .i64 lo, .int .i64 hi] w fun e w' => e = .returned (.bool (decide (lo ≤ x) && decide (x ≤ hi))) ∧ w = w' := by
  by_cases h1 : lo ≤ x
  · go_enter Tryz.func27, Tryz.ntmps27
    go_wp2
    go_ret
    exact ⟨ret_bool (by simp [h1]), rfl⟩
  · go_enter Tryz.func27, Tryz.ntmps27
    go_wp2
    go_ret
    exact ⟨ret_bool (by simp; omega), rfl⟩

end Go.Proofs.YtmfbffhbgelnnaaGreatDoor

/- The walks of the program's small tests of a box, and of its policies. -/
namespace Go.Proofs.YtmfbffhbgelnnaaGreatDoor
open Go.RowKit

theorem capOk_any (x : Int) (w : World) :
    Calls Tryz.prog 133 #[.int .i64 x] w fun e w' => e = .returned (.bool (inB x 1 16)) ∧ w = w' := by
  have HB : Hid (inB x 1 16 = (decide (1 ≤ x) && decide (x ≤ 16))) := Lib.hid rfl
  go_enter Tryz.func133, Tryz.ntmps133
  by_cases h1 : 1 ≤ x
  · have g1 : decide (1 ≤ x) = true := decide_eq_true h1
    by_cases h2 : x ≤ 16
    · have g2 : decide (x ≤ 16) = true := decide_eq_true h2
      go_wp2
      go_ret
      exact ⟨ret_bool (by rw [HB.out, g1, g2]; rfl), rfl⟩
    · have g2 : decide (x ≤ 16) = false := decide_eq_false h2
      go_wp2
      go_ret
      exact ⟨ret_bool (by rw [HB.out, g2]; simp), rfl⟩
  · have g1 : decide (1 ≤ x) = false := decide_eq_false h1
    go_wp2
    go_ret
    exact ⟨ret_bool (by rw [HB.out, g1]; rfl), rfl⟩

/-- What stands for a policy. -/
def polV (p : Int) : Value :=
  if p = 1 then .iface 197 (.agg #[]) else if p = 2 then .iface 198 (.agg #[])
  else if p = 3 then .iface 199 (.agg #[]) else if p = 4 then .iface 200 (.agg #[]) else .nilIface

theorem policyOf_any (p : Int) (w : World) :
    Calls Tryz.prog 166 #[.int .i64 p] w fun e w' => e = .returned (polV p) ∧ w = w' := by
  have HP : Hid (polV p = if p = 1 then .iface 197 (.agg #[]) else if p = 2 then .iface 198 (.agg #[])
  else if p = 3 then .iface 199 (.agg #[]) else if p = 4 then .iface 200 (.agg #[]) else .nilIface) := Lib.hid rfl
  generalize polV p = u at HP ⊢
  go_enter Tryz.func166, Tryz.ntmps166
  by_cases h1 : p = 1
  · have HE := Lib.hid (HP.out.trans (if_pos h1))
    have g1 : (p == 1) = true := by simp [h1]
    clear HP h1
    go_wp2
    go_ret
    exact ⟨by rw [HE.out]; rfl, rfl⟩
  have HP1 := Lib.hid (HP.out.trans (if_neg h1))
  have g1 : (p == 1) = false := by simp [h1]
  clear HP h1
  by_cases h2 : p = 2
  · have HE := Lib.hid (HP1.out.trans (if_pos h2))
    have g2 : (p == 2) = true := by simp [h2]
    clear HP1 h2
    go_wp2
    go_ret
    exact ⟨by rw [HE.out]; rfl, rfl⟩
  have HP2 := Lib.hid (HP1.out.trans (if_neg h2))
  have g2 : (p == 2) = false := by simp [h2]
  clear HP1 h2
  by_cases h3 : p = 3
  · have HE := Lib.hid (HP2.out.trans (if_pos h3))
    have g3 : (p == 3) = true := by simp [h3]
    clear HP2 h3
    go_wp2
    go_ret
    exact ⟨by rw [HE.out]; rfl, rfl⟩
  have HP3 := Lib.hid (HP2.out.trans (if_neg h3))
  have g3 : (p == 3) = false := by simp [h3]
  clear HP2 h3
  by_cases h4 : p = 4
  · have HE := Lib.hid (HP3.out.trans (if_pos h4))
    have g4 : (p == 4) = true := by simp [h4]
    clear HP3 h4
    go_wp2
    go_ret
    exact ⟨by rw [HE.out]; rfl, rfl⟩
  · have HE := Lib.hid (HP3.out.trans (if_neg h4))
    have g4 : (p == 4) = false := by simp [h4]
    clear HP3 h4
    go_wp2
    go_ret
    exact ⟨by rw [HE.out]; rfl, rfl⟩

theorem policyOk_any (p : Int) (w : World) :
    Calls Tryz.prog 134 #[.int .i64 p] w fun e w' => e = .returned (.bool (inB p 1 4)) ∧ w = w' := by
  have CP := policyOf_any p w
  by_cases h1 : p = 1
  · subst h1
    rw [show polV 1 = .iface 197 (.agg #[]) from rfl] at CP
    go_enter Tryz.func134, Tryz.ntmps134
    go_wp2_with fail
    refine CP.mono ?_
    rintro e w1 ⟨rfl, rfl⟩
    go_wp2
    go_ret
    exact ⟨rfl, rfl⟩
  by_cases h2 : p = 2
  · subst h2
    rw [show polV 2 = .iface 198 (.agg #[]) from rfl] at CP
    go_enter Tryz.func134, Tryz.ntmps134
    go_wp2_with fail
    refine CP.mono ?_
    rintro e w1 ⟨rfl, rfl⟩
    go_wp2
    go_ret
    exact ⟨rfl, rfl⟩
  by_cases h3 : p = 3
  · subst h3
    rw [show polV 3 = .iface 199 (.agg #[]) from rfl] at CP
    go_enter Tryz.func134, Tryz.ntmps134
    go_wp2_with fail
    refine CP.mono ?_
    rintro e w1 ⟨rfl, rfl⟩
    go_wp2
    go_ret
    exact ⟨rfl, rfl⟩
  by_cases h4 : p = 4
  · subst h4
    rw [show polV 4 = .iface 200 (.agg #[]) from rfl] at CP
    go_enter Tryz.func134, Tryz.ntmps134
    go_wp2_with fail
    refine CP.mono ?_
    rintro e w1 ⟨rfl, rfl⟩
    go_wp2
    go_ret
    exact ⟨rfl, rfl⟩
  · rw [show polV p = .nilIface by unfold polV; rw [if_neg h1, if_neg h2, if_neg h3, if_neg h4]] at CP
    have HB : Hid (inB p 1 4 = false) := Lib.hid (by
      unfold inB
      cases e : (decide (1 ≤ p) && decide (p ≤ 4))
      · rfl
      · simp only [Bool.and_eq_true, decide_eq_true_eq] at e
        omega)
    clear h1 h2 h3 h4
    go_enter Tryz.func134, Tryz.ntmps134
    go_wp2_with fail
    refine CP.mono ?_
    rintro e w1 ⟨rfl, rfl⟩
    go_wp2
    go_ret
    exact ⟨ret_bool HB.out.symm, rfl⟩

end Go.Proofs.YtmfbffhbgelnnaaGreatDoor

/- The walk of the program's look at the counts of a box. -/
namespace Go.Proofs.YtmfbffhbgelnnaaGreatDoor
open Go.RowKit

/-- The four counts. -/
def cntL (b : BoxM) : List Int := [b.ofr, b.rcv, b.drp, b.mrg]
def cntR (b : BoxM) : Bool := inB b.ofr 0 100000 && inB b.rcv 0 100000 && inB b.drp 0 100000 && inB b.mrg 0 100000
def countsB (b : BoxM) : Bool := cntR b && decide (b.ofr = b.rcv + b.q.length + b.drp + b.mrg)

theorem boxB_parts (b : BoxM) : boxB b = (inB b.cap 1 16 && (inB b.pol 1 4 && ((decide ((b.q.length : Int) ≤ b.cap) && msgsAll b.q) && countsB b))) := by
  unfold boxB boxN countsB cntR
  cases inB b.cap 1 16 <;> cases inB b.pol 1 4 <;> cases decide ((b.q.length : Int) ≤ b.cap) <;> cases inB b.ofr 0 100000 <;> cases inB b.rcv 0 100000 <;> cases inB b.drp 0 100000 <;> cases inB b.mrg 0 100000 <;> cases msgsAll b.q <;> rfl

theorem cntR_all {b : BoxM} (h : ∀ j, j < 4 → inB ((cntL b).getD j 0) 0 100000 = true) : cntR b = true := by
  have h0 := h 0 (by decide)
  have h1 := h 1 (by decide)
  have h2 := h 2 (by decide)
  have h3 := h 3 (by decide)
  simp only [cntL, List.getD_cons_zero, List.getD_cons_succ] at h0 h1 h2 h3
  unfold cntR
  rw [h0, h1, h2, h3]
  rfl

theorem cntR_bad {b : BoxM} {j : Nat} (hj : j < 4) (h : inB ((cntL b).getD j 0) 0 100000 = false) : cntR b = false := by
  unfold cntR
  match j, hj with
  | 0, _ => simp only [cntL, List.getD_cons_zero, List.getD_cons_succ] at h; rw [h]; rfl
  | 1, _ => simp only [cntL, List.getD_cons_zero, List.getD_cons_succ] at h; rw [h]; simp
  | 2, _ => simp only [cntL, List.getD_cons_zero, List.getD_cons_succ] at h; rw [h]; simp
  | 3, _ => simp only [cntL, List.getD_cons_zero, List.getD_cons_succ] at h; rw [h]; simp

theorem cntR_num {b : BoxM} (h : cntR b = true) : 0 ≤ b.ofr ∧ b.ofr ≤ 100000 ∧ 0 ≤ b.rcv ∧ b.rcv ≤ 100000 ∧ 0 ≤ b.drp ∧ b.drp ≤ 100000 ∧ 0 ≤ b.mrg ∧ b.mrg ≤ 100000 := by
  unfold cntR inB at h
  simp only [Bool.and_eq_true, decide_eq_true_eq] at h
  omega

set_option maxRecDepth 100000 in
set_option maxHeartbeats 1600000 in
theorem countsOk_any (b : BoxM) (ua : Option Addr) (uc : Nat) (w : World) (hl : b.q.length ≤ 1048576) :
    Calls Tryz.prog 136 #[bagg b (.slice ua b.q.length uc)] w fun e w' => e = .returned (.bool (countsB b)) ∧ Below w.heap.size w w' := by
  have HC : Hid (countsB b = (cntR b && decide (b.ofr = b.rcv + b.q.length + b.drp + b.mrg))) := Lib.hid rfl
  have HA := Lib.hid (fun h => cntR_all (b := b) h)
  have HBD := Lib.hid (fun j hj h => cntR_bad (b := b) (j := j) hj h)
  have HNUM := Lib.hid (fun h => cntR_num (b := b) h)
  go_enter Tryz.func136, Tryz.ntmps136
  go_upto_region 1 with (fail)
  have s1 : (w.alloc (.cells (bcells b (.slice ua b.q.length uc)) 62)).heap.size = w.heap.size + 1 := by simp
  have b1 : Below w.heap.size w (w.alloc (.cells (bcells b (.slice ua b.q.length uc)) 62)) := (Below.refl _ _).alloc (Nat.le_refl _) _
  have r1 : BBox (w.alloc (.cells (bcells b (.slice ua b.q.length uc)) 62)) w.heap.size 62 b (.slice ua b.q.length uc) := BBox.new _ _ _ _
  generalize w.alloc (.cells (bcells b (.slice ua b.q.length uc)) 62) = w1 at s1 b1 r1 ⊢
  have R1 := Lib.hid r1
  obtain ⟨x0, x1, x2, x3, x4, x5, x6, x7⟩ := r1.cells
  clear r1
  go_upto_block 0 with (fail)
  have s2 : (w1.alloc (.cells #[.int .i64 b.ofr, .int .i64 b.rcv, .int .i64 b.drp, .int .i64 b.mrg] 2)).heap.size = w.heap.size + 1 + 1 := by simp [s1]
  have b2 : Below w.heap.size w (w1.alloc (.cells #[.int .i64 b.ofr, .int .i64 b.rcv, .int .i64 b.drp, .int .i64 b.mrg] 2)) := b1.alloc (by omega) _
  have r2 := R1.out.below ((Below.refl _ w1).alloc (Nat.le_refl _) (.cells #[.int .i64 b.ofr, .int .i64 b.rcv, .int .i64 b.drp, .int .i64 b.mrg] 2))
  have q2 : (w1.alloc (.cells #[.int .i64 b.ofr, .int .i64 b.rcv, .int .i64 b.drp, .int .i64 b.mrg] 2)).heap[w.heap.size + 1]? = some (.cells #[.int .i64 b.ofr, .int .i64 b.rcv, .int .i64 b.drp, .int .i64 b.mrg] 2 (0, 0)) := by rw [← s1]; exact heap_alloc_new _ _
  have HQ : Hid (∀ j, j < 4 → (w1.alloc (.cells #[.int .i64 b.ofr, .int .i64 b.rcv, .int .i64 b.drp, .int .i64 b.mrg] 2)).cell? ⟨w.heap.size + 1, j, none⟩ = some (.int .i64 ((cntL b).getD j 0))) := Lib.hid (fun j hj => by
    match j, hj with
    | 0, _ => exact cell_of_heap q2 0
    | 1, _ => exact cell_of_heap q2 1
    | 2, _ => exact cell_of_heap q2 2
    | 3, _ => exact cell_of_heap q2 3)
  have R2 := Lib.hid r2
  have B2 := Lib.hid b2
  generalize w1.alloc (.cells #[.int .i64 b.ofr, .int .i64 b.rcv, .int .i64 b.drp, .int .i64 b.mrg] 2) = w2 at s2 HQ R2 B2 ⊢
  clear b2 r2 q2 s1 b1 R1 x0 x1 x2 x3 x4 x5 x6 x7
  go_wp2
  go_loopw [15] (fun i wr => ∃ k : Nat, k ≤ 4 ∧ i = .int .i64 k ∧ wr = w2 ∧ Hid (∀ j, j < k → inB ((cntL b).getD j 0) 0 100000 = true)) (fun i _ => 4 - (intOf i).toNat)
  case atStart => exact ⟨0, Nat.zero_le _, rfl, rfl, Lib.hid (fun j hj => absurd hj (Nat.not_lt_zero _))⟩
  case round =>
    obtain ⟨k, hk, rfl, rfl, HT⟩ := hrel
    by_cases hlt : k < 4
    · have c0 := HQ.out k hlt
      have HN : Hid (inB ((cntL b).getD k 0) 0 100000 = true → ∀ j, j < k + 1 → inB ((cntL b).getD j 0) 0 100000 = true) := Lib.hid (fun h j hj => by
        rcases Nat.lt_or_ge j k with h1 | h1
        · exact HT.out j h1
        · have : j = k := by omega
          subst this; exact h)
      have HBK := Lib.hid (HBD.out k hlt)
      have HIN : Hid (inB ((cntL b).getD k 0) 0 100000 = (decide (0 ≤ (cntL b).getD k 0) && decide ((cntL b).getD k 0 ≤ 100000))) := Lib.hid rfl
      generalize inB ((cntL b).getD k 0) 0 100000 = ib at HN HBK HIN
      generalize (cntL b).getD k 0 = z at c0 HIN
      have g0 : decide ((k : Int) < 4) = true := decide_eq_true (by omega)
      clear HT
      by_cases h1 : z < 0
      · have g1 : decide (z < 0) = true := decide_eq_true h1
        have HE := Lib.hid (HBK.out (by rw [HIN.out, decide_eq_false (show ¬ (0 ≤ z) by omega)]; rfl))
        clear h1
        go_wp2
        go_ret
        exact ⟨ret_bool (by rw [HC.out, HE.out]; rfl), B2.out⟩
      have g1 : decide (z < 0) = false := decide_eq_false h1
      by_cases h2 : 100000 < z
      · have g2 : decide (100000 < z) = true := decide_eq_true h2
        have HE := Lib.hid (HBK.out (by rw [HIN.out, decide_eq_false (show ¬ (z ≤ 100000) by omega)]; simp))
        clear h1 h2
        go_wp2
        go_ret
        exact ⟨ret_bool (by rw [HC.out, HE.out]; rfl), B2.out⟩
      have g2 : decide (100000 < z) = false := decide_eq_false h2
      have HO := Lib.hid (HN.out (by rw [HIN.out, decide_eq_true (show 0 ≤ z by omega), decide_eq_true (show z ≤ 100000 by omega)]; rfl))
      clear h1 h2
      go_wp2
      go_roundw
      case rel => exact ⟨k + 1, by omega, by go_num, by trivial, HO⟩
      case measure => simp [intOf]; omega
    · obtain rfl : k = 4 := by omega
      have HE := Lib.hid (HA.out HT.out)
      obtain ⟨n1, n2, n3, n4, n5, n6, n7, n8⟩ := HNUM.out HE.out
      obtain ⟨x0, x1, x2, x3, x4, x5, x6, x7⟩ := R2.out.cells
      have g1 : IntKind.i64.wrap (b.rcv + (b.q.length : Int)) = b.rcv + (b.q.length : Int) := by rw [IntKind.wrap_i64]; omega
      have g2 : IntKind.i64.wrap (b.rcv + (b.q.length : Int) + b.drp) = b.rcv + (b.q.length : Int) + b.drp := by rw [IntKind.wrap_i64]; omega
      have g3 : IntKind.i64.wrap (b.rcv + (b.q.length : Int) + b.drp + b.mrg) = b.rcv + (b.q.length : Int) + b.drp + b.mrg := by rw [IntKind.wrap_i64]; omega
      go_wp2
      go_ret
      exact ⟨ret_bool (by rw [HC.out, HE.out]; rfl), B2.out⟩

end Go.Proofs.YtmfbffhbgelnnaaGreatDoor

/- The walk of the reference's TopicOk: is a text a topic? -/
namespace Go.Proofs.YtmfbffhbgelnnaaGreatDoor
open Go.RowKit

set_option maxRecDepth 100000 in
set_option maxHeartbeats 800000 in
theorem specTopic_any (s : ByteArray) (w : World) (hs : s.size ≤ 1048576) :
    Calls Tryz.prog 107 #[.string s] w fun e w' => e = .returned (.bool (topicP (parts s 47))) ∧ Below w.heap.size w w' := by
  have hpos := parts_pos s 47
  have hple := parts_le s 47
  have hps : Hid (∀ p ∈ parts s 47, p.size ≤ s.size) := Lib.hid (fun p h => parts_size h)
  obtain ⟨l, hl⟩ : ∃ l, parts s 47 = l := ⟨_, rfl⟩
  have hc := fun w => specParts_any s w hs
  rw [hl] at hpos hple hps ⊢
  simp only [hl] at hc
  clear hl
  go_enter Tryz.func107, Tryz.ntmps107
  go_wp2_with (go_at_call 68; refine (hc w).mono ?_; clear hc; rintro e w1 ⟨v, rfl, h1, h2⟩; obtain ⟨g, cap, rfl, hg1, hg2, hcell, _⟩ := row_open h1 hpos; have HC := Lib.hid hcell; have H2 := Lib.hid h2; clear h1 h2 hcell)
  go_loop [4] (fun i => ∃ k : Nat, k ≤ l.length ∧ i = .int .i64 k ∧ Hid ((l.take k).all isWord = true)) (fun i => l.length - (intOf i).toNat)
  case atStart => exact ⟨0, Nat.zero_le _, rfl, rfl⟩
  case round =>
    obtain ⟨k, hk, rfl, HL⟩ := hrel
    by_cases hlt : k < l.length
    · have hcx := HC.out k hlt
      have hsz : Hid (l[k].size ≤ maxLen) := Lib.hid (by have := hps.out _ (List.getElem_mem hlt); unfold maxLen; omega)
      cases hw : isWord l[k]
      · have HB := Lib.hid (topicP_bad hlt hw)
        have cw := specWord_any l[k] w1 hsz.out
        rw [hw] at cw
        clear hw
        go_wp2_with (go_at_call 69; refine cw.mono ?_; rintro e w' ⟨rfl, rfl⟩)
        go_ret
        exact ⟨ret_bool HB.out.symm, H2.out⟩
      · have HN : Hid ((l.take (k + 1)).all isWord = true) := Lib.hid (by rw [all_snoc l k hlt, HL.out, hw]; rfl)
        have cw := specWord_any l[k] w1 hsz.out
        rw [hw] at cw
        clear hw
        go_wp2_with (go_at_call 69; refine cw.mono ?_; rintro e w' ⟨rfl, rfl⟩)
        go_round
        case rel => exact ⟨k + 1, by omega, by go_num, HN⟩
        case measure => simp [intOf]; omega
    · obtain rfl : k = l.length := by omega
      have HE := Lib.hid (topicP_end HL.out)
      clear HL
      go_wp2
      go_ret
      exact ⟨ret_bool (by rw [HE.out]; grind), H2.out⟩

end Go.Proofs.YtmfbffhbgelnnaaGreatDoor

/- The walk of the reference's Matches. -/
namespace Go.Proofs.YtmfbffhbgelnnaaGreatDoor
open Go.RowKit

set_option maxRecDepth 100000 in
set_option maxHeartbeats 1600000 in
theorem specMatches_any (f t : ByteArray) (w : World) (hf : f.size ≤ 1048576) (ht : t.size ≤ 1048576) :
    Calls Tryz.prog 96 #[.string f, .string t] w fun e w' => e = .returned (.bool (matchB f t)) ∧ Below w.heap.size w w' := by
  have c1 := specFilter_any f w hf
  have C2 := Lib.hid (fun w => specTopic_any t w ht)
  have C3 := Lib.hid (fun w => specParts_any f w hf)
  have C4 := Lib.hid (fun w => specParts_any t w ht)
  have hpf := parts_pos f 47
  have hpt := parts_pos t 47
  have hlf := parts_le f 47
  have hlt := parts_le t 47
  have HB : Hid (matchB f t = (filterP (parts f 47) && topicP (parts t 47) && matchP (parts f 47) (parts t 47))) := rfl
  obtain ⟨F, hF⟩ : ∃ F, parts f 47 = F := ⟨_, rfl⟩
  obtain ⟨T, hT⟩ : ∃ T, parts t 47 = T := ⟨_, rfl⟩
  rw [hF] at c1 C3 hpf hlf HB
  rw [hT] at C2 C4 hpt hlt HB
  clear hF hT
  obtain ⟨bf, hbf⟩ : ∃ b, filterP F = b := ⟨_, rfl⟩
  obtain ⟨bt, hbt⟩ : ∃ b, topicP T = b := ⟨_, rfl⟩
  rw [hbf] at c1 HB
  rw [hbt] at C2 HB
  clear hbf hbt
  cases bf
  · go_enter Tryz.func96, Tryz.ntmps96
    go_wp2_with fail
    refine c1.mono ?_
    rintro e w1 ⟨rfl, b1⟩
    have B1 := Lib.hid b1
    clear b1 c1
    go_wp2
    go_ret
    exact ⟨ret_bool (by rw [HB.out]; rfl), B1.out⟩
  · cases bt
    · go_enter Tryz.func96, Tryz.ntmps96
      go_wp2_with fail
      refine c1.mono ?_
      rintro e w1 ⟨rfl, b1⟩
      have B1 := Lib.hid b1
      clear b1 c1
      go_wp2_with fail
      refine (C2.out w1).mono ?_
      rintro e w2 ⟨rfl, b2⟩
      have B2 := Lib.hid (B1.out.trans (b2.mono B1.out.size))
      clear b2 B1
      go_wp2
      go_ret
      exact ⟨ret_bool (by rw [HB.out]; rfl), B2.out⟩
    · go_enter Tryz.func96, Tryz.ntmps96
      go_wp2_with fail
      refine c1.mono ?_
      rintro e w1 ⟨rfl, b1⟩
      have B1 := Lib.hid b1
      clear b1 c1
      go_wp2_with fail
      refine (C2.out w1).mono ?_
      rintro e w2 ⟨rfl, b2⟩
      have B2 := Lib.hid (B1.out.trans (b2.mono B1.out.size))
      clear b2 B1
      go_wp2_with fail
      refine (C3.out w2).mono ?_
      rintro e w3 ⟨v3, rfl, o3, b3⟩
      obtain ⟨gf, cf, rfl, _, hgf, hcf, _⟩ := row_open o3 hpf
      have HCF := Lib.hid hcf
      have B3 := Lib.hid (B2.out.trans (b3.mono B2.out.size))
      clear b3 B2 o3 hcf
      go_wp2_with fail
      refine (C4.out w3).mono ?_
      rintro e w4 ⟨v4, rfl, o4, b4⟩
      obtain ⟨gt, ct, rfl, _, hgt, hct, _⟩ := row_open o4 hpt
      have HCT := Lib.hid hct
      have HCF2 : Hid (∀ j (hj : j < F.length), w4.cell? ⟨gf, j, none⟩ = some (.string F[j])) := Lib.hid (fun j hj => (below_cell b4 hgf).trans (HCF.out j hj))
      have hgf4 : gf < w4.heap.size := Nat.lt_of_lt_of_le hgf b4.size
      have B4 := Lib.hid (B3.out.trans (b4.mono B3.out.size))
      clear b4 B3 o4 hct HCF C2 C3 C4
      go_wp2_with fail
      go_loopw [7] (fun i wr => ∃ k : Nat, k ≤ F.length ∧ k ≤ T.length ∧ i = .int .i64 k ∧ Hid (matchP F T = matchP (F.drop k) (T.drop k)) ∧ Hid (Below w4.heap.size w4 wr)) (fun i _ => F.length - (intOf i).toNat)
      case atStart => exact ⟨0, Nat.zero_le _, Nat.zero_le _, rfl, rfl, Below.refl _ _⟩
      case round =>
        obtain ⟨k, hkF, hkT, rfl, HM, HW⟩ := hrel
        by_cases hk : k < F.length
        · have hp := (below_cell HW.out hgf4).trans (HCF2.out k hk)
          cases hA : isHash F[k]
          · have hA2 : (F[k].toList == [35]) = false := hA
            by_cases hk2 : k < T.length
            · have hq := (below_cell HW.out hgt).trans (HCT.out k hk2)
              have hi1 : (k : Int) < (T.length : Int) := by omega
              have hi2 : decide (T.length ≤ k) = false := decide_eq_false (by omega)
              have HIN := Lib.hid (matchP_in hk hk2 hA)
              obtain ⟨p, hpp⟩ : ∃ p, F[k] = p := ⟨_, rfl⟩
              obtain ⟨q, hqq⟩ : ∃ q, T[k] = q := ⟨_, rfl⟩
              rw [hpp] at hp hA2 HIN
              rw [hqq] at hq HIN
              clear hpp hqq hA
              cases hP : isPlus p
              · have hP2 : (p.toList == [43]) = false := hP
                have hP3 : (!(p.toList == [43])) = true := by rw [hP2]; rfl
                cases hQ : alike p q
                · have hQ2 : (p.toList == q.toList) = false := hQ
                  have hQ3 : (!(p.toList == q.toList)) = true := by rw [hQ2]; rfl
                  have HE : Hid (matchP F T = false) := Lib.hid (by rw [HM.out, HIN.out, hP, hQ]; rfl)
                  clear hP hQ HIN HM
                  go_wp2_with fail
                  go_quiet (fail)
                  go_wp2
                  go_ret
                  exact ⟨ret_bool (by rw [HB.out, HE.out]; rfl), below_drewN (below_end B4.out HW.out) _⟩
                · have hQ2 : (p.toList == q.toList) = true := hQ
                  have hQ3 : (!(p.toList == q.toList)) = false := by rw [hQ2]; rfl
                  have HN : Hid (matchP F T = matchP (F.drop (k + 1)) (T.drop (k + 1))) := Lib.hid (by rw [HM.out, HIN.out, hP, hQ]; rfl)
                  clear hP hQ HIN HM
                  go_wp2_with fail
                  go_quiet (fail)
                  go_wp2
                  go_roundw
                  case rel => exact ⟨k + 1, by omega, by omega, by go_num, HN, below_drewN HW.out _⟩
                  case measure => simp [intOf]; omega
              · have hP2 : (p.toList == [43]) = true := hP
                have hP3 : (!(p.toList == [43])) = false := by rw [hP2]; rfl
                have HN : Hid (matchP F T = matchP (F.drop (k + 1)) (T.drop (k + 1))) := Lib.hid (by rw [HM.out, HIN.out, hP]; rfl)
                clear hP HIN HM
                go_wp2_with fail
                go_quiet (fail)
                go_wp2
                go_roundw
                case rel => exact ⟨k + 1, by omega, by omega, by go_num, HN, below_drewN HW.out _⟩
                case measure => simp [intOf]; omega
            · have HE : Hid (matchP F T = false) := Lib.hid (by rw [HM.out, matchP_out hk hA (by omega)])
              have hi2 : decide (T.length ≤ k) = true := decide_eq_true (by omega)
              obtain ⟨p, hpp⟩ : ∃ p, F[k] = p := ⟨_, rfl⟩
              rw [hpp] at hp hA2
              clear hpp hA HM
              go_wp2_with fail
              go_quiet (fail)
              go_wp2
              go_ret
              exact ⟨ret_bool (by rw [HB.out, HE.out]; rfl), below_drewN (below_end B4.out HW.out) _⟩
          · have hA2 : (F[k].toList == [35]) = true := hA
            have HE : Hid (matchP F T = true) := Lib.hid (by rw [HM.out, matchP_hash hk hA])
            obtain ⟨p, hpp⟩ : ∃ p, F[k] = p := ⟨_, rfl⟩
            rw [hpp] at hp hA2
            clear hpp hA HM
            go_wp2
            go_ret
            exact ⟨ret_bool (by rw [HB.out, HE.out]; rfl), below_end B4.out HW.out⟩
        · obtain rfl : k = F.length := by omega
          have HE : Hid (matchP F T = decide (F.length = T.length)) := Lib.hid (by rw [HM.out, matchP_end F T _ (Nat.le_refl _) hkT])
          clear HM
          go_wp2
          go_ret
          exact ⟨ret_bool (by rw [HB.out, HE.out]; grind), below_end B4.out HW.out⟩

end Go.Proofs.YtmfbffhbgelnnaaGreatDoor

/- The walks of the reference's MsgOk and MsgsOk. -/
namespace Go.Proofs.YtmfbffhbgelnnaaGreatDoor
open Go.RowKit

set_option maxRecDepth 100000 in
set_option maxHeartbeats 1600000 in
theorem specMsgOk_any (x : MsgM) (w : World) (hs : x.2.2.1.size ≤ 1048576) :
    Calls Tryz.prog 66 #[magg x] w fun e w' => e = .returned (.bool (msgB x)) ∧ Below w.heap.size w w' := by
  obtain ⟨q, f, p, d⟩ := x
  dsimp only at hs
  have C1 := Lib.hid (fun w' => specIn_any q 1 100000 w')
  have C2 := Lib.hid (fun w' => specIn_any f 0 7 w')
  have C3 := Lib.hid (fun w' => specTopic_any p w' hs)
  have C4 := Lib.hid (fun w' => specIn_any d 0 9999 w')
  have HB : Hid (msgB (q, f, p, d) = ((decide (1 ≤ q) && decide (q ≤ 100000)) && (decide (0 ≤ f) && decide (f ≤ 7)) && topicP (parts p 47) && (decide (0 ≤ d) && decide (d ≤ 9999)))) := rfl
  generalize (decide (1 ≤ q) && decide (q ≤ 100000)) = b1 at C1 HB
  generalize (decide (0 ≤ f) && decide (f ≤ 7)) = b2 at C2 HB
  generalize topicP (parts p 47) = b3 at C3 HB
  generalize (decide (0 ≤ d) && decide (d ≤ 9999)) = b4 at C4 HB
  clear hs
  go_enter Tryz.func66, Tryz.ntmps66
  go_wp2_with fail
  refine (C1.out _).mono ?_
  rintro e w1 ⟨rfl, rfl⟩
  cases b1
  · go_wp2
    go_ret
    exact ⟨ret_bool (by rw [HB.out]; rfl), (Below.refl _ _).alloc (Nat.le_refl _) _⟩
  go_wp2_with fail
  refine (C2.out _).mono ?_
  rintro e w1 ⟨rfl, rfl⟩
  cases b2
  · go_wp2
    go_ret
    exact ⟨ret_bool (by rw [HB.out]; rfl), (Below.refl _ _).alloc (Nat.le_refl _) _⟩
  go_wp2_with fail
  have b0 : Below w.heap.size w (w.alloc (.cells #[.int .i64 q, .int .i64 f, .string p, .int .i64 d] 97)) := (Below.refl _ _).alloc (Nat.le_refl _) _
  have s0 : w.heap.size < (w.alloc (.cells #[.int .i64 q, .int .i64 f, .string p, .int .i64 d] 97)).heap.size := by simp
  have c0 : (w.alloc (.cells #[.int .i64 q, .int .i64 f, .string p, .int .i64 d] 97)).cell? ⟨w.heap.size, 3, none⟩ = some (.int .i64 d) := by rw [World.cell?_alloc_at _ _ _ _ rfl]; rfl
  generalize w.alloc (.cells #[.int .i64 q, .int .i64 f, .string p, .int .i64 d] 97) = w0 at b0 s0 c0 ⊢
  refine (C3.out _).mono ?_
  rintro e w1 ⟨rfl, hb⟩
  have c1 := (below_cell hb s0).trans c0
  have B1 := Lib.hid (b0.trans (hb.mono b0.size))
  clear b0 s0 c0 hb
  cases b3
  · go_wp2
    go_ret
    exact ⟨ret_bool (by rw [HB.out]; rfl), B1.out⟩
  go_wp2_with fail
  refine (C4.out _).mono ?_
  rintro e w2 ⟨rfl, rfl⟩
  go_wp2
  go_ret
  exact ⟨ret_bool (by rw [HB.out]; simp), B1.out⟩

end Go.Proofs.YtmfbffhbgelnnaaGreatDoor

/- Messages as cells: what an append of messages reads. -/
namespace Go.Proofs.YtmfbffhbgelnnaaGreatDoor
open Go.RowKit

theorem mcells_one (l : List MsgM) : ∀ u ∈ mcells l, u.oneCell' = true := by
  intro u hu
  obtain ⟨x, _, hx⟩ := List.mem_flatMap.1 hu
  simp only [mval, List.mem_cons, List.not_mem_nil, or_false] at hx
  rcases hx with rfl | rfl | rfl | rfl <;> rfl

/-- The cells of a row of messages, one by one. -/
theorem msgs_src {w : World} {b o : Nat} {l : List MsgM} (h : MsgsIn w b o l) : ∀ j u, (mcells l)[j]? = some u → w.cell? ((⟨b, o, none⟩ : Addr).add j) = some u := by
  intro j u hu
  have hj : j < l.length * 4 := by
    rcases Nat.lt_or_ge j (l.length * 4) with h | h
    · exact h
    · rw [List.getElem?_eq_none (by rw [mcells_length]; exact h)] at hu; cases hu
  have hi : j / 4 < l.length := by omega
  have e := mcells_at l (j / 4) hi
  have c := h (j / 4) hi
  have ha : ∀ n : Nat, (⟨b, o, none⟩ : Addr).add n = ⟨b, o + n, none⟩ := fun n => by unfold Addr.add; split <;> simp_all
  rw [ha]
  obtain ⟨i, hj2 | hj2 | hj2 | hj2⟩ : ∃ i, j = i * 4 ∨ j = i * 4 + 1 ∨ j = i * 4 + 2 ∨ j = i * 4 + 3 := ⟨j / 4, by omega⟩
  · subst hj2
    simp only [show i * 4 / 4 = i by omega] at e c
    rw [e.1] at hu; cases hu; exact c.1
  · subst hj2
    simp only [show (i * 4 + 1) / 4 = i by omega] at e c
    rw [e.2.1] at hu; cases hu; exact c.2.1
  · subst hj2
    simp only [show (i * 4 + 2) / 4 = i by omega] at e c
    rw [e.2.2.1] at hu; cases hu; exact c.2.2.1
  · subst hj2
    simp only [show (i * 4 + 3) / 4 = i by omega] at e c
    rw [e.2.2.2] at hu; cases hu; exact c.2.2.2

theorem msg_info : ∃ i, Tryz.prog.info? 97 = some i ∧ i.zero = some (.agg #[.int .i64 0, .int .i64 0, .string ⟨#[]⟩, .int .i64 0]) ∧ i.size = 4 ∧ i.bytes = 40 :=
  info_parts (by kernel_rfl)

theorem own_farR {w : World} {B n size g j : Nat} {E : TypeId} {u v : Value} {xs : List Value} (h : w.ownsRow B E size v n xs) (hg : g < B) : (w.setCell ⟨g, j, none⟩ u).ownsRow B E size v n xs :=
  h.kept (grown_setCell w g j u) (by
    cases e : v.ownBlock with
    | none => exact .inl rfl
    | some k => exact .inr (by have := (h.lt k e).1; intro e2; cases e2; omega))

theorem msg_new (w : World) (x : MsgM) (T : TypeId) : ∀ j u, (mcells [x])[j]? = some u → (w.alloc (.cells #[.int .i64 x.1, .int .i64 x.2.1, .string x.2.2.1, .int .i64 x.2.2.2] T)).cell? ((⟨w.heap.size, 0, none⟩ : Addr).add j) = some u := by
  refine msgs_src (l := [x]) fun j hj => ?_
  have : j = 0 := by simpa using hj
  subst this
  refine ⟨?_, ?_, ?_, ?_⟩ <;> rw [World.cell?_alloc_at _ _ _ _ rfl] <;> rfl

end Go.Proofs.YtmfbffhbgelnnaaGreatDoor

/- The walk of the reference's BoxOk. -/
namespace Go.Proofs.YtmfbffhbgelnnaaGreatDoor
open Go.RowKit

theorem specCount_any (x : Int) (w : World) :
    Calls Tryz.prog 28 #[.int .i64 x] w fun e w' => e = .returned (.bool (inB x 0 100000)) ∧ w = w' := by
  have C := Lib.hid (fun w' => specIn_any x 0 100000 w')
  go_enter Tryz.func28, Tryz.ntmps28
  go_wp2_with fail
  refine (C.out _).mono ?_
  rintro e w1 ⟨rfl, rfl⟩
  go_wp2
  go_ret
  exact ⟨rfl, rfl⟩

/-- Of a queue, the first k are right. -/
def msgsAllTo (l : List MsgM) (k : Nat) : Bool := msgsAll (l.take k)
theorem msgsAllTo_succ (l : List MsgM) (k : Nat) (h : k < l.length) : msgsAllTo l (k + 1) = (msgsAllTo l k && msgB l[k]) := by
  unfold msgsAllTo msgsAll
  rw [List.take_succ_eq_append_getElem h, List.all_append]
  simp
theorem msgsAllTo_bad {l : List MsgM} {k : Nat} (h : k < l.length) (hb : msgB l[k] = false) : msgsAll l = false := by
  unfold msgsAll
  rw [List.all_eq_false]
  exact ⟨l[k], List.getElem_mem h, by simp [hb]⟩

theorem below_weak {w0 w1 : World} {n : Nat} (h : Below w0.heap.size w0 w1) (_ : n < w0.heap.size) : Below w0.heap.size w0 w1 := h

set_option maxRecDepth 100000 in
set_option maxHeartbeats 1600000 in
theorem specBoxOk_any (b : BoxM) (v : Value) (w : World) (hs : ∀ x ∈ b.q, x.2.2.1.size ≤ 1048576) (hv : MsgsAt w v b.q) :
    Calls Tryz.prog 34 #[bagg b v] w fun e w' => e = .returned (.bool (boxB b)) ∧ Below w.heap.size w w' := by
  have C1 := Lib.hid (fun w' => specIn_any b.cap 1 16 w')
  have C2 := Lib.hid (fun w' => specIn_any b.pol 1 4 w')
  have C4 := Lib.hid (fun w' => specCount_any b.ofr w')
  have C5 := Lib.hid (fun w' => specCount_any b.rcv w')
  have C6 := Lib.hid (fun w' => specCount_any b.drp w')
  have C7 := Lib.hid (fun w' => specCount_any b.mrg w')
  have HN : Hid (boxN b = ((decide (1 ≤ b.cap) && decide (b.cap ≤ 16)) && (decide (1 ≤ b.pol) && decide (b.pol ≤ 4)) && decide ((b.q.length : Int) ≤ b.cap) && inB b.ofr 0 100000 && inB b.rcv 0 100000 && inB b.drp 0 100000 && inB b.mrg 0 100000)) := Lib.hid rfl
  have HNB : Hid (boxN b = true → 0 ≤ b.ofr ∧ b.ofr ≤ 100000 ∧ 0 ≤ b.rcv ∧ b.rcv ≤ 100000 ∧ 0 ≤ b.drp ∧ b.drp ≤ 100000 ∧ 0 ≤ b.mrg ∧ b.mrg ≤ 100000 ∧ b.q.length ≤ 16) := Lib.hid (fun h => by
    unfold boxN inB at h
    simp only [Bool.and_eq_true, decide_eq_true_eq] at h
    omega)
  have HBX : Hid (boxB b = (boxN b && (msgsAll b.q && decide (b.ofr = b.rcv + b.q.length + b.drp + b.mrg)))) := Lib.hid rfl
  have HV := Lib.hid hv
  obtain ⟨ua, uc, rfl, _, _, _⟩ := hv
  have HS := Lib.hid hs
  clear hs
  generalize (decide (1 ≤ b.cap) && decide (b.cap ≤ 16)) = p1 at C1 HN
  generalize (decide (1 ≤ b.pol) && decide (b.pol ≤ 4)) = p2 at C2 HN
  generalize inB b.ofr 0 100000 = p4 at C4 HN
  generalize inB b.rcv 0 100000 = p5 at C5 HN
  generalize inB b.drp 0 100000 = p6 at C6 HN
  generalize inB b.mrg 0 100000 = p7 at C7 HN
  go_enter Tryz.func34, Tryz.ntmps34
  go_upto_region 1 with (fail)
  have b0 : Below w.heap.size w (w.alloc (.cells (bcells b (.slice ua b.q.length uc)) 62)) := (Below.refl _ _).alloc (Nat.le_refl _) _
  have r0 : BBox (w.alloc (.cells (bcells b (.slice ua b.q.length uc)) 62)) w.heap.size 62 b (.slice ua b.q.length uc) := BBox.new _ _ _ _
  have v0 := HV.out.alloc (.cells (bcells b (.slice ua b.q.length uc)) 62)
  generalize w.alloc (.cells (bcells b (.slice ua b.q.length uc)) 62) = w0 at b0 r0 v0 ⊢
  have B0 := Lib.hid b0
  have V0 := Lib.hid v0
  have R0 := Lib.hid r0
  obtain ⟨x0, x1, x2, x3, x4, x5, x6, x7⟩ := r0.cells
  clear b0 v0 r0
  go_wp2_with fail
  refine (C1.out _).mono ?_
  rintro e w1 ⟨rfl, hw⟩
  subst hw
  cases p1
  · have HE := Lib.hid (show boxB b = false by rw [HBX.out, HN.out]; simp)
    go_wp2
    go_ret
    exact ⟨ret_bool HE.out.symm, B0.out⟩
  go_wp2_with fail
  refine (C2.out _).mono ?_
  rintro e w1 ⟨rfl, hw⟩
  subst hw
  cases p2
  · have HE := Lib.hid (show boxB b = false by rw [HBX.out, HN.out]; simp)
    go_wp2
    go_ret
    exact ⟨ret_bool HE.out.symm, B0.out⟩
  by_cases h3 : b.cap < b.q.length
  · have g3 : decide (b.cap < b.q.length) = true := decide_eq_true h3
    have HE := Lib.hid (show boxB b = false by rw [HBX.out, HN.out, decide_eq_false (show ¬ ((b.q.length : Int) ≤ b.cap) by omega)]; simp)
    go_wp2
    go_ret
    exact ⟨ret_bool HE.out.symm, B0.out⟩
  have g3 : decide (b.cap < b.q.length) = false := decide_eq_false h3
  have HN2 := Lib.hid (show boxN b = (p4 && p5 && p6 && p7) by rw [HN.out, decide_eq_true (show (b.q.length : Int) ≤ b.cap by omega)]; simp)
  clear HN
  go_wp2_with fail
  refine (C4.out _).mono ?_
  rintro e w1 ⟨rfl, hw⟩
  subst hw
  cases p4
  · have HE := Lib.hid (show boxB b = false by rw [HBX.out, HN2.out]; simp)
    go_wp2
    go_ret
    exact ⟨ret_bool HE.out.symm, B0.out⟩
  go_wp2_with fail
  refine (C5.out _).mono ?_
  rintro e w1 ⟨rfl, hw⟩
  subst hw
  cases p5
  · have HE := Lib.hid (show boxB b = false by rw [HBX.out, HN2.out]; simp)
    go_wp2
    go_ret
    exact ⟨ret_bool HE.out.symm, B0.out⟩
  go_wp2_with fail
  refine (C6.out _).mono ?_
  rintro e w1 ⟨rfl, hw⟩
  subst hw
  cases p6
  · have HE := Lib.hid (show boxB b = false by rw [HBX.out, HN2.out]; simp)
    go_wp2
    go_ret
    exact ⟨ret_bool HE.out.symm, B0.out⟩
  go_wp2_with fail
  refine (C7.out _).mono ?_
  rintro e w1 ⟨rfl, hw⟩
  subst hw
  cases p7
  · have HE := Lib.hid (show boxB b = false by rw [HBX.out, HN2.out]; simp)
    go_wp2
    go_ret
    exact ⟨ret_bool HE.out.symm, B0.out⟩
  have HNT := Lib.hid (show boxN b = true by rw [HN2.out]; simp)
  clear HN2 C1 C2 C4 C5 C6 C7 g3 h3 x0 x1 x2 x3 x4 x5 x6 x7
  obtain ⟨n1, n2, n3, n4, n5, n6, n7, n8, n9⟩ := HNB.out HNT.out
  clear HNB
  have HBX2 := Lib.hid (show boxB b = (msgsAll b.q && decide (b.ofr = b.rcv + b.q.length + b.drp + b.mrg)) by rw [HBX.out, HNT.out]; simp)
  clear HBX HNT
  go_upto_region 3 with (fail)
  go_wp2
  go_loopw [3] (fun i wr => ∃ k : Nat, k ≤ b.q.length ∧ i = .int .i64 k ∧ Hid (msgsAllTo b.q k = true) ∧ Hid (Below w0.heap.size w0 wr)) (fun i _ => b.q.length - (intOf i).toNat)
  case atStart => exact ⟨0, Nat.zero_le _, rfl, rfl, Lib.hid (Below.refl _ _)⟩
  case round =>
    obtain ⟨k, hk, rfl, HT, HB⟩ := hrel
    have rr := R0.out.below HB.out
    obtain ⟨x0, x1, x2, x3, x4, x5, x6, x7⟩ := rr.cells
    by_cases hlt : k < b.q.length
    · obtain ⟨bb, o, rfl, hin⟩ : ∃ bb o, ua = some ⟨bb, o, none⟩ ∧ MsgsIn w0 bb o b.q := by
        obtain ⟨_, _, he, _, _, h⟩ := V0.out
        cases he
        rcases h with h | h
        · rw [h] at hlt; simp at hlt
        · exact h
      obtain ⟨p0, p1, p2, p3⟩ := (hin.below HB.out) k hlt
      have CM := Lib.hid (fun wx => specMsgOk_any b.q[k] wx (HS.out _ (List.getElem_mem hlt)))
      have HBAD := Lib.hid (fun h => msgsAllTo_bad hlt h)
      have HGO : Hid (msgB b.q[k] = true → msgsAllTo b.q (k + 1) = true) := Lib.hid (fun h => by rw [msgsAllTo_succ b.q k hlt, HT.out, h]; rfl)
      obtain ⟨mb, hmb⟩ : ∃ mb, msgB b.q[k] = mb := ⟨_, rfl⟩
      rw [hmb] at CM HBAD HGO
      obtain ⟨x, hx⟩ : ∃ x, b.q[k] = x := ⟨_, rfl⟩
      rw [hx] at p0 p1 p2 p3 CM
      clear hmb hx hin HT rr
      go_wp2_with fail
      refine (CM.out _).mono ?_
      rintro e wa ⟨rfl, hb⟩
      have HB2 := Lib.hid (below_end HB.out hb)
      clear hb p0 p1 p2 p3 x0 x1 x2 x3 x4 x5 x6 x7
      cases mb
      · have HE := Lib.hid (show boxB b = false by rw [HBX2.out, HBAD.out rfl]; rfl)
        go_wp2
        go_ret
        exact ⟨ret_bool HE.out.symm, below_end B0.out (below_weak HB2.out R0.out.lt)⟩
      · have HN := Lib.hid (HGO.out rfl)
        go_wp2
        go_roundw
        case rel => exact ⟨k + 1, by omega, by go_num, HN, HB2⟩
        case measure => simp [intOf]; omega
    · obtain rfl : k = b.q.length := by omega
      have HE := Lib.hid (show boxB b = decide (b.ofr = b.rcv + b.q.length + b.drp + b.mrg) by rw [HBX2.out, show msgsAll b.q = true by have := HT.out; unfold msgsAllTo at this; rwa [List.take_length] at this]; simp)
      have g1 : IntKind.i64.wrap (b.rcv + (b.q.length : Int)) = b.rcv + (b.q.length : Int) := by rw [IntKind.wrap_i64]; omega
      have g2 : IntKind.i64.wrap (b.rcv + (b.q.length : Int) + b.drp) = b.rcv + (b.q.length : Int) + b.drp := by rw [IntKind.wrap_i64]; omega
      have g3 : IntKind.i64.wrap (b.rcv + (b.q.length : Int) + b.drp + b.mrg) = b.rcv + (b.q.length : Int) + b.drp + b.mrg := by rw [IntKind.wrap_i64]; omega
      go_wp2
      go_ret
      exact ⟨ret_bool (by rw [HE.out]; rfl), below_end B0.out (below_weak HB.out R0.out.lt)⟩

end Go.Proofs.YtmfbffhbgelnnaaGreatDoor

/- The walks of the reference's small functions on tries. -/
namespace Go.Proofs.YtmfbffhbgelnnaaGreatDoor
open Go.RowKit

theorem specId_any (x : Int) (w : World) :
    Calls Tryz.prog 73 #[.int .i64 x] w fun e w' => e = .returned (.bool (idOk x)) ∧ w = w' := by
  have c := specIn_any x 0 99 w
  have e : (decide (0 ≤ x) && decide (x ≤ 99)) = idOk x := rfl
  rw [e] at c
  obtain ⟨b, hb⟩ : ∃ b, idOk x = b := ⟨_, rfl⟩
  rw [hb] at c ⊢
  clear e hb
  go_enter Tryz.func73, Tryz.ntmps73
  go_wp2_with fail
  refine c.mono ?_
  rintro e w' ⟨rfl, rfl⟩
  go_wp2
  go_ret
  exact ⟨rfl, rfl⟩

theorem byte_yes {s : ByteArray} {j : Nat} {c : UInt8} (h : j < s.size) (e : ((s[j].toNat : Int) == (c.toNat : Int)) = true) : s.data.toList[j]? = some c := by
  have hj : j < s.data.toList.length := h
  rw [List.getElem?_eq_getElem hj]
  have : s[j] = c := UInt8.toNat_inj.1 (by rw [beq_iff_eq] at e; omega)
  exact congrArg some this

theorem byte_no {s : ByteArray} {j : Nat} {c : UInt8} (h : j < s.size) (e : ((s[j].toNat : Int) == (c.toNat : Int)) = false) : s.data.toList[j]? ≠ some c := by
  have hj : j < s.data.toList.length := h
  rw [List.getElem?_eq_getElem hj]
  intro k
  have : s[j] = c := Option.some.inj k
  rw [this] at e; simp at e

set_option maxRecDepth 100000 in
set_option maxHeartbeats 400000 in
theorem specAbove_any (s : ByteArray) (w : World) (hs : s.size ≤ maxLen) :
    Calls Tryz.prog 76 #[.string s] w fun e w' => e = .returned (.string (above s)) ∧ w = w' := by
  unfold maxLen at hs
  go_enter Tryz.func76, Tryz.ntmps76
  go_wp2
  go_loop [3] (fun i => ∃ k : Nat, k ≤ s.size ∧ i = .int .i64 ((k : Int) - 1) ∧ Hid (above s = aboveTo s k)) (fun i => (intOf i + 1).toNat)
  case atStart => exact ⟨s.size, Nat.le_refl _, by first | rfl | go_num, rfl⟩
  case round =>
    obtain ⟨k, hk, rfl, HA⟩ := hrel
    by_cases h0 : 0 < k
    · obtain ⟨j, rfl⟩ : ∃ j, k = j + 1 := ⟨k - 1, by omega⟩
      have hj : j < s.size := by omega
      cases hb : ((s[j].toNat : Int) == ((47 : UInt8).toNat : Int))
      · have HN : Hid (above s = aboveTo s j) := Lib.hid (by rw [HA.out, aboveTo, if_neg (byte_no hj hb)])
        have hb2 : ((s[j].toNat : Int) == 47) = false := hb
        clear HA hb
        go_wp2
        go_round
        case rel => exact ⟨j, by omega, rfl, HN⟩
        case measure => simp only [intOf]; omega
      · have HN : Hid (above s = s.extract 0 j) := Lib.hid (by rw [HA.out, aboveTo, if_pos (byte_yes hj hb)])
        have hb2 : ((s[j].toNat : Int) == 47) = true := hb
        clear HA hb
        go_wp2
        go_ret
        exact ⟨ret_str HN.out.symm, rfl⟩
    · obtain rfl : k = 0 := by omega
      have HN : Hid (above s = ⟨#[]⟩) := Lib.hid (by rw [HA.out, aboveTo])
      clear HA
      go_wp2
      go_ret
      exact ⟨ret_str HN.out.symm, rfl⟩

set_option maxRecDepth 100000 in
set_option maxHeartbeats 800000 in
theorem specFind_any (v : Value) (l : List KnotM) (p : ByteArray) (w : World) (hl : l.length ≤ 4000000) (hv : KnotsAt w v l) :
    Calls Tryz.prog 72 #[v, .string p] w fun e w' => e = .returned (.int .i64 (find l p)) ∧ w = w' := by
  obtain ⟨a, c, rfl, hc1, hc2, hc3⟩ := hv
  have HC := Lib.hid hc3
  clear hc3
  go_enter Tryz.func72, Tryz.ntmps72
  go_wp2
  go_loop [5] (fun i => ∃ k : Nat, k ≤ l.length ∧ i = .int .i64 k ∧ Hid (find l p = findFrom p (l.drop k) k)) (fun i => l.length - (intOf i).toNat)
  case atStart => exact ⟨0, Nat.zero_le _, rfl, rfl⟩
  case round =>
    obtain ⟨k, hk, rfl, HF⟩ := hrel
    by_cases hlt : k < l.length
    · obtain ⟨b, o, rfl, hin⟩ : ∃ b o, a = some ⟨b, o, none⟩ ∧ KnotsIn w b o l := by
        rcases HC.out with h | h
        · subst h; simp at hlt
        · exact h
      have hcell := (hin k hlt).1
      clear hin
      have e1 : l.drop k = l[k] :: l.drop (k + 1) := List.drop_eq_getElem_cons hlt
      cases ht : ((l[k].1).toList == p.toList)
      · have HN : Hid (find l p = findFrom p (l.drop (k + 1)) (k + 1)) := Lib.hid (by rw [HF.out, e1, findFrom, if_neg (by rw [ht]; decide)])
        obtain ⟨q, hq⟩ : ∃ q, l[k].1 = q := ⟨_, rfl⟩
        rw [hq] at hcell ht
        clear hq e1 HF
        go_wp2
        go_round
        case rel => exact ⟨k + 1, by omega, by go_num, HN⟩
        case measure => simp [intOf]; omega
      · have HN : Hid (find l p = (k : Int)) := Lib.hid (by rw [HF.out, e1, findFrom, if_pos ht])
        obtain ⟨q, hq⟩ : ∃ q, l[k].1 = q := ⟨_, rfl⟩
        rw [hq] at hcell ht
        clear hq e1 HF
        go_wp2
        go_ret
        exact ⟨ret_int HN.out.symm, rfl⟩
    · obtain rfl : k = l.length := by omega
      have HN : Hid (find l p = -1) := Lib.hid (by rw [HF.out, List.drop_length]; rfl)
      clear HF
      go_wp2
      go_ret
      exact ⟨ret_int HN.out.symm, rfl⟩

theorem childB_hit {l : List KnotM} {p : ByteArray} {k : Nat} (h1 : 1 ≤ k) (h : k < l.length) (e : ((above l[k].1).toList == p.toList) = true) : childB l p = true := by
  rw [childB, List.any_eq_true]
  refine ⟨l[k], ?_, e⟩
  have : l[k] = (l.drop 1)[k - 1]'(by simp; omega) := by rw [List.getElem_drop]; congr 1; omega
  rw [this]; exact List.getElem_mem _

/-- None of the knots from the first up to the k-th is a child. -/
def noChildTo (l : List KnotM) (p : ByteArray) (k : Nat) : Prop := ∀ j (hj : j < l.length), 1 ≤ j → j < k → ((above l[j].1).toList == p.toList) = false

theorem childB_none {l : List KnotM} {p : ByteArray} (h : noChildTo l p l.length) : childB l p = false := by
  cases e : childB l p
  · rfl
  · rw [childB, List.any_eq_true] at e
    obtain ⟨x, hx, ht⟩ := e
    obtain ⟨j, hj, rfl⟩ := List.getElem_of_mem hx
    rw [List.getElem_drop] at ht
    simp only [List.length_drop] at hj
    rw [h (1 + j) (by omega) (by omega) (by omega)] at ht
    cases ht

set_option maxRecDepth 100000 in
set_option maxHeartbeats 800000 in
theorem specChild_any (v : Value) (l : List KnotM) (p : ByteArray) (w : World) (hl : l.length ≤ 4000000) (hs : ∀ x ∈ l, x.1.size ≤ maxLen) (hv : KnotsAt w v l) :
    Calls Tryz.prog 110 #[v, .string p] w fun e w' => e = .returned (.bool (childB l p)) ∧ w = w' := by
  obtain ⟨a, c, rfl, hc1, hc2, hc3⟩ := hv
  have HC := Lib.hid hc3
  have HS := Lib.hid hs
  clear hc3 hs
  go_enter Tryz.func110, Tryz.ntmps110
  go_wp2
  go_loop [5] (fun i => ∃ k : Nat, 1 ≤ k ∧ i = .int .i64 k ∧ Hid (noChildTo l p k)) (fun i => l.length - (intOf i).toNat)
  case atStart => exact ⟨1, Nat.le_refl _, rfl, Lib.hid (fun j hj h1 h2 => by omega)⟩
  case round =>
    obtain ⟨k, hk, rfl, HF⟩ := hrel
    by_cases hlt : k < l.length
    · obtain ⟨b, o, rfl, hin⟩ : ∃ b o, a = some ⟨b, o, none⟩ ∧ KnotsIn w b o l := by
        rcases HC.out with h | h
        · subst h; simp at hlt
        · exact h
      have hcell := (hin k hlt).1
      clear hin
      have ca := specAbove_any l[k].1 w (HS.out _ (List.getElem_mem hlt))
      cases ht : ((above l[k].1).toList == p.toList)
      · have HN : Hid (noChildTo l p (k + 1)) := Lib.hid (fun j hj h1 h2 => by
          by_cases e : j = k
          · subst e; exact ht
          · exact HF.out j hj h1 (by omega))
        obtain ⟨q, hq⟩ : ∃ q, l[k].1 = q := ⟨_, rfl⟩
        rw [hq] at hcell ht ca
        obtain ⟨u, hu⟩ : ∃ u, above q = u := ⟨_, rfl⟩
        rw [hu] at ca ht
        clear hq HF hu
        go_wp2_with fail
        refine ca.mono ?_
        rintro e w' ⟨rfl, rfl⟩
        clear ca
        go_wp2
        go_round
        case rel => exact ⟨k + 1, by omega, by go_num, HN⟩
        case measure => simp [intOf]; omega
      · have HN := Lib.hid (childB_hit hk hlt ht)
        obtain ⟨q, hq⟩ : ∃ q, l[k].1 = q := ⟨_, rfl⟩
        rw [hq] at hcell ht ca
        obtain ⟨u, hu⟩ : ∃ u, above q = u := ⟨_, rfl⟩
        rw [hu] at ca ht
        clear hq HF hu
        go_wp2_with fail
        refine ca.mono ?_
        rintro e w' ⟨rfl, rfl⟩
        clear ca
        go_wp2
        go_ret
        exact ⟨ret_bool HN.out.symm, rfl⟩
    · have HN : Hid (childB l p = false) := Lib.hid (childB_none (fun j hj h1 h2 => HF.out j hj h1 (by omega)))
      clear HF
      go_wp2
      go_ret
      exact ⟨ret_bool HN.out.symm, rfl⟩

theorem getD_at {l : List Int} {k : Nat} (h : k < l.length) : l.getD k 0 = l[k] := by rw [List.getD_eq_getElem?_getD, List.getElem?_eq_getElem h]; rfl

set_option maxRecDepth 100000 in
set_option maxHeartbeats 1600000 in
theorem specRises_any (v : Value) (l : List Int) (w : World) (hl : l.length ≤ 4000000) (hv : IntsAt w v l) :
    Calls Tryz.prog 109 #[v] w fun e w' => e = .returned (.bool (rises l)) ∧ Below w.heap.size w w' := by
  obtain ⟨a, c, rfl, hc1, hc2, hc3⟩ := hv
  have HC := Lib.hid hc3
  clear hc3
  go_enter Tryz.func109, Tryz.ntmps109
  go_wp2
  go_loopw [3] (fun i wr => ∃ k : Nat, k ≤ l.length ∧ i = .int .i64 k ∧ Hid (risesTo l k = true) ∧ Hid (Below w.heap.size w wr)) (fun i _ => l.length - (intOf i).toNat)
  case atStart => exact ⟨0, Nat.zero_le _, rfl, rfl, Below.refl _ _⟩
  case round =>
    obtain ⟨k, hk, rfl, HR, HB⟩ := hrel
    by_cases hlt : k < l.length
    · obtain ⟨b, o, rfl, hin⟩ : ∃ b o, a = some ⟨b, o, none⟩ ∧ IntsIn w b o l := by
        rcases HC.out with h | h
        · subst h; simp at hlt
        · exact h
      have hin2 := hin.below HB.out
      have hcell := hin2 k hlt
      have hi1 : (k : Int) < (l.length : Int) := by omega
      have HS := Lib.hid (risesTo_succ l k)
      have HX := Lib.hid (risesTo_bad hlt)
      rw [getD_at hlt] at HS HX
      have ci := fun wx => specId_any l[k] wx
      cases hid : idOk l[k]
      · have HE : Hid (rises l = false) := Lib.hid (HX.out (by rw [hid]; rfl))
        rw [hid] at ci
        have CI := Lib.hid ci
        obtain ⟨x, hx⟩ : ∃ x, l[k] = x := ⟨_, rfl⟩
        rw [hx] at hcell CI
        clear hid hx hin hin2 HS HX ci
        go_wp2_with fail
        go_quiet ((go_at_call 73; exact Calls.quiet_of_same (quiet_back (CI.out _))))
        go_wp2
        go_ret
        exact ⟨ret_bool HE.out.symm, below_drewN HB.out _⟩
      · rw [hid] at ci
        have CI := Lib.hid ci
        have HID := Lib.hid hid
        clear ci hid
        by_cases h0 : k = 0
        · have HN : Hid (risesTo l (k + 1) = true) := Lib.hid (by rw [HS.out, HR.out, HID.out, decide_eq_true h0]; rfl)
          have g1 : decide (0 < k) = false := decide_eq_false (by omega)
          have g2 : decide ((0 : Int) < (k : Int)) = false := decide_eq_false (by omega)
          obtain ⟨x, hx⟩ : ∃ x, l[k] = x := ⟨_, rfl⟩
          rw [hx] at hcell CI
          clear hx hin hin2 HS HX h0 HR HID
          go_wp2_with fail
          go_quiet ((go_at_call 73; exact Calls.quiet_of_same (quiet_back (CI.out _))))
          go_wp2
          go_roundw
          case rel => exact ⟨k + 1, by omega, by go_num, HN, below_drewN HB.out _⟩
          case measure => simp [intOf]; omega
        · have hk1 : k - 1 < l.length := by omega
          have hprev := hin2 (k - 1) hk1
          rw [getD_at hk1] at HS HX
          have g1 : decide (0 < k) = true := decide_eq_true (by omega)
          have g2 : decide ((0 : Int) < (k : Int)) = true := decide_eq_true (by omega)
          have g3 : IntKind.i64.wrap ((k : Int) - 1) = (k : Int) - 1 := by rw [IntKind.wrap_i64]; omega
          have g4 : (0 : Int) ≤ (k : Int) - 1 := by omega
          have g4b : (1 : Int) ≤ (k : Int) := by omega
          have g5 : (k : Int) - 1 < (l.length : Int) := by omega
          have g6 : ((k : Int) - 1).toNat = k - 1 := by omega
          by_cases hlt2 : l[k - 1] < l[k]
          · have HN : Hid (risesTo l (k + 1) = true) := Lib.hid (by rw [HS.out, HR.out, HID.out, decide_eq_true hlt2]; simp)
            have g7 : decide (l[k] ≤ l[k - 1]) = false := decide_eq_false (by omega)
            obtain ⟨x, hx⟩ : ∃ x, l[k] = x := ⟨_, rfl⟩
            obtain ⟨y, hy⟩ : ∃ y, l[k - 1] = y := ⟨_, rfl⟩
            rw [hx] at hcell CI g7
            rw [hy] at hprev g7
            clear hx hy hin hin2 HS HX h0 HR HID hlt2
            go_wp2_with fail
            go_quiet ((go_at_call 73; exact Calls.quiet_of_same (quiet_back (CI.out _))))
            go_wp2
            go_roundw
            case rel => exact ⟨k + 1, by omega, by go_num, HN, below_drewN HB.out _⟩
            case measure => simp [intOf]; omega
          · have HE : Hid (rises l = false) := Lib.hid (HX.out (by rw [HID.out, decide_eq_false h0, decide_eq_false hlt2]; rfl))
            have g7 : decide (l[k] ≤ l[k - 1]) = true := decide_eq_true (by omega)
            obtain ⟨x, hx⟩ : ∃ x, l[k] = x := ⟨_, rfl⟩
            obtain ⟨y, hy⟩ : ∃ y, l[k - 1] = y := ⟨_, rfl⟩
            rw [hx] at hcell CI g7
            rw [hy] at hprev g7
            clear hx hy hin hin2 HS HX h0 HR HID hlt2
            go_wp2_with fail
            go_quiet ((go_at_call 73; exact Calls.quiet_of_same (quiet_back (CI.out _))))
            go_wp2
            go_ret
            exact ⟨ret_bool HE.out.symm, below_drewN HB.out _⟩
    · obtain rfl : k = l.length := by omega
      have HE : Hid (rises l = true) := HR
      clear HR
      go_wp2
      go_ret
      exact ⟨ret_bool HE.out.symm, HB.out⟩

end Go.Proofs.YtmfbffhbgelnnaaGreatDoor

/- The walks of impl.idOk and impl.idsOk: numbers from 0 to 99 that rise. -/
namespace Go.Proofs.YtmfbffhbgelnnaaGreatDoor
open Go.RowKit

theorem implId_any (x : Int) (w : World) :
    Calls Tryz.prog 168 #[.int .i64 x] w fun e w' => e = .returned (.bool (idOk x)) ∧ w = w' := by
  unfold idOk
  by_cases h : 0 ≤ x
  · have h1 : decide (0 ≤ x) = true := decide_eq_true h
    rw [h1]
    obtain ⟨b, hb⟩ : ∃ b, decide (x ≤ 99) = b := ⟨_, rfl⟩
    rw [hb]
    cases b
    all_goals
      go_enter Tryz.func168, Tryz.ntmps168
      go_wp2
      go_ret
      exact ⟨rfl, rfl⟩
  · have h1 : decide (0 ≤ x) = false := decide_eq_false h
    rw [h1]
    go_enter Tryz.func168, Tryz.ntmps168
    go_wp2
    go_ret
    exact ⟨rfl, rfl⟩

set_option maxRecDepth 100000 in
set_option maxHeartbeats 1600000 in
theorem implRises_any (v : Value) (l : List Int) (w : World) (hl : l.length ≤ 4000000) (hv : IntsAt w v l) :
    Calls Tryz.prog 140 #[v] w fun e w' => e = .returned (.bool (rises l)) ∧ w = w' := by
  obtain ⟨a, c, rfl, hc1, hc2, hc3⟩ := hv
  have HC := Lib.hid hc3
  clear hc3
  go_enter Tryz.func140, Tryz.ntmps140
  go_wp2
  go_loopw [7] (fun i wr => ∃ k : Nat, k ≤ l.length ∧ i = .int .i64 k ∧ Hid (risesTo l k = true) ∧ wr = w) (fun i _ => l.length - (intOf i).toNat)
  case atStart => exact ⟨0, Nat.zero_le _, rfl, rfl, rfl⟩
  case round =>
    obtain ⟨k, hk, rfl, HR, rfl⟩ := hrel
    by_cases hlt : k < l.length
    · obtain ⟨b, o, rfl, hin⟩ : ∃ b o, a = some ⟨b, o, none⟩ ∧ IntsIn wr b o l := by
        rcases HC.out with h | h
        · subst h; simp at hlt
        · exact h
      have hcell := hin k hlt
      have hi1 : (k : Int) < (l.length : Int) := by omega
      have HS := Lib.hid (risesTo_succ l k)
      have HX := Lib.hid (risesTo_bad hlt)
      rw [getD_at hlt] at HS HX
      have ci := fun wx => implId_any l[k] wx
      cases hid : idOk l[k]
      · have HE : Hid (rises l = false) := Lib.hid (HX.out (by rw [hid]; rfl))
        rw [hid] at ci
        have CI := Lib.hid ci
        obtain ⟨x, hx⟩ : ∃ x, l[k] = x := ⟨_, rfl⟩
        rw [hx] at hcell CI
        clear hid hx hin HS HX ci
        go_wp2_with (go_at_call 168; refine (CI.out _).mono ?_; rintro e w' ⟨rfl, rfl⟩)
        go_ret
        exact ⟨ret_bool HE.out.symm, rfl⟩
      · rw [hid] at ci
        have CI := Lib.hid ci
        have HID := Lib.hid hid
        clear ci hid
        by_cases h0 : k = 0
        · have HN : Hid (risesTo l (k + 1) = true) := Lib.hid (by rw [HS.out, HR.out, HID.out, decide_eq_true h0]; rfl)
          have g1 : decide (0 < k) = false := decide_eq_false (by omega)
          have g2 : decide ((0 : Int) < (k : Int)) = false := decide_eq_false (by omega)
          obtain ⟨x, hx⟩ : ∃ x, l[k] = x := ⟨_, rfl⟩
          rw [hx] at hcell CI
          clear hx hin HS HX h0 HR HID
          go_wp2_with (go_at_call 168; refine (CI.out _).mono ?_; rintro e w' ⟨rfl, rfl⟩)
          go_roundw
          case rel => exact ⟨k + 1, by omega, by go_num, HN, by trivial⟩
          case measure => simp [intOf]; omega
        · have hk1 : k - 1 < l.length := by omega
          have hprev := hin (k - 1) hk1
          rw [getD_at hk1] at HS HX
          have g1 : decide (0 < k) = true := decide_eq_true (by omega)
          have g2 : decide ((0 : Int) < (k : Int)) = true := decide_eq_true (by omega)
          have g3 : IntKind.i64.wrap ((k : Int) - 1) = (k : Int) - 1 := by rw [IntKind.wrap_i64]; omega
          have g4 : (0 : Int) ≤ (k : Int) - 1 := by omega
          have g4b : (1 : Int) ≤ (k : Int) := by omega
          have g5 : (k : Int) - 1 < (l.length : Int) := by omega
          have g6 : ((k : Int) - 1).toNat = k - 1 := by omega
          by_cases hlt2 : l[k - 1] < l[k]
          · have HN : Hid (risesTo l (k + 1) = true) := Lib.hid (by rw [HS.out, HR.out, HID.out, decide_eq_true hlt2]; simp)
            have g7 : decide (l[k] ≤ l[k - 1]) = false := decide_eq_false (by omega)
            obtain ⟨x, hx⟩ : ∃ x, l[k] = x := ⟨_, rfl⟩
            obtain ⟨y, hy⟩ : ∃ y, l[k - 1] = y := ⟨_, rfl⟩
            rw [hx] at hcell CI g7
            rw [hy] at hprev g7
            clear hx hy hin HS HX h0 HR HID hlt2
            go_wp2_with (go_at_call 168; refine (CI.out _).mono ?_; rintro e w' ⟨rfl, rfl⟩)
            go_roundw
            case rel => exact ⟨k + 1, by omega, by go_num, HN, by trivial⟩
            case measure => simp [intOf]; omega
          · have HE : Hid (rises l = false) := Lib.hid (HX.out (by rw [HID.out, decide_eq_false h0, decide_eq_false hlt2]; rfl))
            have g7 : decide (l[k] ≤ l[k - 1]) = true := decide_eq_true (by omega)
            obtain ⟨x, hx⟩ : ∃ x, l[k] = x := ⟨_, rfl⟩
            obtain ⟨y, hy⟩ : ∃ y, l[k - 1] = y := ⟨_, rfl⟩
            rw [hx] at hcell CI g7
            rw [hy] at hprev g7
            clear hx hy hin HS HX h0 HR HID hlt2
            go_wp2_with (go_at_call 168; refine (CI.out _).mono ?_; rintro e w' ⟨rfl, rfl⟩)
            go_ret
            exact ⟨ret_bool HE.out.symm, rfl⟩
    · obtain rfl : k = l.length := by omega
      have HE : Hid (rises l = true) := HR
      clear HR
      go_wp2
      go_ret
      exact ⟨ret_bool HE.out.symm, rfl⟩

end Go.Proofs.YtmfbffhbgelnnaaGreatDoor

/- The walks of the reference's functions that make tries: NewTrie, copies. -/
namespace Go.Proofs.YtmfbffhbgelnnaaGreatDoor
open Go.RowKit

theorem ints_length (l : List Int) : (ints l).length = l.length := by simp [ints]
theorem ints_oneCell' (l : List Int) : ∀ u ∈ ints l, u.oneCell' = true := by
  intro u hu
  obtain ⟨x, _, rfl⟩ := List.mem_map.1 hu
  rfl

set_option maxRecDepth 100000 in
set_option maxHeartbeats 400000 in
theorem specCopy_any (v : Value) (l : List Int) (w : World) (hl : l.length ≤ 4000000) (hv : IntsAt w v l) :
    Calls Tryz.prog 111 #[v] w fun e w' => ∃ u, e = .returned u ∧ w'.ownsRow w.heap.size 2 1 u l.length (ints l) ∧ Below w.heap.size w w' := by
  obtain ⟨a, c, rfl, hc1, hc2, hc3⟩ := hv
  obtain ⟨i, hi, hz0, hz1, hz2⟩ := info_parts (P := Tryz.prog) (e := 2) (z := .int .i64 0) (size := 1) (bytes := 8) (by kernel_rfl)
  have HO := Lib.hid (World.ownsRow_lit (base := w.heap.size) (e := 2) (size := 1) w #[] 0 (Nat.le_refl _) (by unfold maxLen; omega) rfl)
  have HL := Lib.hid (ints_length l)
  cases a with
  | none =>
    have hl0 : l = [] := by
      rcases hc3 with h | ⟨b, o, h, _⟩
      · exact h
      · cases h
    subst hl0
    go_enter Tryz.func111, Tryz.ntmps111
    go_wp2_with (at_builtin; refine wpList_append_empty rfl _ _ 45 rfl w.heap.size 2 i 1 Tryz.underlying45 hi hz1 _ 0 [] rfl HO.out c rfl ?_)
    go_wp2
    go_ret
    exact ⟨_, rfl, HO.out, (Below.refl _ _).alloc (Nat.le_refl _) _⟩
  | some ad =>
    have HN : Hid (∀ j u, (ints l)[j]? = some u → w.cell? (ad.add j) = some u) := Lib.hid (fun j u hu => by
      rcases hc3 with h | ⟨b, o, h, hin⟩
      · subst h; simp [ints] at hu
      · cases h
        have hj : j < l.length := by
          rcases Nat.lt_or_ge j l.length with h | h
          · exact h
          · rw [List.getElem?_eq_none (by rw [HL.out]; exact h)] at hu; cases hu
        have := hin j hj
        rw [ints, List.getElem?_map, List.getElem?_eq_getElem hj] at hu
        cases hu
        unfold Addr.add
        split
        · simp_all
        · exact this)
    have HN2 : Hid (∀ j u, (ints l)[j]? = some u → (w.alloc (.cells #[] 2)).cell? (ad.add j) = some u) := Lib.hid (fun j u hu => by
      have := HN.out j u hu
      rw [World.cell?_alloc_lt _ _ _ (World.block_lt_of_cell? _ _ this)]; exact this)
    clear hc3 HN
    go_enter Tryz.func111, Tryz.ntmps111
    go_wp2_with (at_builtin; refine wpList_append_own _ rfl _ _ 45 rfl w.heap.size 2 i (.int .i64 0) 1 8 Tryz.underlying45 hi hz0 hz1 hz2 rfl (by decide) _ 0 [] rfl HO.out ad l.length c (ints l) rfl (by rw [HL.out]; omega) HN2.out (ints_oneCell' l) (by unfold maxLen; omega) (by omega) (by simp) ?_; intro v' w' hown hgr _)
    have HE : Hid (w'.ownsRow w.heap.size 2 1 v' l.length (ints l)) := Lib.hid (by simpa using hown)
    have HB : Hid (Below w.heap.size w w') := Lib.hid (((Below.refl _ _).alloc (Nat.le_refl _) _).grown hgr (by simp) (fun k h => by cases h; exact Nat.le_refl _))
    clear hown hgr
    go_wp2
    go_ret
    exact ⟨_, rfl, HE.out, HB.out⟩

end Go.Proofs.YtmfbffhbgelnnaaGreatDoor

/- The walk of the reference's look at two tries that are the same. -/
namespace Go.Proofs.YtmfbffhbgelnnaaGreatDoor
open Go.RowKit

def triesB (la lb : List KnotM) : Bool := decide (la = lb)

theorem bytes_same {a b : ByteArray} (h : (a.toList == b.toList) = true) : a = b := by
  have h := eq_of_beq h
  rw [Go.ByteArray.toList_eq, Go.ByteArray.toList_eq] at h
  have e : a.data = b.data := Array.toList_inj.1 h
  cases a; cases b
  simpa using e
theorem bytes_self (a : ByteArray) : (a.toList == a.toList) = true := by simp

theorem take_more {α : Type} {la lb : List α} {k : Nat} (ha : k < la.length) (hb : k < lb.length) (h : la.take k = lb.take k) (he : la[k] = lb[k]) : la.take (k + 1) = lb.take (k + 1) := by
  rw [List.take_succ_eq_append_getElem ha, List.take_succ_eq_append_getElem hb, h, he]

theorem knots_at {w : World} {a : Option Addr} {n c : Nat} {l : List KnotM} (h : KnotsAt w (.slice a n c) l) {k : Nat} (hk : k < l.length) :
    ∃ b o ua n2 c2, a = some ⟨b, o, none⟩ ∧ w.cell? ⟨b, o + k * 2, none⟩ = some (.string l[k].1) ∧ w.cell? ⟨b, o + k * 2 + 1, none⟩ = some (.slice ua n2 c2) ∧ n2 = l[k].2.length ∧ (l[k].2 = [] ∨ ∃ bb oo, ua = some ⟨bb, oo, none⟩ ∧ IntsIn w bb oo l[k].2) := by
  obtain ⟨a', c', he, _, _, h3⟩ := h
  cases he
  rcases h3 with h3 | ⟨b, o, ha, hi⟩
  · rw [h3] at hk; simp at hk
  · obtain ⟨p0, u, p1, ua, uc, hu, _, _, h4⟩ := hi k hk
    subst hu
    exact ⟨b, o, ua, _, uc, ha, p0, p1, rfl, h4⟩

set_option maxRecDepth 100000 in
set_option maxHeartbeats 3200000 in
theorem specTries_any (va vb : Value) (la lb : List KnotM) (w : World) (hl : la.length ≤ 4000000) (hl2 : lb.length ≤ 4000000) (hs : ∀ x ∈ la, x.2.length ≤ 4000000) (hs2 : ∀ x ∈ lb, x.2.length ≤ 4000000) (ha : KnotsAt w va la) (hb : KnotsAt w vb lb) :
    Calls Tryz.prog 36 #[va, vb] w fun e w' => e = .returned (.bool (triesB la lb)) ∧ Below w.heap.size w w' := by
  have HA := Lib.hid ha
  have HB := Lib.hid hb
  obtain ⟨a, c, rfl, _, _, _⟩ := ha
  obtain ⟨a2, c2, rfl, _, _, _⟩ := hb
  by_cases hlen : ¬ la.length = lb.length
  · have g1 : ((la.length : Int) != (lb.length : Int)) = true := by simp; omega
    have HE : Hid (triesB la lb = false) := Lib.hid (by unfold triesB; rw [decide_eq_false]; intro e; exact hlen (by rw [e]))
    clear hlen
    go_enter Tryz.func36, Tryz.ntmps36
    go_wp2
    go_ret
    exact ⟨ret_bool HE.out.symm, Below.refl _ _⟩
  have hlen : la.length = lb.length := by omega
  have g1 : ((la.length : Int) != (lb.length : Int)) = false := by simp [hlen]
  have HL := Lib.hid hlen
  have HS := Lib.hid hs
  clear hlen hs hs2
  go_enter Tryz.func36, Tryz.ntmps36
  go_wp2
  go_loopw [5] (fun i wr => ∃ k : Nat, k ≤ la.length ∧ i = .int .i64 k ∧ Hid (la.take k = lb.take k) ∧ Hid (Below w.heap.size w wr)) (fun i _ => la.length - (intOf i).toNat)
  case atStart => exact ⟨0, Nat.zero_le _, rfl, Lib.hid (by simp), Lib.hid (Below.refl _ _)⟩
  case round =>
    obtain ⟨k, hk, rfl, HT, HW⟩ := hrel
    by_cases hlt : k < la.length
    · have hlt2 : k < lb.length := by have := HL.out; omega
      obtain ⟨b, o, ua, n, uc, rfl, p0, p1, hn, hin⟩ := knots_at (HA.out.below HW.out) hlt
      obtain ⟨b2, o2, ua2, n2, uc2, rfl, q0, q1, hn2, hin2⟩ := knots_at (HB.out.below HW.out) hlt2
      have HNX : Hid (la[k] = lb[k] → la.take (k + 1) = lb.take (k + 1)) := Lib.hid (fun h => take_more hlt hlt2 HT.out h)
      have HBAD : Hid (la[k] ≠ lb[k] → triesB la lb = false) := Lib.hid (fun h => by unfold triesB; rw [decide_eq_false]; intro e; subst e; exact h rfl)
      have hs1 : la[k].2.length ≤ 4000000 := HS.out _ (List.getElem_mem hlt)
      generalize la[k] = x at p0 p1 hn hin HNX HBAD hs1
      generalize lb[k] = y at q0 q1 hn2 hin2 HNX HBAD
      obtain ⟨px, ix⟩ := x
      obtain ⟨py, iy⟩ := y
      have HI := Lib.hid hin
      have HI2 := Lib.hid hin2
      have HN := Lib.hid hn
      have HN2 := Lib.hid hn2
      have hnb : n ≤ 4000000 := by rw [hn]; exact hs1
      clear hin hin2 hn hn2 HT hs1
      by_cases hp : (px.toList == py.toList) = true
      · have hp2 : (px.toList != py.toList) = false := by simp only [bne, hp]; rfl
        have HP := Lib.hid (bytes_same hp)
        by_cases hnn : n = n2
        · have hn2 : ((n : Int) != (n2 : Int)) = false := by simp [hnn]
          have HNN := Lib.hid hnn
          clear hnn
          go_wp2_with fail
          go_quiet (fail)
          clear hp hp2
          go_wp2
          go_loopw [6] (fun i wx => ∃ j : Nat, j ≤ n ∧ i = .int .i64 j ∧ Hid (ix.take j = iy.take j) ∧ Hid (∃ m, wx = wr.drewN m)) (fun i _ => n - (intOf i).toNat)
          case atStart => exact ⟨0, Nat.zero_le _, rfl, Lib.hid (by simp), Lib.hid ⟨_, rfl⟩⟩
          case round =>
            obtain ⟨j, hj, rfl, HT2, HM⟩ := hrel
            obtain ⟨m, rfl⟩ := HM.out
            clear HM
            by_cases hjn : j < n
            · have hj1 : j < ix.length := by have := HN.out; omega
              have hj2 : j < iy.length := by have := HNN.out; have := HN2.out; omega
              have hj3 : j < n2 := by have := HNN.out; omega
              obtain ⟨bb, oo, rfl, hi⟩ : ∃ bb oo, ua = some ⟨bb, oo, none⟩ ∧ IntsIn wr bb oo ix := by
                rcases HI.out with h | h
                · rw [h] at hj1; simp at hj1
                · exact h
              obtain ⟨bb2, oo2, rfl, hi2⟩ : ∃ bb oo, ua2 = some ⟨bb, oo, none⟩ ∧ IntsIn wr bb oo iy := by
                rcases HI2.out with h | h
                · rw [h] at hj2; simp at hj2
                · exact h
              have h1 := hi j hj1
              have h2 := hi2 j hj2
              have HNX2 : Hid (ix[j] = iy[j] → ix.take (j + 1) = iy.take (j + 1)) := Lib.hid (fun h => take_more hj1 hj2 HT2.out h)
              have HBAD2 : Hid (ix[j] ≠ iy[j] → triesB la lb = false) := Lib.hid (fun h => HBAD.out (by
                intro e
                have e2 : ix = iy := congrArg Prod.snd e
                subst e2
                exact h rfl))
              clear hi hi2 HT2
              generalize ix[j] = x at h1 HNX2 HBAD2
              generalize iy[j] = y at h2 HNX2 HBAD2
              clear hj1 hj2
              by_cases hxy : x = y
              · have hx2 : (x != y) = false := by simp [hxy]
                have HE := Lib.hid (HNX2.out hxy)
                clear hxy
                go_wp2_with fail
                go_quiet (fail)
                clear hx2
                go_wp2
                go_roundw
                case rel => exact ⟨j + 1, by omega, by go_num, HE, Lib.hid ⟨_, rfl⟩⟩
                case measure => simp [intOf]; omega
              · have hx2 : (x != y) = true := by simp [hxy]
                have HE := Lib.hid (HBAD2.out hxy)
                clear hxy
                go_wp2_with fail
                go_quiet (fail)
                clear hx2
                go_wp2
                go_ret
                exact ⟨ret_bool HE.out.symm, below_drewN (below_drewN HW.out _) _⟩
            · obtain rfl : j = n := by omega
              have HE : Hid (la.take (k + 1) = lb.take (k + 1)) := Lib.hid (by
                refine HNX.out ?_
                have h := HT2.out
                rw [HN.out, List.take_length, ← HN.out, HNN.out, HN2.out, List.take_length] at h
                rw [h, HP.out])
              go_wp2
              go_roundw
              case rel => exact ⟨k + 1, by omega, by go_num, HE, Lib.hid (below_drewN HW.out _)⟩
              case measure => simp [intOf]; omega
        · have hn2 : ((n : Int) != (n2 : Int)) = true := by simp; omega
          have HE : Hid (triesB la lb = false) := Lib.hid (HBAD.out (by
            intro e
            have e2 : ix = iy := congrArg Prod.snd e
            exact hnn (by rw [HN.out, HN2.out, e2])))
          clear hnn
          go_wp2_with fail
          go_quiet (fail)
          clear hp hp2
          go_wp2
          go_ret
          exact ⟨ret_bool HE.out.symm, below_drewN HW.out _⟩
      · have hp2 : (px.toList != py.toList) = true := by simpa using hp
        have HE : Hid (triesB la lb = false) := Lib.hid (HBAD.out (by
          intro e
          have e2 : px = py := congrArg Prod.fst e
          subst e2
          exact hp (by simp)))
        replace hp : (px.toList == py.toList) = false := by simpa using hp
        go_wp2_with fail
        go_quiet (fail)
        clear hp hp2
        go_wp2
        go_ret
        exact ⟨ret_bool HE.out.symm, below_drewN HW.out _⟩
    · obtain rfl : k = la.length := by omega
      have HE : Hid (triesB la lb = true) := Lib.hid (by
        have h := HT.out
        rw [List.take_length, HL.out, List.take_length] at h
        unfold triesB
        rw [h]
        simp)
      go_wp2
      go_ret
      exact ⟨ret_bool HE.out.symm, HW.out⟩

end Go.Proofs.YtmfbffhbgelnnaaGreatDoor

/- The walks of the reference's looks: no message later than that; two tries that are the same. -/
namespace Go.Proofs.YtmfbffhbgelnnaaGreatDoor
open Go.RowKit

theorem uptoB_succ {l : List MsgM} {n : Int} {k : Nat} (h : k < l.length) : uptoB (l.take (k + 1)) n = (uptoB (l.take k) n && decide (l[k].1 ≤ n)) := by
  unfold uptoB
  rw [List.take_succ_eq_append_getElem h, List.all_append]
  simp
theorem uptoB_bad {l : List MsgM} {n : Int} {k : Nat} (h : k < l.length) (hb : ¬ l[k].1 ≤ n) : uptoB l n = false := by
  unfold uptoB
  rw [List.all_eq_false]
  exact ⟨l[k], List.getElem_mem h, by simpa using hb⟩

set_option maxRecDepth 100000 in
set_option maxHeartbeats 1600000 in
theorem specUpto_any (v : Value) (l : List MsgM) (n : Int) (w : World) (hl : l.length ≤ 4000000) (hv : MsgsAt w v l) :
    Calls Tryz.prog 30 #[v, .int .i64 n] w fun e w' => e = .returned (.bool (uptoB l n)) ∧ Below w.heap.size w w' := by
  obtain ⟨a, c, rfl, hc1, hc2, hc3⟩ := hv
  have HC := Lib.hid hc3
  clear hc3
  go_enter Tryz.func30, Tryz.ntmps30
  go_wp2
  go_loopw [5] (fun i wr => ∃ k : Nat, k ≤ l.length ∧ i = .int .i64 k ∧ Hid (uptoB (l.take k) n = true) ∧ Hid (Below w.heap.size w wr)) (fun i _ => l.length - (intOf i).toNat)
  case atStart => exact ⟨0, Nat.zero_le _, rfl, Lib.hid (by simp [uptoB]), Below.refl _ _⟩
  case round =>
    obtain ⟨k, hk, rfl, HT, HB⟩ := hrel
    by_cases hlt : k < l.length
    · obtain ⟨b, o, rfl, hin⟩ : ∃ b o, a = some ⟨b, o, none⟩ ∧ MsgsIn w b o l := by
        rcases HC.out with h | h
        · subst h; simp at hlt
        · exact h
      obtain ⟨p0, p1, p2, p3⟩ := (hin.below HB.out) k hlt
      have HN : Hid (l[k].1 ≤ n → uptoB (l.take (k + 1)) n = true) := Lib.hid (fun h => by rw [uptoB_succ hlt, HT.out, decide_eq_true h]; rfl)
      have HX : Hid (¬ l[k].1 ≤ n → uptoB l n = false) := Lib.hid (fun h => uptoB_bad hlt h)
      generalize l[k] = x at p0 p1 p2 p3 HN HX
      obtain ⟨q, f, s, d⟩ := x
      clear hin HT
      by_cases hq : n < q
      · have g1 : decide (n < q) = true := decide_eq_true hq
        have HE := Lib.hid (HX.out (by show ¬ q ≤ n; omega))
        clear hq
        go_wp2
        go_ret
        exact ⟨ret_bool HE.out.symm, HB.out⟩
      · have g1 : decide (n < q) = false := decide_eq_false hq
        have HE := Lib.hid (HN.out (by show q ≤ n; omega))
        clear hq
        go_wp2
        go_roundw
        case rel => exact ⟨k + 1, by omega, by go_num, HE, HB⟩
        case measure => simp [intOf]; omega
    · obtain rfl : k = l.length := by omega
      have HE : Hid (uptoB l n = true) := Lib.hid (by have h := HT.out; rwa [List.take_length] at h)
      go_wp2
      go_ret
      exact ⟨ret_bool HE.out.symm, HB.out⟩

end Go.Proofs.YtmfbffhbgelnnaaGreatDoor

/- The walks of impl.PartsOf and impl.TopicOk: is a text a topic? -/
namespace Go.Proofs.YtmfbffhbgelnnaaGreatDoor
open Go.RowKit

set_option maxRecDepth 100000 in
set_option maxHeartbeats 800000 in
theorem implTopic_any (s : ByteArray) (m : Int) (w : World) (hs : s.size ≤ 1048576) (hm : w.cell? ⟨0, 0, none⟩ = some (.int .i64 m)) :
    Calls Tryz.prog 98 #[.string s] w fun e w' => e = .returned (.bool (topicP (parts s 47))) ∧ Below w.heap.size w w' := by
  have hpos := parts_pos s 47
  have hple := parts_le s 47
  have hps : Hid (∀ p ∈ parts s 47, p.size ≤ s.size) := Lib.hid (fun p h => parts_size h)
  obtain ⟨l, hl⟩ : ∃ l, parts s 47 = l := ⟨_, rfl⟩
  have hc := implParts_any s m w hs hm
  rw [hl] at hpos hple hps hc ⊢
  clear hl hm
  by_cases h6 : l.length ≤ 6
  · go_enter Tryz.func98, Tryz.ntmps98
    go_wp2_with (go_at_call 100; refine hc.mono ?_; clear hc; rintro e w1 ⟨v, rfl, h1, h2⟩; obtain ⟨g, cap, rfl, hg1, hg2, hcell, _⟩ := row_open h1 hpos; have HC := Lib.hid hcell; have H2 := Lib.hid h2; clear h1 h2 hcell)
    go_loopw [13] (fun i wr => ∃ k : Nat, k ≤ l.length ∧ i = .int .i64 k ∧ Hid ((l.take k).all isWord = true) ∧ Hid (Below w1.heap.size w1 wr)) (fun i _ => l.length - (intOf i).toNat)
    case atStart => exact ⟨0, Nat.zero_le _, rfl, rfl, Below.refl _ _⟩
    case round =>
      obtain ⟨k, hk, rfl, HL, HW⟩ := hrel
      by_cases hlt : k < l.length
      · have hcx : wr.cell? ⟨g, k, none⟩ = some (.string l[k]) := (HW.out.cell hg2).trans (HC.out k hlt)
        have hsz : Hid (l[k].size ≤ maxLen) := Lib.hid (by have := hps.out _ (List.getElem_mem hlt); unfold maxLen; omega)
        cases hw : isWord l[k]
        · have HB := Lib.hid (topicP_bad hlt hw)
          have cw := wordOk_any l[k] wr hsz.out
          rw [hw] at cw
          clear hw
          go_wp2_with (go_at_call 124; refine cw.mono ?_; rintro e w' ⟨rfl, hb⟩)
          go_ret
          exact ⟨ret_bool HB.out.symm, H2.out.trans ((HW.out.trans (hb.mono HW.out.size)).mono H2.out.size)⟩
        · have HN : Hid ((l.take (k + 1)).all isWord = true) := Lib.hid (by rw [all_snoc l k hlt, HL.out, hw]; rfl)
          have cw := wordOk_any l[k] wr hsz.out
          rw [hw] at cw
          clear hw
          go_wp2_with (go_at_call 124; refine cw.mono ?_; rintro e w' ⟨rfl, hb⟩)
          go_roundw
          case rel => exact ⟨k + 1, by omega, by go_num, HN, HW.out.trans (hb.mono HW.out.size)⟩
          case measure => simp [intOf]; omega
      · obtain rfl : k = l.length := by omega
        have HE := Lib.hid (topicP_end HL.out)
        clear HL
        go_wp2
        go_ret
        exact ⟨ret_bool (by rw [HE.out]; grind), H2.out.trans (HW.out.mono H2.out.size)⟩
  · have hf : Hid (topicP l = false) := Lib.hid (by simp [topicP, h6])
    go_enter Tryz.func98, Tryz.ntmps98
    go_wp2_with (go_at_call 100; refine hc.mono ?_; clear hc; rintro e w1 ⟨v, rfl, h1, h2⟩; obtain ⟨g, cap, rfl, hg1, hg2, hcell, _⟩ := row_open h1 hpos; have HC := Lib.hid hcell; have H2 := Lib.hid h2; clear h1 h2 hcell)
    go_ret
    exact ⟨ret_bool hf.out.symm, H2.out⟩

end Go.Proofs.YtmfbffhbgelnnaaGreatDoor

/- The walk of a right message: it embeds where it is from. -/
namespace Go.Proofs.YtmfbffhbgelnnaaGreatDoor
open Go.RowKit

theorem implTask_any (f : Int) (w : World) :
    Calls Tryz.prog 137 #[.int .i64 f] w fun e w' => e = .returned (.bool (decide (0 ≤ f) && decide (f ≤ 7))) ∧ w' = w := by
  by_cases h1 : 0 ≤ f
  · have g1 : decide (0 ≤ f) = true := decide_eq_true h1
    have g2 : decide (f ≤ 7) = decide (f < 8) := by congr 1; simp; omega
    go_enter Tryz.func137, Tryz.ntmps137
    go_wp2
    go_ret
    exact ⟨ret_bool (by rw [g1, g2]; simp), rfl⟩
  · have g1 : decide (0 ≤ f) = false := decide_eq_false h1
    go_enter Tryz.func137, Tryz.ntmps137
    go_wp2
    go_ret
    exact ⟨ret_bool rfl, rfl⟩

theorem implBody_any (f : Int) (w : World) :
    Calls Tryz.prog 138 #[.int .i64 f] w fun e w' => e = .returned (.bool (decide (0 ≤ f) && decide (f ≤ 9999))) ∧ w' = w := by
  by_cases h1 : 0 ≤ f
  · have g1 : decide (0 ≤ f) = true := decide_eq_true h1
    go_enter Tryz.func138, Tryz.ntmps138
    go_wp2
    go_ret
    exact ⟨ret_bool (by rw [g1]; simp), rfl⟩
  · have g1 : decide (0 ≤ f) = false := decide_eq_false h1
    go_enter Tryz.func138, Tryz.ntmps138
    go_wp2
    go_ret
    exact ⟨ret_bool rfl, rfl⟩

set_option maxRecDepth 100000 in
set_option maxHeartbeats 1600000 in
theorem messageOf_any (x : MsgM) (w : World) :
    Calls Tryz.prog 117 #[magg x] w fun e w' => e = .returned (magg x) ∧ Below w.heap.size w w' := by
  obtain ⟨q, f, p, d⟩ := x
  go_enter Tryz.func117, Tryz.ntmps117
  go_wp2
  refine bodyPost_ret (results_cell_row rfl _ _ (w.heap.size + 1) _ _ _ _ rfl (heap_alloc2_new _ _ _) Tryz.underlying138 rfl (by kernel_rfl)) rfl ?_
  exact ⟨rfl, ((Below.refl _ _).alloc (Nat.le_refl _) _).alloc (by simp) _⟩

set_option maxRecDepth 100000 in
set_option maxHeartbeats 1600000 in
theorem isRight_any (x : MsgM) (m : Int) (w : World) (hs : x.2.2.1.size ≤ 1048576) (hm : w.cell? ⟨0, 0, none⟩ = some (.int .i64 m)) :
    Calls Tryz.prog 118 #[magg x] w fun e w' => e = .returned (.bool (msgB x)) ∧ Below w.heap.size w w' := by
  obtain ⟨q, f, p, d⟩ := x
  dsimp only at hs
  have C2 := Lib.hid (fun w' => implTask_any f w')
  have C3 := Lib.hid (fun w' hm => implTopic_any p m w' hs hm)
  have C4 := Lib.hid (fun w' => implBody_any d w')
  have HB : Hid (msgB (q, f, p, d) = ((decide (1 ≤ q) && decide (q ≤ 100000)) && (decide (0 ≤ f) && decide (f ≤ 7)) && topicP (parts p 47) && (decide (0 ≤ d) && decide (d ≤ 9999)))) := rfl
  generalize (decide (0 ≤ f) && decide (f ≤ 7)) = b2 at C2 HB
  generalize topicP (parts p 47) = b3 at C3 HB
  generalize (decide (0 ≤ d) && decide (d ≤ 9999)) = b4 at C4 HB
  have HM := Lib.hid hm
  clear hs hm
  go_enter Tryz.func118, Tryz.ntmps118
  by_cases h1 : 1 ≤ q
  · by_cases h2 : q ≤ 100000
    · have g1 : decide (1 ≤ q) = true := decide_eq_true h1
      have g2 : decide (q ≤ 100000) = true := decide_eq_true h2
      go_wp2_with fail
      refine (C2.out _).mono ?_
      rintro e w1 ⟨rfl, rfl⟩
      cases b2
      · go_wp2
        go_ret
        exact ⟨ret_bool (by rw [HB.out]; simp), (Below.refl _ _).alloc (Nat.le_refl _) _⟩
      go_wp2_with fail
      have b0 : Below w.heap.size w (w.alloc (.cells #[.int .i64 q, .int .i64 f, .string p, .int .i64 d] 138)) := (Below.refl _ _).alloc (Nat.le_refl _) _
      have s0 : w.heap.size < (w.alloc (.cells #[.int .i64 q, .int .i64 f, .string p, .int .i64 d] 138)).heap.size := by simp
      have c0 : (w.alloc (.cells #[.int .i64 q, .int .i64 f, .string p, .int .i64 d] 138)).cell? ⟨w.heap.size, 3, none⟩ = some (.int .i64 d) := by rw [World.cell?_alloc_at _ _ _ _ rfl]; rfl
      have HM0 := Lib.hid ((b0.cell (World.block_lt_of_cell? _ _ HM.out)).trans HM.out)
      generalize w.alloc (.cells #[.int .i64 q, .int .i64 f, .string p, .int .i64 d] 138) = w0 at b0 s0 c0 HM0 ⊢
      refine (C3.out _ HM0.out).mono ?_
      rintro e w1 ⟨rfl, hb⟩
      have c1 := (below_cell hb s0).trans c0
      have B1 := Lib.hid (b0.trans (hb.mono b0.size))
      clear b0 s0 c0 hb
      cases b3
      · go_wp2
        go_ret
        exact ⟨ret_bool (by rw [HB.out]; simp), B1.out⟩
      go_wp2_with fail
      refine (C4.out _).mono ?_
      rintro e w2 ⟨rfl, rfl⟩
      go_wp2
      go_ret
      exact ⟨ret_bool (by rw [HB.out, decide_eq_true h1, decide_eq_true h2]; simp), B1.out⟩
    · have g1 : decide (1 ≤ q) = true := decide_eq_true h1
      have g2 : decide (q ≤ 100000) = false := decide_eq_false h2
      go_wp2
      go_ret
      exact ⟨ret_bool (by rw [HB.out, g2]; simp), (Below.refl _ _).alloc (Nat.le_refl _) _⟩
  · have g1 : decide (1 ≤ q) = false := decide_eq_false h1
    go_wp2
    go_ret
    exact ⟨ret_bool (by rw [HB.out, g1]; simp), (Below.refl _ _).alloc (Nat.le_refl _) _⟩

end Go.Proofs.YtmfbffhbgelnnaaGreatDoor
