/- Small texts, laid together. -/
import Derived.Test.YtfkikdoecoobgaaDoorZBend
import Derived.Test.YtfkikdoecoobgaaDoorZB1
import Derived.Lib.Hide
import Derived.Test.YtfkikdoecoobgaaDoorZB2
set_option linter.unusedSimpArgs false
set_option linter.unusedVariables false
/- Own rows behind steps that turn the cursor alone. -/
namespace Go.Proofs.YtfkikdoecoobgaaDoor
open Go.RowKit

/-- The call's own box turns: of what was there only the cursor has. -/
theorem grown_own {a b c : World} {r : Option Nat} (h : a.grownBy b r) (k : Below a.heap.size b c) : a.grownBy c r := grown_new h (Nat.le_refl _) k

/-- An own row, behind steps that turn the cursor alone. -/
theorem own_thrown {w w' : World} {B n size g : Nat} {E : TypeId} {v : Value} {xs : List Value} (h : w.ownsRow B E size v n xs) (hg : g < B) (hw : w.grownBy w' (some g)) : w'.ownsRow B E size v n xs :=
  h.kept hw (by
    cases e : v.ownBlock with
    | none => exact .inl rfl
    | some k => exact .inr (by have := (h.lt k e).1; intro e2; cases e2; omega))

end Go.Proofs.YtfkikdoecoobgaaDoor

/- The walks of the reference's drawn names. -/
namespace Go.Proofs.YtfkikdoecoobgaaDoor
open Go.RowKit

theorem pick_name6 {r : Nat} (h : r < 6) : ∃ x : ByteArray, (#[Value.string ⟨#[]⟩, Value.string ⟨#[97, 47, 98, 47, 99, 47, 97, 47, 98, 47, 99]⟩, Value.string ⟨#[97, 47, 98, 47, 99, 47, 97, 47, 98, 47, 99, 47, 35]⟩, Value.string ⟨#[97, 98, 99, 100, 101, 102, 103, 104, 105, 106, 107, 108]⟩, Value.string ⟨#[97, 98, 99, 100, 101, 102, 103, 104, 105, 106, 107, 108, 109]⟩, Value.string ⟨#[97, 47, 47, 98]⟩] : Array Value)[r]? = some (.string x) ∧ x.size ≤ 13 := by
  match r, h with
  | 0, _ => exact ⟨_, rfl, by decide⟩
  | 1, _ => exact ⟨_, rfl, by decide⟩
  | 2, _ => exact ⟨_, rfl, by decide⟩
  | 3, _ => exact ⟨_, rfl, by decide⟩
  | 4, _ => exact ⟨_, rfl, by decide⟩
  | 5, _ => exact ⟨_, rfl, by decide⟩

set_option maxRecDepth 100000 in
set_option maxHeartbeats 1600000 in
theorem drawName_any {g : Nat} {a : Option Addr} {len cap : Nat} {w : World} (h : Curs g a len cap w) :
    Calls Tryd.prog 47 #[.pointer (some ⟨g, 0, none⟩)] w fun e w' => ∃ s : ByteArray, e = .returned (.string s) ∧ s.size ≤ 13 ∧ Curs g a len cap w' ∧ w.grownBy w' (some g) := by
  have H0 := Lib.hid h
  clear h
  go_enter Tryd.func47, Tryd.ntmps47
  go_wp2_with fail
  refine (drawFilter_any H0.out).mono ?_
  rintro e w1 ⟨s, rfl, hs, h1, g1⟩
  have H1 := Lib.hid h1
  have G1 := Lib.hid g1
  clear h1 g1 H0
  go_wp2_with fail
  refine (curOnce_any 2 (by omega) H1.out).mono ?_
  rintro e w2 ⟨b, rfl, h2, g2⟩
  have H2 := Lib.hid h2
  have G2 := Lib.hid (grown_trans G1.out g2)
  clear h2 g2 H1 G1
  cases b
  · go_wp2_with fail
    refine (curOnce_any 5 (by omega) H2.out).mono ?_
    rintro e w4 ⟨b4, rfl, h4, g4⟩
    have H4 := Lib.hid h4
    have G4 := Lib.hid (grown_trans G2.out g4)
    clear h4 g4
    cases b4
    · go_wp2_with fail
      refine (curOnce_any 20 (by omega) H4.out).mono ?_
      rintro e w6 ⟨b6, rfl, h6, g6⟩
      have H6 := Lib.hid h6
      have G6 := Lib.hid (grown_trans G4.out g6)
      clear h6 g6
      cases b6
      · go_wp2
        go_ret
        exact ⟨_, rfl, by omega, H6.out, G6.out⟩
      · have hg6 := H6.out.lt
        go_wp2_with fail
        refine (curBelow_any 6 (by omega) (H6.out.alloc _)).mono ?_
        rintro e w7 ⟨r, hr, rfl, h7, g7⟩
        have hr6 : r < 6 := below_lt (by omega) hr
        obtain ⟨y, hy, hys⟩ := pick_name6 hr6
        have hcell := (pick_lit g7 hg6).trans hy
        have H7 := Lib.hid h7
        have G7 := Lib.hid (grown_trans G6.out (grown_trans (grown_alloc w6 _ (some g)) g7))
        clear h7 g7 hy hr
        go_wp2
        go_ret
        exact ⟨_, rfl, by omega, H7.out, G7.out⟩
    · go_wp2_with fail
      refine (bend_any s _ (by omega) (by decide) (by decide) H4.out).mono ?_
      rintro e w5 ⟨s, rfl, hs, h5, g5⟩
      have H4 := Lib.hid h5
      have G4 := Lib.hid (grown_trans G4.out g5)
      clear h5 g5
      go_wp2_with fail
      refine (curOnce_any 20 (by omega) H4.out).mono ?_
      rintro e w6 ⟨b6, rfl, h6, g6⟩
      have H6 := Lib.hid h6
      have G6 := Lib.hid (grown_trans G4.out g6)
      clear h6 g6
      cases b6
      · go_wp2
        go_ret
        exact ⟨_, rfl, by omega, H6.out, G6.out⟩
      · have hg6 := H6.out.lt
        go_wp2_with fail
        refine (curBelow_any 6 (by omega) (H6.out.alloc _)).mono ?_
        rintro e w7 ⟨r, hr, rfl, h7, g7⟩
        have hr6 : r < 6 := below_lt (by omega) hr
        obtain ⟨y, hy, hys⟩ := pick_name6 hr6
        have hcell := (pick_lit g7 hg6).trans hy
        have H7 := Lib.hid h7
        have G7 := Lib.hid (grown_trans G6.out (grown_trans (grown_alloc w6 _ (some g)) g7))
        clear h7 g7 hy hr
        go_wp2
        go_ret
        exact ⟨_, rfl, by omega, H7.out, G7.out⟩
  · go_wp2_with fail
    refine (drawTopic_any H2.out).mono ?_
    rintro e w3 ⟨s, rfl, hs, h3, g3⟩
    have H2 := Lib.hid h3
    have G2 := Lib.hid (grown_trans G2.out g3)
    clear h3 g3
    go_wp2_with fail
    refine (curOnce_any 5 (by omega) H2.out).mono ?_
    rintro e w4 ⟨b4, rfl, h4, g4⟩
    have H4 := Lib.hid h4
    have G4 := Lib.hid (grown_trans G2.out g4)
    clear h4 g4
    cases b4
    · go_wp2_with fail
      refine (curOnce_any 20 (by omega) H4.out).mono ?_
      rintro e w6 ⟨b6, rfl, h6, g6⟩
      have H6 := Lib.hid h6
      have G6 := Lib.hid (grown_trans G4.out g6)
      clear h6 g6
      cases b6
      · go_wp2
        go_ret
        exact ⟨_, rfl, by omega, H6.out, G6.out⟩
      · have hg6 := H6.out.lt
        go_wp2_with fail
        refine (curBelow_any 6 (by omega) (H6.out.alloc _)).mono ?_
        rintro e w7 ⟨r, hr, rfl, h7, g7⟩
        have hr6 : r < 6 := below_lt (by omega) hr
        obtain ⟨y, hy, hys⟩ := pick_name6 hr6
        have hcell := (pick_lit g7 hg6).trans hy
        have H7 := Lib.hid h7
        have G7 := Lib.hid (grown_trans G6.out (grown_trans (grown_alloc w6 _ (some g)) g7))
        clear h7 g7 hy hr
        go_wp2
        go_ret
        exact ⟨_, rfl, by omega, H7.out, G7.out⟩
    · go_wp2_with fail
      refine (bend_any s _ (by omega) (by decide) (by decide) H4.out).mono ?_
      rintro e w5 ⟨s, rfl, hs, h5, g5⟩
      have H4 := Lib.hid h5
      have G4 := Lib.hid (grown_trans G4.out g5)
      clear h5 g5
      go_wp2_with fail
      refine (curOnce_any 20 (by omega) H4.out).mono ?_
      rintro e w6 ⟨b6, rfl, h6, g6⟩
      have H6 := Lib.hid h6
      have G6 := Lib.hid (grown_trans G4.out g6)
      clear h6 g6
      cases b6
      · go_wp2
        go_ret
        exact ⟨_, rfl, by omega, H6.out, G6.out⟩
      · have hg6 := H6.out.lt
        go_wp2_with fail
        refine (curBelow_any 6 (by omega) (H6.out.alloc _)).mono ?_
        rintro e w7 ⟨r, hr, rfl, h7, g7⟩
        have hr6 : r < 6 := below_lt (by omega) hr
        obtain ⟨y, hy, hys⟩ := pick_name6 hr6
        have hcell := (pick_lit g7 hg6).trans hy
        have H7 := Lib.hid h7
        have G7 := Lib.hid (grown_trans G6.out (grown_trans (grown_alloc w6 _ (some g)) g7))
        clear h7 g7 hy hr
        go_wp2
        go_ret
        exact ⟨_, rfl, by omega, H7.out, G7.out⟩

end Go.Proofs.YtfkikdoecoobgaaDoor

/- The law's argument, a list of bytes, as the dice and the cursor read it. -/
namespace Go.Proofs.YtfkikdoecoobgaaDoor
open Go.RowKit

theorem CodeAt.of_ints {W : World} {x : Addr} {l c : Nat} {zs : List Int} (hl : l ≤ c) (hz : zs.length = c) (hcell : ∀ i, i < zs.length → W.cell? (x.add i) = some (.int .u8 (zs.getD i 0))) (hwz : ∀ n ∈ zs, (Lit.int .u8 n).wf = true) : CodeAt W.heap.size (some x) l W := by
  by_cases h0 : l = 0
  · exact .inl h0
  · obtain ⟨b, off, rfl, hc⟩ := ints_at hcell (by omega)
    refine .inr ⟨b, off, rfl, World.block_lt_of_cell? _ _ (hc 0 (by omega)), fun j hj => ?_⟩
    have hj2 : j < zs.length := by omega
    have hw := hwz (zs.getD j 0) (by rw [List.getD_eq_getElem?_getD, List.getElem?_eq_getElem hj2]; exact List.getElem_mem hj2)
    have hb : 0 ≤ zs.getD j 0 ∧ zs.getD j 0 ≤ 255 := by simpa [Lit.wf, IntKind.min, IntKind.max, IntKind.signed, IntKind.bits] using hw
    exact ⟨(zs.getD j 0).toNat, by omega, by rw [hc j hj2]; congr 2; omega⟩

theorem topic_filter {l : List ByteArray} (h : topicP l = true) : filterP l = true := by
  rw [topicP, Bool.and_eq_true, decide_eq_true_iff, List.all_eq_true] at h
  rw [filterP, Bool.and_eq_true, decide_eq_true_iff]
  refine ⟨h.1, filterTo_all fun j hj => ?_⟩
  rw [partF, h.2 _ (List.getElem_mem hj)]; rfl

/-! ### The parts joined again -/

/-- Texts with slashes between. -/
def jlN : List (List UInt8) → List UInt8
  | [] => []
  | [p] => p
  | p :: q :: ps => p ++ 47 :: jlN (q :: ps)

theorem jlN_cut : ∀ L : List UInt8, jlN (cut 47 L) = L
  | [] => rfl
  | b :: L => by
    have ih := jlN_cut L
    obtain ⟨p, ps, h⟩ := cut_cons 47 L
    rw [h] at ih
    by_cases e : b = 47
    · subst e; rw [cut_eq, h, jlN, ih]; rfl
    · rw [cut_ne e h]
      cases ps with
      | nil => simpa [jlN] using ih
      | cons q ps => rw [jlN] at ih ⊢; rw [List.cons_append, ih]

theorem jlN_snoc : ∀ (xs : List (List UInt8)) (y : List UInt8), xs ≠ [] → jlN (xs ++ [y]) = jlN xs ++ 47 :: y
  | [], _, h => absurd rfl h
  | [p], y, _ => rfl
  | p :: q :: ps, y, _ => by
    have ih := jlN_snoc (q :: ps) y (by simp)
    rw [List.cons_append, List.cons_append, jlN, ← List.cons_append, ih, jlN, List.append_assoc, List.cons_append]

/-- The first k texts of l with slashes between. -/
def joinTo (l : List ByteArray) : Nat → ByteArray
  | 0 => ⟨#[]⟩
  | k + 1 => (if 0 < k then joinTo l k ++ ⟨#[47]⟩ else joinTo l k) ++ l.getD k ByteArray.empty

theorem joinTo_data (l : List ByteArray) : ∀ k, k ≤ l.length → (joinTo l k).data.toList = jlN ((l.take k).map (·.data.toList))
  | 0, _ => rfl
  | k + 1, h => by
    have ih := joinTo_data l k (by omega)
    have hk : k < l.length := by omega
    have e1 : l.getD k ByteArray.empty = l[k] := by rw [List.getD_eq_getElem?_getD, List.getElem?_eq_getElem hk]; rfl
    rw [List.take_succ_eq_append_getElem hk, List.map_append, joinTo, e1]
    by_cases h0 : 0 < k
    · rw [if_pos h0, List.map_cons, List.map_nil, jlN_snoc _ _ (by simp; exact ⟨by omega, fun e => by subst e; simp at hk⟩), ← ih]
      simp [ByteArray.data_append]
    · have : k = 0 := by omega
      subst this
      simp [joinTo, jlN, ByteArray.data_append]

theorem joinTo_parts (s : ByteArray) : joinTo (parts s 47) (parts s 47).length = s := by
  apply bytes_ext
  rw [joinTo_data _ _ (Nat.le_refl _), List.take_length, parts_data, jlN_cut]

theorem joinTo_next (l : List ByteArray) (k : Nat) (h : k < l.length) : joinTo l (k + 1) = (if 0 < k then joinTo l k ++ ⟨#[47]⟩ else joinTo l k) ++ l[k] := by
  rw [joinTo, List.getD_eq_getElem?_getD, List.getElem?_eq_getElem h]; rfl

end Go.Proofs.YtfkikdoecoobgaaDoor

/- The walks of the reference's draws of numbers. -/
namespace Go.Proofs.YtfkikdoecoobgaaDoor
open Go.RowKit

theorem pick_odd {r : Nat} (h : r < 10) : ∃ x : Int, (#[Value.int .i64 (-1), Value.int .i64 0, Value.int .i64 1, Value.int .i64 2147483648, Value.int .i64 (-2147483648), Value.int .i64 1099511627776, Value.int .i64 4611686018427387904, Value.int .i64 (-4611686018427387904), Value.int .i64 9223372036854775807, Value.int .i64 (-9223372036854775808)] : Array Value)[r]? = some (.int .i64 x) := by
  match r, h with
  | 0, _ => exact ⟨_, rfl⟩
  | 1, _ => exact ⟨_, rfl⟩
  | 2, _ => exact ⟨_, rfl⟩
  | 3, _ => exact ⟨_, rfl⟩
  | 4, _ => exact ⟨_, rfl⟩
  | 5, _ => exact ⟨_, rfl⟩
  | 6, _ => exact ⟨_, rfl⟩
  | 7, _ => exact ⟨_, rfl⟩
  | 8, _ => exact ⟨_, rfl⟩
  | 9, _ => exact ⟨_, rfl⟩

theorem pick_four {r : Nat} (h : r < 4) (a b c d : Int) : ∃ x : Int, (#[Value.int .i64 a, Value.int .i64 b, Value.int .i64 c, Value.int .i64 d] : Array Value)[r]? = some (.int .i64 x) := by
  match r, h with
  | 0, _ => exact ⟨_, rfl⟩
  | 1, _ => exact ⟨_, rfl⟩
  | 2, _ => exact ⟨_, rfl⟩
  | 3, _ => exact ⟨_, rfl⟩

set_option maxRecDepth 100000 in
set_option maxHeartbeats 1600000 in
theorem drawOdd_any {g : Nat} {a : Option Addr} {len cap : Nat} {w : World} (h : Curs g a len cap w) :
    Calls Tryd.prog 45 #[.pointer (some ⟨g, 0, none⟩)] w fun e w' => ∃ x : Int, e = .returned (.int .i64 x) ∧ Curs g a len cap w' ∧ w.grownBy w' (some g) := by
  have hg := h.lt
  have HH := Lib.hid h
  clear h
  go_enter Tryd.func45, Tryd.ntmps45
  go_wp2_with fail
  refine (curBelow_any 10 (by omega) (HH.out.alloc _)).mono ?_
  rintro e w1 ⟨r, hr, rfl, h1, g1⟩
  have hr10 : r < 10 := by rcases hr with h | h <;> omega
  obtain ⟨x, hx⟩ := pick_odd hr10
  have hcell := (pick_lit g1 hg).trans hx
  have HG := Lib.hid (grown_trans (grown_alloc w _ (some g)) g1)
  have H1 := Lib.hid h1
  clear g1 h1 hx hr HH
  go_wp2
  go_ret
  exact ⟨x, rfl, H1.out, HG.out⟩

theorem specMin_any (x y : Int) (w : World) :
    Calls Tryd.prog 46 #[.int .i64 x, .int .i64 y] w fun e w' => e = .returned (.int .i64 (min x y)) ∧ w = w' := by
  by_cases h : x < y
  · go_enter Tryd.func46, Tryd.ntmps46
    go_wp2
    go_ret
    exact ⟨ret_int (by omega), rfl⟩
  · go_enter Tryd.func46, Tryd.ntmps46
    go_wp2
    go_ret
    exact ⟨ret_int (by omega), rfl⟩

set_option maxRecDepth 100000 in
set_option maxHeartbeats 1600000 in
theorem drawNum_any {g : Nat} {a : Option Addr} {len cap : Nat} {w : World} (most : Nat) (hm : most ≤ 1000000) (h : Curs g a len cap w) :
    Calls Tryd.prog 32 #[.pointer (some ⟨g, 0, none⟩), .int .i64 most] w fun e w' => ∃ x : Int, e = .returned (.int .i64 x) ∧ Curs g a len cap w' ∧ w.grownBy w' (some g) := by
  have HH := Lib.hid h
  have g9 : IntKind.i64.wrap ((most : Int) + 1) = (most : Int) + 1 := by rw [IntKind.wrap_i64]; omega
  clear h
  go_enter Tryd.func32, Tryd.ntmps32
  go_wp2_with fail
  refine (curOnce_any 10 (by omega) HH.out).mono ?_
  rintro e w1 ⟨b1, rfl, h1, g1⟩
  have H1 := Lib.hid h1
  have G1 := Lib.hid g1
  clear h1 g1 HH
  cases b1
  · go_wp2_with fail
    refine (curOnce_any 2 (by omega) H1.out).mono ?_
    rintro e w2 ⟨b2, rfl, h2, g2⟩
    have H2 := Lib.hid h2
    have G2 := Lib.hid (grown_trans G1.out g2)
    clear h2 g2 H1 G1
    cases b2
    · go_wp2_with fail
      have cb := curBelow_any (most + 1) (by omega) H2.out
      rw [show ((most + 1 : Nat) : Int) = (most : Int) + 1 by omega] at cb
      refine cb.mono ?_
      clear cb
      rintro e w3 ⟨r, _, rfl, h3, g3⟩
      have H3 := Lib.hid h3
      have G3 := Lib.hid (grown_trans G2.out g3)
      clear h3 g3 H2 G2
      go_wp2
      go_ret
      exact ⟨_, rfl, H3.out, G3.out⟩
    · go_wp2_with fail
      have cm := specMin_any most 4 w2
      rw [show min (most : Int) 4 = ((min most 4 : Nat) : Int) by omega] at cm
      refine cm.mono ?_
      clear cm
      rintro e w2' ⟨rfl, rfl⟩
      obtain ⟨k, hk⟩ : ∃ k, min most 4 = k := ⟨_, rfl⟩
      rw [hk]
      have hk4 : k ≤ 4 := by omega
      clear hk
      go_wp2_with fail
      have cb := curBelow_any (k + 1) (by omega) H2.out
      rw [show ((k + 1 : Nat) : Int) = (k : Int) + 1 by omega] at cb
      refine cb.mono ?_
      clear cb
      rintro e w3 ⟨r, _, rfl, h3, g3⟩
      have H3 := Lib.hid h3
      have G3 := Lib.hid (grown_trans G2.out g3)
      clear h3 g3 H2 G2
      go_wp2
      go_ret
      exact ⟨_, rfl, H3.out, G3.out⟩
  · go_wp2_with fail
    refine (drawOdd_any H1.out).mono ?_
    rintro e w2 ⟨x, rfl, h2, g2⟩
    have H2 := Lib.hid h2
    have G2 := Lib.hid (grown_trans G1.out g2)
    have hg2 := h2.lt
    clear h2 g2 H1 G1
    go_wp2_with fail
    refine (curBelow_any 4 (by omega) (H2.out.alloc _)).mono ?_
    rintro e w3 ⟨r, hr, rfl, h3, g3⟩
    have hr4 : r < 4 := by rcases hr with h | h <;> omega
    obtain ⟨y, hy⟩ := pick_four hr4 (-1) most (most + 1) x
    have hcell := (pick_lit g3 hg2).trans hy
    have G3 := Lib.hid (grown_trans G2.out (grown_trans (grown_alloc w2 _ (some g)) g3))
    have H3 := Lib.hid h3
    clear g3 h3 hy H2 G2 hr
    go_wp2
    go_ret
    exact ⟨y, rfl, H3.out, G3.out⟩

end Go.Proofs.YtfkikdoecoobgaaDoor

/- The walks of the reference's draws of numbers and of messages. -/
namespace Go.Proofs.YtfkikdoecoobgaaDoor
end Go.Proofs.YtfkikdoecoobgaaDoor

/- An answer that is a part of an own row: carried on. -/
namespace Go.Proofs.YtfkikdoecoobgaaDoor
open Go.RowKit

def RowP (w : World) (B : Nat) (u : Value) (l : List MsgM) : Prop := ∃ V pre post, MOwn w B V (pre ++ l ++ post) ∧ PartOf V pre.length l.length u
theorem RowP.reads {w : World} {B : Nat} {u : Value} {l : List MsgM} (h : RowP w B u l) : MsgsAt w u l := by obtain ⟨V, pre, post, h1, h2⟩ := h; exact part_at h1 h2
theorem RowP.below {w w' : World} {B : Nat} {u : Value} {l : List MsgM} (h : RowP w B u l) (hb : Below w.heap.size w w') : RowP w' B u l := by obtain ⟨V, pre, post, h1, h2⟩ := h; exact ⟨V, pre, post, row_below h1 hb, h2⟩
theorem RowP.thrown {w w' : World} {B g : Nat} {u : Value} {l : List MsgM} (h : RowP w B u l) (hg : g < B) (hw : w.grownBy w' (some g)) : RowP w' B u l := by obtain ⟨V, pre, post, h1, h2⟩ := h; exact ⟨V, pre, post, own_thrown h1 hg hw, h2⟩
theorem RowP.slice {w : World} {B : Nat} {u : Value} {l : List MsgM} (h : RowP w B u l) : ∃ a c, u = .slice a l.length c := by obtain ⟨V, pre, post, _, h2⟩ := h; exact h2.slice
theorem RowP.of {w : World} {B B0 : Nat} {V u : Value} {pre l post : List MsgM} (h : MOwn w B0 V (pre ++ l ++ post)) (hp : PartOf V pre.length l.length u) (hB : B ≤ B0) : RowP w B u l := ⟨V, pre, post, own_mono h hB, hp⟩
/-- An empty row, written out. -/
theorem RowP.made (w : World) (B : Nat) (hB : B ≤ w.heap.size) : RowP (w.alloc (.cells #[] 29)) B (.slice (some ⟨w.heap.size, 0, none⟩) 0 0) [] := by
  have h : MOwn (w.alloc (.cells #[] 29)) B (.slice (some ⟨w.heap.size, 0, none⟩) 0 0) [] :=
    ⟨rfl, .inr ⟨w.heap.size, 0, #[], rfl, hB, heap_alloc_new _ _, Nat.le_refl _, by unfold maxLen; omega, rfl, rfl⟩⟩
  exact ⟨_, [], [], h, PartOf.whole h⟩

end Go.Proofs.YtfkikdoecoobgaaDoor
