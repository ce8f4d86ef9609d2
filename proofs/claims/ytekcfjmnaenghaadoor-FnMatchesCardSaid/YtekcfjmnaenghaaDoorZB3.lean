/- Small texts, laid together. -/
import Derived.Test.YtekcfjmnaenghaaDoorZBend
import Derived.Test.YtekcfjmnaenghaaDoorZB1
set_option linter.unusedSimpArgs false
set_option linter.unusedVariables false
/- The walks of the reference's drawn names. -/
namespace Go.Proofs.YtekcfjmnaenghaaDoor
open Go.RowKit

theorem pick_name6 {r : Nat} (h : r < 6) : ∃ x : ByteArray, (#[Value.string ⟨#[]⟩, Value.string ⟨#[97, 47, 98, 47, 99, 47, 97, 47, 98, 47, 99]⟩, Value.string ⟨#[97, 47, 98, 47, 99, 47, 97, 47, 98, 47, 99, 47, 35]⟩, Value.string ⟨#[97, 98, 99, 100, 101, 102, 103, 104, 105, 106, 107, 108]⟩, Value.string ⟨#[97, 98, 99, 100, 101, 102, 103, 104, 105, 106, 107, 108, 109]⟩, Value.string ⟨#[97, 47, 47, 98]⟩] : Array Value)[r]? = some (.string x) ∧ x.size ≤ 13 := by
  match r, h with
  | 0, _ => exact ⟨_, rfl, by decide⟩
  | 1, _ => exact ⟨_, rfl, by decide⟩
  | 2, _ => exact ⟨_, rfl, by decide⟩
  | 3, _ => exact ⟨_, rfl, by decide⟩
  | 4, _ => exact ⟨_, rfl, by decide⟩
  | 5, _ => exact ⟨_, rfl, by decide⟩

set_option maxRecDepth 100000 in
set_option maxHeartbeats 1600000 in
theorem drawName_any {g : Nat} {a : Option Addr} {len cap : Nat} {w : World} (h : Curs g a len cap w) :
    Calls Tryd.prog 29 #[.pointer (some ⟨g, 0, none⟩)] w fun e w' => ∃ s : ByteArray, e = .returned (.string s) ∧ s.size ≤ 13 ∧ Curs g a len cap w' ∧ w.grownBy w' (some g) := by
  have H0 := Lib.hid h
  clear h
  go_enter Tryd.func29, Tryd.ntmps29
  go_wp2_with fail
  refine (drawFilter_any H0.out).mono ?_
  rintro e w1 ⟨s, rfl, hs, h1, g1⟩
  have H1 := Lib.hid h1
  have G1 := Lib.hid g1
  clear h1 g1 H0
  go_wp2_with fail
  refine (curOnce_any 2 (by omega) H1.out).mono ?_
  rintro e w2 ⟨b, rfl, h2, g2⟩
  have H2 := Lib.hid h2
  have G2 := Lib.hid (grown_trans G1.out g2)
  clear h2 g2 H1 G1
  cases b
  · go_wp2_with fail
    refine (curOnce_any 5 (by omega) H2.out).mono ?_
    rintro e w4 ⟨b4, rfl, h4, g4⟩
    have H4 := Lib.hid h4
    have G4 := Lib.hid (grown_trans G2.out g4)
    clear h4 g4
    cases b4
    · go_wp2_with fail
      refine (curOnce_any 20 (by omega) H4.out).mono ?_
      rintro e w6 ⟨b6, rfl, h6, g6⟩
      have H6 := Lib.hid h6
      have G6 := Lib.hid (grown_trans G4.out g6)
      clear h6 g6
      cases b6
      · go_wp2
        go_ret
        exact ⟨_, rfl, by omega, H6.out, G6.out⟩
      · have hg6 := H6.out.lt
        go_wp2_with fail
        refine (curBelow_any 6 (by omega) (H6.out.alloc _)).mono ?_
        rintro e w7 ⟨r, hr, rfl, h7, g7⟩
        have hr6 : r < 6 := below_lt (by omega) hr
        obtain ⟨y, hy, hys⟩ := pick_name6 hr6
        have hcell := (pick_lit g7 hg6).trans hy
        have H7 := Lib.hid h7
        have G7 := Lib.hid (grown_trans G6.out (grown_trans (grown_alloc w6 _ (some g)) g7))
        clear h7 g7 hy hr
        go_wp2
        go_ret
        exact ⟨_, rfl, by omega, H7.out, G7.out⟩
    · go_wp2_with fail
      refine (bend_any s _ (by omega) (by decide) (by decide) H4.out).mono ?_
      rintro e w5 ⟨s, rfl, hs, h5, g5⟩
      have H4 := Lib.hid h5
      have G4 := Lib.hid (grown_trans G4.out g5)
      clear h5 g5
      go_wp2_with fail
      refine (curOnce_any 20 (by omega) H4.out).mono ?_
      rintro e w6 ⟨b6, rfl, h6, g6⟩
      have H6 := Lib.hid h6
      have G6 := Lib.hid (grown_trans G4.out g6)
      clear h6 g6
      cases b6
      · go_wp2
        go_ret
        exact ⟨_, rfl, by omega, H6.out, G6.out⟩
      · have hg6 := H6.out.lt
        go_wp2_with fail
        refine (curBelow_any 6 (by omega) (H6.out.alloc _)).mono ?_
        rintro e w7 ⟨r, hr, rfl, h7, g7⟩
        have hr6 : r < 6 := below_lt (by omega) hr
        obtain ⟨y, hy, hys⟩ := pick_name6 hr6
        have hcell := (pick_lit g7 hg6).trans hy
        have H7 := Lib.hid h7
        have G7 := Lib.hid (grown_trans G6.out (grown_trans (grown_alloc w6 _ (some g)) g7))
        clear h7 g7 hy hr
        go_wp2
        go_ret
        exact ⟨_, rfl, by omega, H7.out, G7.out⟩
  · go_wp2_with fail
    refine (drawTopic_any H2.out).mono ?_
    rintro e w3 ⟨s, rfl, hs, h3, g3⟩
    have H2 := Lib.hid h3
    have G2 := Lib.hid (grown_trans G2.out g3)
    clear h3 g3
    go_wp2_with fail
    refine (curOnce_any 5 (by omega) H2.out).mono ?_
    rintro e w4 ⟨b4, rfl, h4, g4⟩
    have H4 := Lib.hid h4
    have G4 := Lib.hid (grown_trans G2.out g4)
    clear h4 g4
    cases b4
    · go_wp2_with fail
      refine (curOnce_any 20 (by omega) H4.out).mono ?_
      rintro e w6 ⟨b6, rfl, h6, g6⟩
      have H6 := Lib.hid h6
      have G6 := Lib.hid (grown_trans G4.out g6)
      clear h6 g6
      cases b6
      · go_wp2
        go_ret
        exact ⟨_, rfl, by omega, H6.out, G6.out⟩
      · have hg6 := H6.out.lt
        go_wp2_with fail
        refine (curBelow_any 6 (by omega) (H6.out.alloc _)).mono ?_
        rintro e w7 ⟨r, hr, rfl, h7, g7⟩
        have hr6 : r < 6 := below_lt (by omega) hr
        obtain ⟨y, hy, hys⟩ := pick_name6 hr6
        have hcell := (pick_lit g7 hg6).trans hy
        have H7 := Lib.hid h7
        have G7 := Lib.hid (grown_trans G6.out (grown_trans (grown_alloc w6 _ (some g)) g7))
        clear h7 g7 hy hr
        go_wp2
        go_ret
        exact ⟨_, rfl, by omega, H7.out, G7.out⟩
    · go_wp2_with fail
      refine (bend_any s _ (by omega) (by decide) (by decide) H4.out).mono ?_
      rintro e w5 ⟨s, rfl, hs, h5, g5⟩
      have H4 := Lib.hid h5
      have G4 := Lib.hid (grown_trans G4.out g5)
      clear h5 g5
      go_wp2_with fail
      refine (curOnce_any 20 (by omega) H4.out).mono ?_
      rintro e w6 ⟨b6, rfl, h6, g6⟩
      have H6 := Lib.hid h6
      have G6 := Lib.hid (grown_trans G4.out g6)
      clear h6 g6
      cases b6
      · go_wp2
        go_ret
        exact ⟨_, rfl, by omega, H6.out, G6.out⟩
      · have hg6 := H6.out.lt
        go_wp2_with fail
        refine (curBelow_any 6 (by omega) (H6.out.alloc _)).mono ?_
        rintro e w7 ⟨r, hr, rfl, h7, g7⟩
        have hr6 : r < 6 := below_lt (by omega) hr
        obtain ⟨y, hy, hys⟩ := pick_name6 hr6
        have hcell := (pick_lit g7 hg6).trans hy
        have H7 := Lib.hid h7
        have G7 := Lib.hid (grown_trans G6.out (grown_trans (grown_alloc w6 _ (some g)) g7))
        clear h7 g7 hy hr
        go_wp2
        go_ret
        exact ⟨_, rfl, by omega, H7.out, G7.out⟩

end Go.Proofs.YtekcfjmnaenghaaDoor

/- The law's argument, a list of bytes, as the dice and the cursor read it. -/
namespace Go.Proofs.YtekcfjmnaenghaaDoor
open Go.RowKit

theorem CodeAt.of_ints {W : World} {x : Addr} {l c : Nat} {zs : List Int} (hl : l ≤ c) (hz : zs.length = c) (hcell : ∀ i, i < zs.length → W.cell? (x.add i) = some (.int .u8 (zs.getD i 0))) (hwz : ∀ n ∈ zs, (Lit.int .u8 n).wf = true) : CodeAt W.heap.size (some x) l W := by
  by_cases h0 : l = 0
  · exact .inl h0
  · obtain ⟨b, off, rfl, hc⟩ := ints_at hcell (by omega)
    refine .inr ⟨b, off, rfl, World.block_lt_of_cell? _ _ (hc 0 (by omega)), fun j hj => ?_⟩
    have hj2 : j < zs.length := by omega
    have hw := hwz (zs.getD j 0) (by rw [List.getD_eq_getElem?_getD, List.getElem?_eq_getElem hj2]; exact List.getElem_mem hj2)
    have hb : 0 ≤ zs.getD j 0 ∧ zs.getD j 0 ≤ 255 := by simpa [Lit.wf, IntKind.min, IntKind.max, IntKind.signed, IntKind.bits] using hw
    exact ⟨(zs.getD j 0).toNat, by omega, by rw [hc j hj2]; congr 2; omega⟩

theorem topic_filter {l : List ByteArray} (h : topicP l = true) : filterP l = true := by
  rw [topicP, Bool.and_eq_true, decide_eq_true_iff, List.all_eq_true] at h
  rw [filterP, Bool.and_eq_true, decide_eq_true_iff]
  refine ⟨h.1, filterTo_all fun j hj => ?_⟩
  rw [partF, h.2 _ (List.getElem_mem hj)]; rfl

/-! ### The parts joined again -/

/-- Texts with slashes between. -/
def jlN : List (List UInt8) → List UInt8
  | [] => []
  | [p] => p
  | p :: q :: ps => p ++ 47 :: jlN (q :: ps)

theorem jlN_cut : ∀ L : List UInt8, jlN (cut 47 L) = L
  | [] => rfl
  | b :: L => by
    have ih := jlN_cut L
    obtain ⟨p, ps, h⟩ := cut_cons 47 L
    rw [h] at ih
    by_cases e : b = 47
    · subst e; rw [cut_eq, h, jlN, ih]; rfl
    · rw [cut_ne e h]
      cases ps with
      | nil => simpa [jlN] using ih
      | cons q ps => rw [jlN] at ih ⊢; rw [List.cons_append, ih]

theorem jlN_snoc : ∀ (xs : List (List UInt8)) (y : List UInt8), xs ≠ [] → jlN (xs ++ [y]) = jlN xs ++ 47 :: y
  | [], _, h => absurd rfl h
  | [p], y, _ => rfl
  | p :: q :: ps, y, _ => by
    have ih := jlN_snoc (q :: ps) y (by simp)
    rw [List.cons_append, List.cons_append, jlN, ← List.cons_append, ih, jlN, List.append_assoc, List.cons_append]

/-- The first k texts of l with slashes between. -/
def joinTo (l : List ByteArray) : Nat → ByteArray
  | 0 => ⟨#[]⟩
  | k + 1 => (if 0 < k then joinTo l k ++ ⟨#[47]⟩ else joinTo l k) ++ l.getD k ByteArray.empty

theorem joinTo_data (l : List ByteArray) : ∀ k, k ≤ l.length → (joinTo l k).data.toList = jlN ((l.take k).map (·.data.toList))
  | 0, _ => rfl
  | k + 1, h => by
    have ih := joinTo_data l k (by omega)
    have hk : k < l.length := by omega
    have e1 : l.getD k ByteArray.empty = l[k] := by rw [List.getD_eq_getElem?_getD, List.getElem?_eq_getElem hk]; rfl
    rw [List.take_succ_eq_append_getElem hk, List.map_append, joinTo, e1]
    by_cases h0 : 0 < k
    · rw [if_pos h0, List.map_cons, List.map_nil, jlN_snoc _ _ (by simp; exact ⟨by omega, fun e => by subst e; simp at hk⟩), ← ih]
      simp [ByteArray.data_append]
    · have : k = 0 := by omega
      subst this
      simp [joinTo, jlN, ByteArray.data_append]

theorem joinTo_parts (s : ByteArray) : joinTo (parts s 47) (parts s 47).length = s := by
  apply bytes_ext
  rw [joinTo_data _ _ (Nat.le_refl _), List.take_length, parts_data, jlN_cut]

theorem joinTo_next (l : List ByteArray) (k : Nat) (h : k < l.length) : joinTo l (k + 1) = (if 0 < k then joinTo l k ++ ⟨#[47]⟩ else joinTo l k) ++ l[k] := by
  rw [joinTo, List.getD_eq_getElem?_getD, List.getElem?_eq_getElem h]; rfl

end Go.Proofs.YtekcfjmnaenghaaDoor

/- The walks of the reference's draws of chapter 2: two short texts. -/
namespace Go.Proofs.YtekcfjmnaenghaaDoor
open Go.RowKit

set_option maxRecDepth 100000 in
set_option maxHeartbeats 1600000 in
theorem drawMatches_any {a : Option Addr} {len cap : Nat} {w : World} (hlen : len ≤ 4096) (hc : CodeAt w.heap.size a len w) :
    Calls Tryd.prog 8 #[.slice a len cap] w fun e w' => ∃ f t : ByteArray, e = .returned (.tuple #[.string f, .string t]) ∧ f.size ≤ 13 ∧ t.size ≤ 13 ∧ Below w.heap.size w w' := by
  go_enter Tryd.func8, Tryd.ntmps8
  go_wp2_with fail
  refine (curNew_any a len cap w hlen hc).mono ?_
  rintro e w1 ⟨rfl, h1, b1⟩
  have H1 := Lib.hid h1
  have B1 := Lib.hid b1
  clear h1 b1 hc
  go_wp2_with fail
  refine (drawFilter_any H1.out).mono ?_
  rintro e w2 ⟨f, rfl, hf, h2, g2⟩
  have hf2 : f.size ≤ 13 := by omega
  have H2 := Lib.hid h2
  have B2 := Lib.hid (B1.out.grown g2 B1.out.size (fun k hk => by cases hk; exact Nat.le_refl _))
  clear h2 g2 H1 B1 hf
  go_wp2_with fail
  refine (curOnce_any 8 (by omega) H2.out).mono ?_
  rintro e w3 ⟨b3, rfl, h3, g3⟩
  have H3 := Lib.hid h3
  have B3 := Lib.hid (B2.out.grown g3 B2.out.size (fun k hk => by cases hk; exact Nat.le_refl _))
  clear h3 g3 H2 B2
  cases b3
  · go_wp2_with fail
    refine (curOnce_any 8 (by omega) H3.out).mono ?_
    rintro e w4 ⟨b4, rfl, h4, g4⟩
    have H4 := Lib.hid h4
    have B4 := Lib.hid (B3.out.grown g4 B3.out.size (fun k hk => by cases hk; exact Nat.le_refl _))
    clear h4 g4 H3 B3
    cases b4
    · go_wp2_with fail
      refine (drawTopic_any H4.out).mono ?_
      rintro e w5 ⟨t, rfl, ht, h5, g5⟩
      have B5 := Lib.hid (B4.out.grown g5 B4.out.size (fun k hk => by cases hk; exact Nat.le_refl _))
      clear h5 g5 H4 B4
      go_wp2
      go_ret2
      exact ⟨f, t, rfl, hf2, by omega, B5.out⟩
    · go_wp2_with fail
      refine (drawName_any H4.out).mono ?_
      rintro e w5 ⟨t, rfl, ht, h5, g5⟩
      have B5 := Lib.hid (B4.out.grown g5 B4.out.size (fun k hk => by cases hk; exact Nat.le_refl _))
      clear h5 g5 H4 B4
      go_wp2
      go_ret2
      exact ⟨f, t, rfl, hf2, by omega, B5.out⟩
  · go_wp2_with fail
    refine (drawName_any H3.out).mono ?_
    rintro e w3b ⟨f2, rfl, hf, h3b, g3b⟩
    have H3b := Lib.hid h3b
    have B3b := Lib.hid (B3.out.grown g3b B3.out.size (fun k hk => by cases hk; exact Nat.le_refl _))
    clear h3b g3b H3 B3
    go_wp2_with fail
    refine (curOnce_any 8 (by omega) H3b.out).mono ?_
    rintro e w4 ⟨b4, rfl, h4, g4⟩
    have H4 := Lib.hid h4
    have B4 := Lib.hid (B3b.out.grown g4 B3b.out.size (fun k hk => by cases hk; exact Nat.le_refl _))
    clear h4 g4 H3b B3b
    cases b4
    · go_wp2_with fail
      refine (drawTopic_any H4.out).mono ?_
      rintro e w5 ⟨t, rfl, ht, h5, g5⟩
      have B5 := Lib.hid (B4.out.grown g5 B4.out.size (fun k hk => by cases hk; exact Nat.le_refl _))
      clear h5 g5 H4 B4
      go_wp2
      go_ret2
      exact ⟨f2, t, rfl, hf, by omega, B5.out⟩
    · go_wp2_with fail
      refine (drawName_any H4.out).mono ?_
      rintro e w5 ⟨t, rfl, ht, h5, g5⟩
      have B5 := Lib.hid (B4.out.grown g5 B4.out.size (fun k hk => by cases hk; exact Nat.le_refl _))
      clear h5 g5 H4 B4
      go_wp2
      go_ret2
      exact ⟨f2, t, rfl, hf, by omega, B5.out⟩

set_option maxRecDepth 100000 in
set_option maxHeartbeats 1600000 in
theorem drawCovers_any {a : Option Addr} {len cap : Nat} {w : World} (hlen : len ≤ 4096) (hc : CodeAt w.heap.size a len w) :
    Calls Tryd.prog 9 #[.slice a len cap] w fun e w' => ∃ f t : ByteArray, e = .returned (.tuple #[.string f, .string t]) ∧ f.size ≤ 13 ∧ t.size ≤ 13 ∧ Below w.heap.size w w' := by
  go_enter Tryd.func9, Tryd.ntmps9
  go_wp2_with fail
  refine (curNew_any a len cap w hlen hc).mono ?_
  rintro e w1 ⟨rfl, h1, b1⟩
  have H1 := Lib.hid h1
  have B1 := Lib.hid b1
  clear h1 b1 hc
  go_wp2_with fail
  refine (drawFilter_any H1.out).mono ?_
  rintro e w2 ⟨f, rfl, hf, h2, g2⟩
  have hf2 : f.size ≤ 13 := by omega
  have H2 := Lib.hid h2
  have B2 := Lib.hid (B1.out.grown g2 B1.out.size (fun k hk => by cases hk; exact Nat.le_refl _))
  clear h2 g2 H1 B1 hf
  go_wp2_with fail
  refine (curOnce_any 8 (by omega) H2.out).mono ?_
  rintro e w3 ⟨b3, rfl, h3, g3⟩
  have H3 := Lib.hid h3
  have B3 := Lib.hid (B2.out.grown g3 B2.out.size (fun k hk => by cases hk; exact Nat.le_refl _))
  clear h3 g3 H2 B2
  cases b3
  · go_wp2_with fail
    refine (drawFilter_any H3.out).mono ?_
    rintro e w5 ⟨t, rfl, ht, h5, g5⟩
    have B5 := Lib.hid (B3.out.grown g5 B3.out.size (fun k hk => by cases hk; exact Nat.le_refl _))
    clear h5 g5 H3 B3
    go_wp2
    go_ret2
    exact ⟨f, t, rfl, hf2, by omega, B5.out⟩
  · go_wp2_with fail
    refine (drawName_any H3.out).mono ?_
    rintro e w5 ⟨t, rfl, ht, h5, g5⟩
    have B5 := Lib.hid (B3.out.grown g5 B3.out.size (fun k hk => by cases hk; exact Nat.le_refl _))
    clear h5 g5 H3 B3
    go_wp2
    go_ret2
    exact ⟨t, f, rfl, by omega, hf2, B5.out⟩

end Go.Proofs.YtekcfjmnaenghaaDoor
