/- The walk of (*node).link: a knot more in the program's tree. -/
import Derived.Test.YtcggenpianpoiaaDoorNode4
namespace Go.Proofs.YtcggenpianpoiaaDoor
open Go.RowKit

theorem cut_noslash : ∀ (L : List UInt8), ∀ p ∈ cut 47 L, (47 : UInt8) ∉ p
  | [], p, h => by rw [cut] at h; rw [List.mem_singleton.1 h]; simp
  | b :: L, p, h => by
    have ih := cut_noslash L
    obtain ⟨q, ps, e⟩ := cut_cons 47 L
    by_cases hb : b = 47
    · subst hb
      rw [cut_hit] at h
      rcases List.mem_cons.1 h with rfl | h
      · simp
      · exact ih p h
    · rw [cut_miss hb e] at h
      rcases List.mem_cons.1 h with rfl | h
      · intro h2
        rcases List.mem_cons.1 h2 with h2 | h2
        · exact hb h2.symm
        · exact ih q (by rw [e]; simp) h2
      · exact ih p (by rw [e]; simp [h])

theorem partF_ne {p : ByteArray} {b : Bool} (h : partF p b = true) : p.data.toList ≠ [] := by
  unfold partF at h
  intro e
  have e2 : p.toList = [] := by simpa [Lib.toList_data] using e
  have e3 : p.size = 0 := by show p.data.size = 0; rw [← Array.length_toList, e]; rfl
  simp [e2, isWord, e3] at h

/-- The parts of a filter. -/
theorem filter_good {s : ByteArray} (h : filterP (parts s 47) = true) : pth s = (parts s 47).map (·.data.toList) ∧ Good (pth s) ∧ pth s ≠ [] := by
  have hg : ∀ q ∈ (parts s 47).map (·.data.toList), q ≠ [] ∧ (47 : UInt8) ∉ q := fun q hq => by
    refine ⟨?_, cut_noslash s.data.toList q (by rw [← parts_data]; exact hq)⟩
    obtain ⟨p, hp, rfl⟩ := List.mem_map.1 hq
    obtain ⟨j, hj, rfl⟩ := List.mem_iff_getElem.1 hp
    cases e : partF (parts s 47)[j] (decide (j + 1 = (parts s 47).length))
    · rw [filterP_bad hj e] at h; cases h
    · exact partF_ne e
  have hne : s.data.toList ≠ [] := fun e => by
    have h1 : (parts s 47).map (·.data.toList) = [[]] := by rw [parts_data, e]; rfl
    exact (hg [] (by rw [h1]; simp)).1 rfl
  have e : pth s = (parts s 47).map (·.data.toList) := by rw [pth, if_neg hne, parts_data]
  refine ⟨e, by rw [e]; exact hg, ?_⟩
  rw [e]
  intro h0
  have h1 := parts_pos s 47
  have h2 := congrArg List.length h0
  rw [List.length_map, List.length_nil] at h2; omega

def linkB (T : List NodeM) (p : ByteArray) (ids : List Int) : Bool := filterP (parts p 47) && (rises ids && (ptrOf T (pth p).dropLast).isSome)

theorem parts_front {p : ByteArray} (h : filterP (parts p 47) = true) : ((parts p 47).take ((parts p 47).length - 1)).map (·.data.toList) = (pth p).dropLast := by
  rw [(filter_good h).1, List.map_take, List.dropLast_eq_take, List.length_map]

set_option maxRecDepth 100000 in
set_option maxHeartbeats 1600000 in
theorem link_no (T : List NodeM) (x : NodeM) (p : ByteArray) (u : Value) (ids : List Int) (m : Int) (w : World) (B : Nat) (hN : Nodes w B T) (hT : TreeOk T) (hx : x ∈ T) (hx0 : x.path = []) (hn : T.length ≤ 4000000)
    (hp : p.size ≤ 1048576) (hi : ids.length ≤ 4000000) (hu : IntsAt w u ids) (hm : w.cell? ⟨0, 0, none⟩ = some (.int .i64 m)) (hb : linkB T p ids = false) :
    Calls Tryd.prog 70 #[.pointer (some ⟨x.ptr, 0, none⟩), .agg #[.string p, u]] w fun e w' => e = .returned (.bool false) ∧ Below w.heap.size w w' := by
  have hU := hu
  obtain ⟨a, c, rfl, _, _, _⟩ := hu
  have hA : Below w.heap.size w (w.alloc (.cells #[.string p, .slice a ids.length c] 60)) := (Below.refl _ _).alloc (Nat.le_refl _) _
  have cf := implFilter_any p m (w.alloc (.cells #[.string p, .slice a ids.length c] 60)) hp ((hA.cell (World.block_lt_of_cell? _ _ hm)).trans hm)
  cases hf : filterP (parts p 47)
  · rw [hf] at cf
    have CF := Lib.hid cf
    have HA := Lib.hid hA
    clear cf hf hb hN hT hU hA hm
    go_enter Tryd.func70, Tryd.ntmps70
    go_wp2_with (go_at_call 37; refine CF.out.mono ?_; rintro e w1 ⟨rfl, hb1⟩; have HB1 := Lib.hid hb1; clear hb1)
    go_ret
    exact ⟨rfl, below_end HA.out HB1.out⟩
  · rw [hf] at cf
    have CF := Lib.hid cf
    have hk : ∀ j, (w.alloc (.cells #[.string p, .slice a ids.length c] 60)).cell? ⟨w.heap.size, j, none⟩ = #[.string p, .slice a ids.length c][j]? := fun j => cell_of_heap (heap_alloc_new w _) j
    have HK := Lib.hid hk
    have HM := Lib.hid ((hA.cell (World.block_lt_of_cell? _ _ hm)).trans hm)
    have HU := Lib.hid (hU.below hA)
    have HNN := Lib.hid (hN.below hA)
    have HA := Lib.hid hA
    have hws : (w.alloc (.cells #[.string p, .slice a ids.length c] 60)).heap.size = w.heap.size + 1 := by simp
    have HWS := Lib.hid hws
    have HF := Lib.hid hf
    have HBB := Lib.hid hb
    clear cf hk hU hm hN hA hws hb hf
    cases hr : rises ids
    · clear HBB
      go_enter Tryd.func70, Tryd.ntmps70
      go_wp2_with fail
      refine CF.out.mono ?_
      rintro e w1 ⟨rfl, hb1⟩
      have hk1 : w1.cell? ⟨w.heap.size, 1, none⟩ = some (.slice a ids.length c) := (hb1.cell (show w.heap.size < _ by rw [HWS.out]; omega)).trans (HK.out 1)
      have CR := Lib.hid (implRises_any _ ids w1 hi (HU.out.below hb1))
      rw [hr] at CR
      have HB1 := Lib.hid hb1
      clear hb1
      go_wp2_with (go_at_call 92; refine CR.out.mono ?_; rintro e w1 ⟨rfl, rfl⟩)
      go_ret
      exact ⟨rfl, below_end HA.out HB1.out⟩
    · have HR := Lib.hid hr
      have HPN : Hid (ptrOf T (pth p).dropLast = none) := Lib.hid (by
        have := HBB.out
        rw [linkB, HF.out, hr] at this
        cases e : ptrOf T (pth p).dropLast with
        | none => rfl
        | some _ => rw [e] at this; cases this)
      clear HBB hr
      go_enter Tryd.func70, Tryd.ntmps70
      go_wp2_with fail
      refine CF.out.mono ?_
      rintro e w1 ⟨rfl, hb1⟩
      have hk0 : w1.cell? ⟨w.heap.size, 0, none⟩ = some (.string p) := (hb1.cell (show w.heap.size < _ by rw [HWS.out]; omega)).trans (HK.out 0)
      have hk1 : w1.cell? ⟨w.heap.size, 1, none⟩ = some (.slice a ids.length c) := (hb1.cell (show w.heap.size < _ by rw [HWS.out]; omega)).trans (HK.out 1)
      have CR := Lib.hid (implRises_any _ ids w1 hi (HU.out.below hb1))
      rw [HR.out] at CR
      have CP := Lib.hid (implParts_any p m w1 hp ((hb1.cell (World.block_lt_of_cell? _ _ HM.out)).trans HM.out))
      have HN1 := Lib.hid (HNN.out.below hb1)
      have HB1 := Lib.hid hb1
      clear hb1
      go_wp2_with (go_at_call 92; refine CR.out.mono ?_; rintro e w1 ⟨rfl, rfl⟩)
      refine CP.out.mono ?_
      rintro e w2 ⟨v, rfl, h1, h2⟩
      obtain ⟨g, cap, rfl, hg1, hg2, hcell, _⟩ := row_open h1 (parts_pos p 47)
      have HC := Lib.hid hcell
      have H2 := Lib.hid h2
      have hpos := parts_pos p 47
      have hple := parts_le p 47
      have g3 : IntKind.i64.wrap (((parts p 47).length : Int) - 1) = ((parts p 47).length : Int) - 1 := by rw [IntKind.wrap_i64]; omega
      have g4 : (0 : Int) ≤ ((parts p 47).length : Int) - 1 := by omega
      have g6 : (((parts p 47).length : Int) - 1).toNat = (parts p 47).length - 1 := by omega
      have HCAP : Hid ((parts p 47).length ≤ cap) := Lib.hid (own_cap h1)
      have CD := Lib.hid (descend_any T x (parts p 47) g ((parts p 47).length - 1) cap w2 B (HN1.out.below h2) hT hx hn (by omega) (by omega) (fun t ht => hcell t ht))
      rw [parts_front HF.out, hx0, List.nil_append, HPN.out] at CD
      obtain ⟨n, hnn⟩ : ∃ n, (parts p 47).length = n := ⟨_, rfl⟩
      rw [hnn] at hpos hple g3 g4 g6 HCAP CD ⊢
      have hcap := HCAP.out
      clear h1 h2 hcell hnn
      go_wp2_with fail
      refine CD.out.mono ?_
      rintro e w3 ⟨rfl, rfl⟩
      go_wp2
      go_ret
      exact ⟨rfl, below_end (below_end HA.out HB1.out) H2.out⟩

end Go.Proofs.YtcggenpianpoiaaDoor
