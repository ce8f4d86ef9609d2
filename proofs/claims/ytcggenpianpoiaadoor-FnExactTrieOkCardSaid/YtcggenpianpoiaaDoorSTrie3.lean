/- The walks of the reference's functions that make tries: NewTrie, copies. -/
import Derived.Test.YtcggenpianpoiaaDoorSTrie1
import Derived.Test.YtcggenpianpoiaaDoorSNew
import Derived.Test.YtcggenpianpoiaaDoorOwn
import Derived.Test.YtcggenpianpoiaaDoorApp
import Derived.Deep.RegionHeld
namespace Go.Proofs.YtcggenpianpoiaaDoor
open Go.RowKit

theorem ints_length (l : List Int) : (ints l).length = l.length := by simp [ints]
theorem ints_oneCell' (l : List Int) : ∀ u ∈ ints l, u.oneCell' = true := by
  intro u hu
  obtain ⟨x, _, rfl⟩ := List.mem_map.1 hu
  rfl

set_option maxRecDepth 100000 in
set_option maxHeartbeats 400000 in
theorem specCopy_any (v : Value) (l : List Int) (w : World) (hl : l.length ≤ 4000000) (hv : IntsAt w v l) :
    Calls Tryd.prog 78 #[v] w fun e w' => ∃ u, e = .returned u ∧ w'.ownsRow w.heap.size 2 1 u l.length (ints l) ∧ Below w.heap.size w w' := by
  obtain ⟨a, c, rfl, hc1, hc2, hc3⟩ := hv
  obtain ⟨i, hi, hz0, hz1, hz2⟩ := info_parts (P := Tryd.prog) (e := 2) (z := .int .i64 0) (size := 1) (bytes := 8) (by kernel_rfl)
  have HO := Lib.hid (World.ownsRow_lit (base := w.heap.size) (e := 2) (size := 1) w #[] 0 (Nat.le_refl _) (by unfold maxLen; omega) rfl)
  have HL := Lib.hid (ints_length l)
  cases a with
  | none =>
    have hl0 : l = [] := by
      rcases hc3 with h | ⟨b, o, h, _⟩
      · exact h
      · cases h
    subst hl0
    go_enter Tryd.func78, Tryd.ntmps78
    go_wp2_with (at_builtin; refine wpList_append_empty rfl _ _ 38 rfl w.heap.size 2 i 1 Tryd.underlying38 hi hz1 _ 0 [] rfl HO.out c rfl ?_)
    go_wp2
    go_ret
    exact ⟨_, rfl, HO.out, (Below.refl _ _).alloc (Nat.le_refl _) _⟩
  | some ad =>
    have HN : Hid (∀ j u, (ints l)[j]? = some u → w.cell? (ad.add j) = some u) := Lib.hid (fun j u hu => by
      rcases hc3 with h | ⟨b, o, h, hin⟩
      · subst h; simp [ints] at hu
      · cases h
        have hj : j < l.length := by
          rcases Nat.lt_or_ge j l.length with h | h
          · exact h
          · rw [List.getElem?_eq_none (by rw [HL.out]; exact h)] at hu; cases hu
        have := hin j hj
        rw [ints, List.getElem?_map, List.getElem?_eq_getElem hj] at hu
        cases hu
        unfold Addr.add
        split
        · simp_all
        · exact this)
    have HN2 : Hid (∀ j u, (ints l)[j]? = some u → (w.alloc (.cells #[] 2)).cell? (ad.add j) = some u) := Lib.hid (fun j u hu => by
      have := HN.out j u hu
      rw [World.cell?_alloc_lt _ _ _ (World.block_lt_of_cell? _ _ this)]; exact this)
    clear hc3 HN
    go_enter Tryd.func78, Tryd.ntmps78
    go_wp2_with (at_builtin; refine wpList_append_own _ rfl _ _ 38 rfl w.heap.size 2 i (.int .i64 0) 1 8 Tryd.underlying38 hi hz0 hz1 hz2 rfl (by decide) _ 0 [] rfl HO.out ad l.length c (ints l) rfl (by rw [HL.out]; omega) HN2.out (ints_oneCell' l) (by unfold maxLen; omega) (by omega) (by simp) ?_; intro v' w' hown hgr _)
    have HE : Hid (w'.ownsRow w.heap.size 2 1 v' l.length (ints l)) := Lib.hid (by simpa using hown)
    have HB : Hid (Below w.heap.size w w') := Lib.hid (((Below.refl _ _).alloc (Nat.le_refl _) _).grown hgr (by simp) (fun k h => by cases h; exact Nat.le_refl _))
    clear hown hgr
    go_wp2
    go_ret
    exact ⟨_, rfl, HE.out, HB.out⟩

end Go.Proofs.YtcggenpianpoiaaDoor
