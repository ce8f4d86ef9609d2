/- The walks of the program's look for whose place a message takes. -/
import Derived.Test.YtgmlohgfkbjmlaaDoorZB2
import Derived.Test.YtgmlohgfkbjmlaaDoorZB3
import Derived.Test.YtgmlohgfkbjmlaaDoorZOffM
import Derived.Lib.Hide
import Derived.Shelf.Abstract
set_option linter.unusedSimpArgs false
set_option linter.unusedVariables false
namespace Go.Proofs.YtgmlohgfkbjmlaaDoor
open Go.RowKit

set_option maxRecDepth 100000 in
theorem elderA_any (v : Value) (m : MsgM) (w : World) :
    Calls Tryd.prog 88 #[.agg #[], v, magg m] w fun e w' => e = .returned (.int .i64 (-1)) ∧ Below w.heap.size w w' := by
  have b1 : Below w.heap.size w ((w.alloc (.cells #[] 78)).alloc (.cells #[.int .i64 m.1, .int .i64 m.2.1, .string m.2.2.1, .int .i64 m.2.2.2] 42)) := ((Below.refl _ _).alloc (Nat.le_refl _) _).alloc (by simp) _
  go_enter Tryd.func88, Tryd.ntmps88
  go_wp2
  go_ret
  exact ⟨rfl, b1⟩

set_option maxRecDepth 100000 in
theorem elderC_any (x : MsgM) (t : ByteArray) (F : Nat) (w : World) (hF : w.cell? ⟨F, 2, none⟩ = some (.string t)) :
    Calls Tryd.prog 90 #[magg x, .pointer (some ⟨F, 0, none⟩)] w fun e w' => e = .returned (.bool (sameT x.2.2.1 t)) ∧ Below w.heap.size w w' := by
  obtain ⟨q, f, p, d⟩ := x
  obtain ⟨s, hs⟩ : ∃ s, sameT p t = s := ⟨_, rfl⟩
  have he : (p.toList == t.toList) = s := hs
  have ha : Below w.heap.size w (w.alloc (.cells #[.int .i64 q, .int .i64 f, .string p, .int .i64 d] 42)) := (Below.refl _ _).alloc (Nat.le_refl _) _
  have hF2 := (ha.cell (World.block_lt_of_cell? _ _ hF)).trans hF
  have d2 : (w.alloc (.cells #[.int .i64 q, .int .i64 f, .string p, .int .i64 d] 42)).cell? ⟨w.heap.size, 2, none⟩ = some (.string p) := by rw [World.cell?_alloc_at _ _ _ _ rfl]; rfl
  have HS : Hid (sameT p t = s) := Lib.hid hs
  have HA := Lib.hid ha
  clear hF hs ha
  show Calls _ _ #[.agg #[.int .i64 q, .int .i64 f, .string p, .int .i64 d], _] _ _
  go_enter Tryd.func90, Tryd.ntmps90
  go_upto_region 1 with (fail)
  generalize w.alloc (.cells #[.int .i64 q, .int .i64 f, .string p, .int .i64 d] 42) = w1 at hF2 d2 HA ⊢
  cases s
  · skip
    go_wp2
    go_ret
    exact ⟨ret_bool HS.out.symm, HA.out⟩
  · skip
    go_wp2
    go_ret
    exact ⟨ret_bool HS.out.symm, HA.out⟩

set_option maxRecDepth 100000 in
set_option maxHeartbeats 1600000 in
theorem elderM_any (v : Value) (l : List MsgM) (m : MsgM) (w : World) (hl : l.length ≤ 2000000) (hv : MsgsAt w v l) :
    Calls Tryd.prog 89 #[.agg #[], v, magg m] w fun e w' => e = .returned (.int .i64 (idxN (sameAt l m.2.2.1 0 l.length))) ∧ Below w.heap.size w w' := by
  have s1 : (w.alloc (.cells #[] 83)).heap.size = w.heap.size + 1 := by simp
  have b1 : Below w.heap.size w ((w.alloc (.cells #[] 83)).alloc (.cells #[.int .i64 m.1, .int .i64 m.2.1, .string m.2.2.1, .int .i64 m.2.2.2] 42)) := ((Below.refl _ _).alloc (Nat.le_refl _) _).alloc (by simp) _
  have h1 : ((w.alloc (.cells #[] 83)).alloc (.cells #[.int .i64 m.1, .int .i64 m.2.1, .string m.2.2.1, .int .i64 m.2.2.2] 42)).heap[w.heap.size + 1]? = some (.cells #[.int .i64 m.1, .int .i64 m.2.1, .string m.2.2.1, .int .i64 m.2.2.2] 42 (0, 0)) := by rw [← s1]; exact heap_alloc_new _ _
  have HV := Lib.hid hv
  obtain ⟨ua, uc, rfl, _, _, _⟩ := hv
  go_enter Tryd.func89, Tryd.ntmps89
  go_upto_region 1 with (fail)
  generalize ((w.alloc (.cells #[] 83)).alloc (.cells #[.int .i64 m.1, .int .i64 m.2.1, .string m.2.2.1, .int .i64 m.2.2.2] 42)) = w1 at b1 h1 ⊢
  have CI := Lib.hid (indexG_any (.slice ua l.length uc) l (fun x => sameT x.2.2.1 m.2.2.1) 90 #[.pointer (some ⟨w.heap.size + 1, 0, none⟩)] (enters_of Tryd.func90 (by kernel_rfl) rfl) w1 hl (HV.out.below b1) (fun W x _ hb => elderC_any x m.2.2.1 (w.heap.size + 1) W (cell_of_heap (((hb.block _ (Array.getElem?_eq_some_iff.1 h1).1)).trans h1) 2)))
  have B1 := Lib.hid b1
  clear b1 h1 s1
  go_wp2_with fail
  refine CI.out.mono ?_
  rintro e w2 ⟨z, rfl, hz, hb⟩
  have HB := Lib.hid (below_end B1.out hb)
  have HZ : Hid (z = idxN (sameAt l m.2.2.1 0 l.length)) := Lib.hid (by
    rcases hz with ⟨rfl, hz⟩ | ⟨k, rfl, hk, hp, hn⟩
    · rw [sameAt_none l.length 0 (by omega) (fun j _ _ h3 => hz _ (List.getElem_mem h3))]; rfl
    · rw [sameAt_some hk hp l.length 0 (Nat.zero_le _) (by omega) (fun j _ h3 _ => hn j h3)]; rfl)
  clear hb hz CI B1
  go_wp2
  go_ret
  exact ⟨by rw [← HZ.out]; rfl, HB.out⟩

end Go.Proofs.YtgmlohgfkbjmlaaDoor
