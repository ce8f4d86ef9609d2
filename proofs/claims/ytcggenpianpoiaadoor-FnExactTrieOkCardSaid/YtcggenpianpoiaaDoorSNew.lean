/- The walk of the reference's NewTrie. -/
import Derived.Test.YtcggenpianpoiaaDoorOwn
import Derived.Deep.RegionHeld
namespace Go.Proofs.YtcggenpianpoiaaDoor
open Go.RowKit

theorem specNewTrie_any (w : World) :
    Calls Tryd.prog 91 #[] w fun e w' => ∃ u, e = .returned u ∧ KOwn w' w.heap.size u [knotZ] ∧ Below w.heap.size w w' := by
  have HO := Lib.hid (World.ownsRow_lit (base := w.heap.size) (e := 60) (size := 2) w #[.string knotZ.1, .slice none 0 0] 1 (Nat.le_refl _) (by unfold maxLen; omega) rfl)
  go_enter Tryd.func91, Tryd.ntmps91
  go_wp2
  go_ret
  exact ⟨_, rfl, ⟨[.slice none 0 0], rfl, HO.out, fun j h1 h2 => by
    obtain rfl : j = 0 := by simpa using h1
    exact World.ownsRow_nil _ _ _ _, by
    rw [List.pairwise_cons]
    exact ⟨fun a ha => by rw [List.mem_singleton.1 ha]; exact .inr (by intro h; cases h), List.pairwise_singleton _ _⟩⟩, (Below.refl _ _).alloc (Nat.le_refl _) _⟩

end Go.Proofs.YtcggenpianpoiaaDoor
