/- The walk of impl.TrieOk. -/
import Derived.Test.YtmfbffhbgelnnaaGreatDoorZILinked
set_option linter.unusedSimpArgs false
set_option linter.unusedVariables false
namespace Go.Proofs.YtmfbffhbgelnnaaGreatDoor
open Go.RowKit

theorem implTrieOk_any (v : Value) (l : List KnotM) (m : Int) (w : World) (hl : KSmall l) (hv : KnotsAt w v l) (hm : w.cell? ⟨0, 0, none⟩ = some (.int .i64 m)) :
    Calls Tryz.prog 89 #[v] w fun e w' => e = .returned (.bool (trieB l)) ∧ Below w.heap.size w w' := by
  have c := linked_any v l m w hl hv hm
  have hv2 := hv
  obtain ⟨a, cp, rfl, _, _, _⟩ := hv2
  have C := Lib.hid c
  clear c hv hm hl
  go_enter Tryz.func89, Tryz.ntmps89
  go_wp2_with fail
  refine C.out.mono ?_
  rintro e w1 ⟨hL, hb⟩
  have HB := Lib.hid hb
  rcases hL with ⟨ht, rfl⟩ | ⟨ht, T, x, rfl, _⟩
  · have HT := Lib.hid ht
    clear ht hb
    go_wp2
    go_ret
    exact ⟨ret_bool HT.out.symm, HB.out⟩
  · have HT := Lib.hid ht
    clear ht hb
    go_wp2
    go_ret
    exact ⟨ret_bool HT.out.symm, HB.out⟩

end Go.Proofs.YtmfbffhbgelnnaaGreatDoor
