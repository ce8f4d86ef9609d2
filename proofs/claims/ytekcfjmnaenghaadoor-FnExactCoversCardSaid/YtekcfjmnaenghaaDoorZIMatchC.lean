/- The walk of impl.Covers. -/
import Derived.Test.YtekcfjmnaenghaaDoorZIMatch
set_option linter.unusedSimpArgs false
set_option linter.unusedVariables false
namespace Go.Proofs.YtekcfjmnaenghaaDoor
open Go.RowKit Go.Shelf

attribute [local go_sem] Oper.semAt_some

set_option maxRecDepth 100000 in
set_option maxHeartbeats 1600000 in
theorem implCovers_any (f t : ByteArray) (m : Int) (w : World) (hf : f.size ≤ 1048576) (ht : t.size ≤ 1048576) (hm : w.cell? ⟨0, 0, none⟩ = some (.int .i64 m)) :
    Calls Tryd.prog 12 #[.string f, .string t] w fun e w' => e = .returned (.bool (coverB f t)) ∧ Below w.heap.size w w' := by
  have hlt : 0 < w.heap.size := World.block_lt_of_cell? _ _ hm
  have c1 := implFilter_any f m w hf hm
  have C2 := Lib.hid (fun w' h => implFilter_any t m w' ht h)
  have HM := Lib.hid hm
  obtain ⟨bf, hbf⟩ : ∃ b, filterP (parts f 47) = b := ⟨_, rfl⟩
  obtain ⟨bt, hbt⟩ : ∃ b, filterP (parts t 47) = b := ⟨_, rfl⟩
  rw [hbf] at c1
  rw [hbt] at C2
  have HF := Lib.hid hbf
  have HT := Lib.hid hbt
  clear hm hbf hbt
  cases bf
  · go_enter Tryd.func12, Tryd.ntmps12
    go_wp2_with fail
    refine c1.mono ?_
    rintro e w1 ⟨rfl, b1⟩
    clear c1
    go_wp2
    go_ret
    exact ⟨ret_bool (by rw [coverB, HF.out]; rfl), b1⟩
  · cases bt
    · go_enter Tryd.func12, Tryd.ntmps12
      go_wp2_with fail
      refine c1.mono ?_
      rintro e w1 ⟨rfl, b1⟩
      have B1 := Lib.hid b1
      clear c1 b1
      go_wp2_with fail
      refine (C2.out w1 ((B1.out.cell hlt).trans HM.out)).mono ?_
      rintro e w2 ⟨rfl, b2⟩
      have B2 := Lib.hid (below_end B1.out b2)
      clear b2 B1
      go_wp2
      go_ret
      exact ⟨ret_bool (by rw [coverB, HF.out, HT.out]; rfl), B2.out⟩
    · have C3 := Lib.hid (fun w' h => coversBy_any f t _ _ rfl rfl _ (runC_cover _ _ (filterP_good HF.out) (filterP_good HT.out)) m w' hf ht h)
      have HE : Hid (coverB f t = coverP (parts f 47) (parts t 47)) := Lib.hid (by rw [coverB, HF.out, HT.out]; rfl)
      obtain ⟨r, hr⟩ : ∃ r, coverP (parts f 47) (parts t 47) = r := ⟨_, rfl⟩
      rw [hr] at C3 HE
      clear hr HF HT
      go_enter Tryd.func12, Tryd.ntmps12
      go_wp2_with fail
      refine c1.mono ?_
      rintro e w1 ⟨rfl, b1⟩
      have B1 := Lib.hid b1
      clear c1 b1
      go_wp2_with fail
      refine (C2.out w1 ((B1.out.cell hlt).trans HM.out)).mono ?_
      rintro e w2 ⟨rfl, b2⟩
      have B2 := Lib.hid (below_end B1.out b2)
      clear b2 B1 C2
      go_wp2_with fail
      refine (C3.out w2 ((B2.out.cell hlt).trans HM.out)).mono ?_
      rintro e w3 ⟨rfl, b3⟩
      have B3 := Lib.hid (below_end B2.out b3)
      clear b3 B2 C3
      go_wp2
      go_ret
      exact ⟨ret_bool HE.out.symm, B3.out⟩

end Go.Proofs.YtekcfjmnaenghaaDoor
