/- The walk of the reference's Matches. -/
import Derived.Test.YthfhpihbolggcaaDoorSFilter
import Derived.Test.YthfhpihbolggcaaDoorMatch
import Derived.BigQuiet
import Derived.Deep.QuietTactic
namespace Go.Proofs.YthfhpihbolggcaaDoor
open Go.RowKit

set_option maxHeartbeats 1600000 in
theorem specMatches_any (f t : ByteArray) (w : World) (hf : f.size ≤ 1048576) (ht : t.size ≤ 1048576) :
    Calls Tryd.prog 24 #[.string f, .string t] w fun e w' => e = .returned (.bool (matchB f t)) ∧ Below w.heap.size w w' := by
  have c1 := specFilter_any f w hf
  have C2 := Lib.hid (fun w => specTopic_any t w ht)
  have C3 := Lib.hid (fun w => specParts_any f w hf)
  have C4 := Lib.hid (fun w => specParts_any t w ht)
  have hpf := parts_pos f 47
  have hpt := parts_pos t 47
  have hlf := parts_le f 47
  have hlt := parts_le t 47
  have HB : Hid (matchB f t = (filterP (parts f 47) && topicP (parts t 47) && matchP (parts f 47) (parts t 47))) := rfl
  obtain ⟨F, hF⟩ : ∃ F, parts f 47 = F := ⟨_, rfl⟩
  obtain ⟨T, hT⟩ : ∃ T, parts t 47 = T := ⟨_, rfl⟩
  rw [hF] at c1 C3 hpf hlf HB
  rw [hT] at C2 C4 hpt hlt HB
  clear hF hT
  obtain ⟨bf, hbf⟩ : ∃ b, filterP F = b := ⟨_, rfl⟩
  obtain ⟨bt, hbt⟩ : ∃ b, topicP T = b := ⟨_, rfl⟩
  rw [hbf] at c1 HB
  rw [hbt] at C2 HB
  clear hbf hbt
  cases bf
  · go_enter Tryd.func24, Tryd.ntmps24
    go_wp2_with fail
    refine c1.mono ?_
    rintro e w1 ⟨rfl, b1⟩
    have B1 := Lib.hid b1
    clear b1 c1
    go_wp2
    go_ret
    exact ⟨ret_bool (by rw [HB.out]; rfl), B1.out⟩
  · cases bt
    · go_enter Tryd.func24, Tryd.ntmps24
      go_wp2_with fail
      refine c1.mono ?_
      rintro e w1 ⟨rfl, b1⟩
      have B1 := Lib.hid b1
      clear b1 c1
      go_wp2_with fail
      refine (C2.out w1).mono ?_
      rintro e w2 ⟨rfl, b2⟩
      have B2 := Lib.hid (B1.out.trans (b2.mono B1.out.size))
      clear b2 B1
      go_wp2
      go_ret
      exact ⟨ret_bool (by rw [HB.out]; rfl), B2.out⟩
    · go_enter Tryd.func24, Tryd.ntmps24
      go_wp2_with fail
      refine c1.mono ?_
      rintro e w1 ⟨rfl, b1⟩
      have B1 := Lib.hid b1
      clear b1 c1
      go_wp2_with fail
      refine (C2.out w1).mono ?_
      rintro e w2 ⟨rfl, b2⟩
      have B2 := Lib.hid (B1.out.trans (b2.mono B1.out.size))
      clear b2 B1
      go_wp2_with fail
      refine (C3.out w2).mono ?_
      rintro e w3 ⟨v3, rfl, o3, b3⟩
      obtain ⟨gf, cf, rfl, _, hgf, hcf, _⟩ := row_open o3 hpf
      have HCF := Lib.hid hcf
      have B3 := Lib.hid (B2.out.trans (b3.mono B2.out.size))
      clear b3 B2 o3 hcf
      go_wp2_with fail
      refine (C4.out w3).mono ?_
      rintro e w4 ⟨v4, rfl, o4, b4⟩
      obtain ⟨gt, ct, rfl, _, hgt, hct, _⟩ := row_open o4 hpt
      have HCT := Lib.hid hct
      have HCF2 : Hid (∀ j (hj : j < F.length), w4.cell? ⟨gf, j, none⟩ = some (.string F[j])) := Lib.hid (fun j hj => (below_cell b4 hgf).trans (HCF.out j hj))
      have hgf4 : gf < w4.heap.size := Nat.lt_of_lt_of_le hgf b4.size
      have B4 := Lib.hid (B3.out.trans (b4.mono B3.out.size))
      clear b4 B3 o4 hct HCF C2 C3 C4
      go_wp2_with fail
      go_loopw [7] (fun i wr => ∃ k : Nat, k ≤ F.length ∧ k ≤ T.length ∧ i = .int .i64 k ∧ Hid (matchP F T = matchP (F.drop k) (T.drop k)) ∧ Hid (Below w4.heap.size w4 wr)) (fun i _ => F.length - (intOf i).toNat)
      case atStart => exact ⟨0, Nat.zero_le _, Nat.zero_le _, rfl, rfl, Below.refl _ _⟩
      case round =>
        obtain ⟨k, hkF, hkT, rfl, HM, HW⟩ := hrel
        by_cases hk : k < F.length
        · have hp := (below_cell HW.out hgf4).trans (HCF2.out k hk)
          cases hA : isHash F[k]
          · have hA2 : (F[k].toList == [35]) = false := hA
            by_cases hk2 : k < T.length
            · have hq := (below_cell HW.out hgt).trans (HCT.out k hk2)
              have hi1 : (k : Int) < (T.length : Int) := by omega
              have hi2 : decide (T.length ≤ k) = false := decide_eq_false (by omega)
              have HIN := Lib.hid (matchP_in hk hk2 hA)
              obtain ⟨p, hpp⟩ : ∃ p, F[k] = p := ⟨_, rfl⟩
              obtain ⟨q, hqq⟩ : ∃ q, T[k] = q := ⟨_, rfl⟩
              rw [hpp] at hp hA2 HIN
              rw [hqq] at hq HIN
              clear hpp hqq hA
              cases hP : isPlus p
              · have hP2 : (p.toList == [43]) = false := hP
                have hP3 : (!(p.toList == [43])) = true := by rw [hP2]; rfl
                cases hQ : alike p q
                · have hQ2 : (p.toList == q.toList) = false := hQ
                  have hQ3 : (!(p.toList == q.toList)) = true := by rw [hQ2]; rfl
                  have HE : Hid (matchP F T = false) := Lib.hid (by rw [HM.out, HIN.out, hP, hQ]; rfl)
                  clear hP hQ HIN HM
                  go_wp2_with fail
                  go_quiet (fail)
                  go_wp2
                  go_ret
                  exact ⟨ret_bool (by rw [HB.out, HE.out]; rfl), below_drewN (below_end B4.out HW.out) _⟩
                · have hQ2 : (p.toList == q.toList) = true := hQ
                  have hQ3 : (!(p.toList == q.toList)) = false := by rw [hQ2]; rfl
                  have HN : Hid (matchP F T = matchP (F.drop (k + 1)) (T.drop (k + 1))) := Lib.hid (by rw [HM.out, HIN.out, hP, hQ]; rfl)
                  clear hP hQ HIN HM
                  go_wp2_with fail
                  go_quiet (fail)
                  go_wp2
                  go_roundw
                  case rel => exact ⟨k + 1, by omega, by omega, by go_num, HN, below_drewN HW.out _⟩
                  case measure => simp [intOf]; omega
              · have hP2 : (p.toList == [43]) = true := hP
                have hP3 : (!(p.toList == [43])) = false := by rw [hP2]; rfl
                have HN : Hid (matchP F T = matchP (F.drop (k + 1)) (T.drop (k + 1))) := Lib.hid (by rw [HM.out, HIN.out, hP]; rfl)
                clear hP HIN HM
                go_wp2_with fail
                go_quiet (fail)
                go_wp2
                go_roundw
                case rel => exact ⟨k + 1, by omega, by omega, by go_num, HN, below_drewN HW.out _⟩
                case measure => simp [intOf]; omega
            · have HE : Hid (matchP F T = false) := Lib.hid (by rw [HM.out, matchP_out hk hA (by omega)])
              have hi2 : decide (T.length ≤ k) = true := decide_eq_true (by omega)
              obtain ⟨p, hpp⟩ : ∃ p, F[k] = p := ⟨_, rfl⟩
              rw [hpp] at hp hA2
              clear hpp hA HM
              go_wp2_with fail
              go_quiet (fail)
              go_wp2
              go_ret
              exact ⟨ret_bool (by rw [HB.out, HE.out]; rfl), below_drewN (below_end B4.out HW.out) _⟩
          · have hA2 : (F[k].toList == [35]) = true := hA
            have HE : Hid (matchP F T = true) := Lib.hid (by rw [HM.out, matchP_hash hk hA])
            obtain ⟨p, hpp⟩ : ∃ p, F[k] = p := ⟨_, rfl⟩
            rw [hpp] at hp hA2
            clear hpp hA HM
            go_wp2
            go_ret
            exact ⟨ret_bool (by rw [HB.out, HE.out]; rfl), below_end B4.out HW.out⟩
        · obtain rfl : k = F.length := by omega
          have HE : Hid (matchP F T = decide (F.length = T.length)) := Lib.hid (by rw [HM.out, matchP_end F T _ (Nat.le_refl _) hkT])
          clear HM
          go_wp2
          go_ret
          exact ⟨ret_bool (by rw [HB.out, HE.out]; grind), below_end B4.out HW.out⟩

end Go.Proofs.YthfhpihbolggcaaDoor
