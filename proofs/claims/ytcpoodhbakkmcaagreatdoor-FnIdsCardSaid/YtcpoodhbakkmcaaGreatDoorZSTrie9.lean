/- The walk of the reference's IdsFor. -/
import Derived.Test.YtcpoodhbakkmcaaGreatDoorZB6
import Derived.Test.YtcpoodhbakkmcaaGreatDoorZSTrie6
import Derived.Test.YtcpoodhbakkmcaaGreatDoorZB2
import Derived.Test.YtcpoodhbakkmcaaGreatDoorZSTrie2
set_option linter.unusedSimpArgs false
set_option linter.unusedVariables false
namespace Go.Proofs.YtcpoodhbakkmcaaGreatDoor
open Go.RowKit
set_option maxRecDepth 100000 in
set_option maxHeartbeats 3200000 in
theorem specIds_any (v : Value) (l : List KnotM) (t : ByteArray) (w : World) (hl : KSmall l) (hts : t.size ≤ 1048576) (hv : KnotsAt w v l) :
    Calls Tryz.prog 14 #[v, .string t] w fun e w' => ∃ u, e = .returned u ∧ w'.ownsRow w.heap.size 2 1 u (idsL l t).length (ints (idsL l t)) ∧ Below w.heap.size w w' := by
  have hA : Below w.heap.size w (w.alloc (.cells #[] 2)) := (Below.refl _ _).alloc (Nat.le_refl _) _
  have CT := Lib.hid (specTrieOk_any v l _ hl (hv.below hA))
  have hl1 := hl.1
  have HL := Lib.hid hl.2
  have HOW := Lib.hid (own_lit_empty w)
  have HA := Lib.hid hA
  obtain ⟨a, c, rfl, hc1, hc2, hc3⟩ := hv
  clear hl hA
  cases ht : trieB l
  · have HT : Hid (idsL l t = []) := Lib.hid (by rw [idsL, ht]; rfl)
    rw [ht] at CT
    clear ht hc3
    go_enter Tryz.func14, Tryz.ntmps14
    go_wp2_with fail
    refine CT.out.mono ?_
    rintro e w1 ⟨rfl, hb⟩
    have HB := Lib.hid (below_end HA.out hb)
    have HO := Lib.hid (row_below HOW.out hb)
    clear hb
    go_wp2
    go_ret
    rw [HT.out]
    exact ⟨_, rfl, HO.out, HB.out⟩
  · have hpos : 0 < l.length := by
      cases l with
      | nil => cases ht
      | cons => simp
    obtain ⟨b, o, rfl, hin⟩ : ∃ b o, a = some ⟨b, o, none⟩ ∧ KnotsIn w b o l := by
      rcases hc3 with h | h
      · subst h; simp at hpos
      · exact h
    have HTT := Lib.hid ht
    have HT : Hid (idsL l t = idsTo l t l.length) := Lib.hid (by rw [idsL, ht, idsTo, List.take_length]; rfl)
    have HIN := Lib.hid hin
    rw [ht] at CT
    clear ht hc3 hin
    go_enter Tryz.func14, Tryz.ntmps14
    go_wp2_with fail
    refine CT.out.mono ?_
    rintro e w1 ⟨rfl, hb⟩
    have HB := Lib.hid (below_end HA.out hb)
    have HO := Lib.hid (row_below HOW.out hb)
    clear hb CT HOW HA
    go_wp2
    go_loopw [5, 6] (fun s5 s6 wr => ∃ k : Nat, 1 ≤ k ∧ k ≤ l.length ∧ s6 = .int .i64 k ∧ Hid (wr.ownsRow w.heap.size 2 1 s5 (idsTo l t k).length (ints (idsTo l t k))) ∧ Hid (rises (idsTo l t k) = true) ∧ Hid (Below w.heap.size w wr)) (fun _ s6 _ => l.length - (intOf s6).toNat)
    case atStart => exact ⟨1, Nat.le_refl _, hpos, rfl, Lib.hid (by
      have e : idsTo l t 1 = [] := by unfold idsTo; rw [List.drop_of_length_le (by rw [List.length_take]; omega)]; rfl
      rw [e]; exact HO.out), Lib.hid (by
      have e : idsTo l t 1 = [] := by unfold idsTo; rw [List.drop_of_length_le (by rw [List.length_take]; omega)]; rfl
      rw [e]; rfl), HB⟩
    case round =>
      obtain ⟨k, hk1, hk, rfl, HOO, HRR, HBW⟩ := hrel
      by_cases hlt : k < l.length
      · have HNX := Lib.hid (idsTo_next (t := t) hlt hk1)
        have HKR := Lib.hid (fun x hx => (rises_pair.1 (knot_rises HTT.out hlt hk1)).1 x hx)
        have hsz := HL.out _ (List.getElem_mem hlt)
        have HIK := Lib.hid (HIN.out k hlt)
        obtain ⟨O, hO⟩ : ∃ O, idsTo l t k = O := ⟨_, rfl⟩
        obtain ⟨p, ids, hx⟩ : ∃ p ids, l[k] = (p, ids) := ⟨_, _, rfl⟩
        rw [hO] at HOO HRR HNX
        rw [hx] at HNX HKR hsz HIK
        have hps := hsz.1
        have his := hsz.2
        clear hO hx hsz
        obtain ⟨wo, hwo⟩ : ∃ wo : World, wo = wr := ⟨_, rfl⟩
        subst hwo
        have HP0 := Lib.hid HIK.out.1
        obtain ⟨u, hu0, hids0⟩ := HIK.out.2
        have hids2 := hids0
        obtain ⟨ua, uc, rfl, _, _, _⟩ := hids2
        have HU0 := Lib.hid hu0
        have HID0 := Lib.hid hids0
        have hbw : b < w.heap.size := World.block_lt_of_cell? _ _ hu0
        clear hu0 hids0 HIK
        have hsw := HBW.out.size
        cases hmb : matchB p t
        · have HN : Hid (idsTo l t (k + 1) = O) := Lib.hid (by rw [HNX.out, idsStep, hmb]; rfl)
          have CM := Lib.hid (fun wx => specMatches_any p t wx hps hts)
          rw [hmb] at CM
          clear hmb HNX
          go_wp2
          go_loopw [5, 7] (fun s5 s7 wr => s7 = .int .i64 0 ∧ Hid (wr.ownsRow w.heap.size 2 1 s5 O.length (ints O)) ∧ Hid (Below w.heap.size w wr)) (fun _ s7 _ => (intOf s7).toNat)
          case atStart => exact ⟨rfl, HOO, HBW⟩
          case round =>
            obtain ⟨rfl, HO2, HB2⟩ := hrel
            have hp := (HB2.out.cell hbw).trans HP0.out
            have hu := (HB2.out.cell hbw).trans HU0.out
            by_cases h0 : 0 < ids.length
            · go_wp2_with (go_at_call 10; refine (CM.out _).mono ?_; rintro e w3 ⟨rfl, hb3⟩; have HB3 := Lib.hid (below_end HB2.out hb3); have HO3 := Lib.hid (row_below HO2.out hb3); clear hb3)
              go_roundw
              case rel => exact ⟨k + 1, by omega, by omega, by go_num, by rw [HN.out]; exact HO3, by rw [HN.out]; exact HRR, HB3⟩
              case measure => simp [intOf]; omega
            · go_wp2
              go_roundw
              case rel => exact ⟨k + 1, by omega, by omega, by go_num, by rw [HN.out]; exact HO2, by rw [HN.out]; exact HRR, HB2⟩
              case measure => simp [intOf]; omega
        · have HN : Hid (idsTo l t (k + 1) = ids.foldl addId O) := Lib.hid (by rw [HNX.out, idsStep, hmb]; rfl)
          have CM := Lib.hid (fun wx => specMatches_any p t wx hps hts)
          rw [hmb] at CM
          clear hmb HNX
          go_wp2
          go_loopw [5, 7] (fun s5 s7 wr => ∃ j : Nat, j ≤ ids.length ∧ s7 = .int .i64 j ∧ Hid (wr.ownsRow w.heap.size 2 1 s5 ((ids.take j).foldl addId O).length (ints ((ids.take j).foldl addId O))) ∧ Hid (rises ((ids.take j).foldl addId O) = true) ∧ Hid (Below w.heap.size w wr)) (fun _ s7 _ => ids.length - (intOf s7).toNat)
          case atStart => exact ⟨0, Nat.zero_le _, rfl, HOO, HRR, HBW⟩
          case round =>
            obtain ⟨j, hj, rfl, HO2, HR2, HB2⟩ := hrel
            have hp := (HB2.out.cell hbw).trans HP0.out
            have hu := (HB2.out.cell hbw).trans HU0.out
            by_cases hjl : j < ids.length
            · have HQ := Lib.hid (show (ids.take (j + 1)).foldl addId O = addId ((ids.take j).foldl addId O) ids[j] by rw [List.take_succ_eq_append_getElem hjl, List.foldl_append]; rfl)
              have hxo := HKR.out _ (List.getElem_mem hjl)
              obtain ⟨X, hX⟩ : ∃ X, (ids.take j).foldl addId O = X := ⟨_, rfl⟩
              rw [hX] at HO2 HR2 HQ
              have HXR := Lib.hid (addId_rises HR2.out hxo)
              have hXl := rises_short HR2.out
              obtain ⟨ib, io, rfl, hii⟩ : ∃ ib io, ua = some ⟨ib, io, none⟩ ∧ IntsIn w ib io ids := by
                obtain ⟨_, _, e, _, _, h⟩ := HID0.out
                cases e
                rcases h with h | h
                · rw [h] at hjl; simp at hjl
                · exact h
              have hicell0 := hii j hjl
              have hib : ib < w.heap.size := World.block_lt_of_cell? _ _ hicell0
              have hic := (HB2.out.cell hib).trans hicell0
              obtain ⟨x, hx⟩ : ∃ x, ids[j] = x := ⟨_, rfl⟩
              rw [hx] at hic hicell0 HQ HXR
              have HIC0 := Lib.hid hicell0
              obtain ⟨xa, xc, hs5⟩ := own_slice HO2.out
              subst hs5
              clear hii hx hX hxo hicell0
              cases hhs : hasId X x
              · have HQ2 : Hid ((ids.take (j + 1)).foldl addId O = into X x) := Lib.hid (by rw [HQ.out, addId, hhs]; rfl)
                have HXR2 : Hid (rises (into X x) = true) := Lib.hid (by have := HXR.out; rw [addId, hhs] at this; exact this)
                have HHS := Lib.hid hhs
                clear hhs HQ HXR
                go_wp2_with (go_at_call 10; refine (CM.out _).mono ?_; rintro e w3 ⟨rfl, hb3⟩; have HB3 := Lib.hid (below_end HB2.out hb3); have HO3 := Lib.hid (row_below HO2.out hb3); have hu3 := (HB3.out.cell hbw).trans HU0.out; have hic3 := (HB3.out.cell hib).trans HIC0.out; clear hb3)
                refine (specHas_any _ X x w3 (by omega) (own_ints_at HO3.out)).mono ?_
                rw [HHS.out]
                rintro e w4 ⟨rfl, rfl⟩
                go_wp2_with fail
                refine (specInto_any _ X x w.heap.size w4 (by omega) HO3.out).mono ?_
                rintro e w5 ⟨u, rfl, ho, hb5⟩
                have HO5 := Lib.hid (own_mono ho HB3.out.size)
                have HB5 := Lib.hid (below_end HB3.out hb5)
                clear ho hb5
                go_wp2
                go_roundw
                case rel => exact ⟨j + 1, by omega, by go_num, by rw [HQ2.out, into_length]; exact HO5, by rw [HQ2.out]; exact HXR2, HB5⟩
                case measure => simp [intOf]; omega
              · have HQ2 : Hid ((ids.take (j + 1)).foldl addId O = X) := Lib.hid (by rw [HQ.out, addId, hhs]; rfl)
                have HHS := Lib.hid hhs
                clear hhs HQ HXR
                go_wp2_with (go_at_call 10; refine (CM.out _).mono ?_; rintro e w3 ⟨rfl, hb3⟩; have HB3 := Lib.hid (below_end HB2.out hb3); have HO3 := Lib.hid (row_below HO2.out hb3); have hu3 := (HB3.out.cell hbw).trans HU0.out; have hic3 := (HB3.out.cell hib).trans HIC0.out; clear hb3)
                refine (specHas_any _ X x w3 (by omega) (own_ints_at HO3.out)).mono ?_
                rw [HHS.out]
                rintro e w4 ⟨rfl, rfl⟩
                go_wp2
                go_roundw
                case rel => exact ⟨j + 1, by omega, by go_num, by rw [HQ2.out]; exact HO3, by rw [HQ2.out]; exact HR2, HB3⟩
                case measure => simp [intOf]; omega
            · obtain rfl : j = ids.length := by omega
              rw [List.take_length] at HO2 HR2
              go_wp2
              go_roundw
              case rel => exact ⟨k + 1, by omega, by omega, by go_num, by rw [HN.out]; exact HO2, by rw [HN.out]; exact HR2, HB2⟩
              case measure => simp [intOf]; omega
      · obtain rfl : k = l.length := by omega
        go_wp2
        go_ret
        rw [HT.out]
        exact ⟨_, rfl, HOO.out, HBW.out⟩


end Go.Proofs.YtcpoodhbakkmcaaGreatDoor
