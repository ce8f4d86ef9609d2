/- The walk of the reference's WithId. -/
import Derived.Test.YtmfbffhbgelnnaaGreatDoorZSTrie7
import Derived.Test.YtmfbffhbgelnnaaGreatDoorZSTrie2
import Derived.Test.YtmfbffhbgelnnaaGreatDoorZB8
set_option linter.unusedSimpArgs false
set_option linter.unusedVariables false
namespace Go.Proofs.YtmfbffhbgelnnaaGreatDoor
open Go.RowKit

set_option maxRecDepth 100000 in
set_option maxHeartbeats 6400000 in
theorem specWith_any (v : Value) (l : List KnotM) (f : ByteArray) (id : Int) (w : World) (hl : KSmall l) (hfs : f.size ≤ 1048576) (hv : KnotsAt w v l) :
    Calls Tryz.prog 35 #[v, .string f, .int .i64 id] w fun e w' => ∃ u, e = .returned (.tuple #[u, .bool (withL l f id).2]) ∧ KOwn w' w.heap.size u (withL l f id).1 ∧ Below w.heap.size w w' := by
  have HV := Lib.hid hv
  have CT := Lib.hid (specTrieOk_any v l w hl hv)
  have hl1 := hl.1
  have HL := Lib.hid hl.2
  obtain ⟨a, c, rfl, hc1, hc2, hc3⟩ := hv
  clear hl
  cases ht : trieB l
  · have HT : Hid (withL l f id = ([], false)) := Lib.hid (by rw [withL, ht]; rfl)
    rw [ht] at CT
    clear ht hc3
    go_enter Tryz.func35, Tryz.ntmps35
    go_wp2_with fail
    refine CT.out.mono ?_
    rintro e w1 ⟨rfl, hb⟩
    have HB := Lib.hid hb
    clear hb
    go_wp2
    go_ret2
    rw [HT.out]
    refine ⟨_, rfl, ⟨[], rfl, own_mono (World.ownsRow_lit (base := w1.heap.size) (e := 98) (size := 2) w1 #[] 0 (Nat.le_refl _) (by unfold maxLen; omega) rfl) HB.out.size, fun j h => by simp at h, List.pairwise_singleton _ _⟩, HB.out.alloc HB.out.size _⟩
  · have hpos : 0 < l.length := by
      cases l with
      | nil => cases ht
      | cons => simp
    obtain ⟨b, o, rfl, hin⟩ : ∃ b o, a = some ⟨b, o, none⟩ ∧ KnotsIn w b o l := by
      rcases hc3 with h | h
      · subst h; simp at hpos
      · exact h
    have HW : Hid (withL l f id = if badId l f id then (l, false) else (setIds (putsN f.size l f) (find (putsN f.size l f) f).toNat id, true)) := Lib.hid (by rw [withL, ht]; rfl)
    have HIN := Lib.hid hin
    have hbw : b < w.heap.size := World.block_lt_of_cell? _ _ (hin 0 hpos).1
    rw [ht] at CT
    clear ht hc3 hin
    have HCP := Lib.hid (fun wx (h : KnotsAt wx (.slice (some ⟨b, o, none⟩) l.length c) l) => specCopyT_any _ l wx (by omega) (fun x hx => (HL.out x hx).2) h)
    have HFD := Lib.hid (fun wx (h : KnotsAt wx (.slice (some ⟨b, o, none⟩) l.length c) l) => specFind_any _ l f wx (by omega) h)
    have HFO := Lib.hid (fun wx => specFilter_any f wx hfs)
    have HID := Lib.hid (fun wx => specId_any id wx)
    cases hfb : filterP (parts f 47)
    · have HR : Hid (withL l f id = (l, false)) := Lib.hid (by rw [HW.out, badId, hfb]; rfl)
      rw [hfb] at HFO
      obtain ⟨ft, hft⟩ : ∃ ft, find l f = ft := ⟨_, rfl⟩
      rw [hft] at HFD
      clear hfb HW hft
      go_enter Tryz.func35, Tryz.ntmps35
      go_wp2_with fail
      refine CT.out.mono ?_
      rintro e w1 ⟨rfl, hb1⟩
      have HB1 := Lib.hid hb1
      have hw1 := hb1.size
      have CC := Lib.hid (HCP.out w1 (HV.out.below hb1))
      clear hb1 CT HCP
      go_wp2_with fail
      refine CC.out.mono ?_
      rintro e w2 ⟨out, rfl, k2, hb2⟩
      have hw2 := hb2.size
      have HB2 := Lib.hid (below_end HB1.out hb2)
      have K2 := Lib.hid k2
      have CD := Lib.hid (HFD.out w2 (HV.out.below HB2.out))
      clear k2 hb2 CC HFD
      go_wp2_with fail
      refine CD.out.mono ?_
      rintro e w' ⟨rfl, rfl⟩
      clear CD
      go_wp2_with fail
      refine (HFO.out w2).mono ?_
      rintro e w3 ⟨rfl, hb3⟩
      have hw3 := hb3.size
      have HB3 := Lib.hid (below_end HB2.out hb3)
      have K3 := Lib.hid (k2c K2.out hb3)
      have HI3 := Lib.hid (HIN.out.below HB3.out)
      clear hb3 HB2 K2
      go_wp2
      go_ret2
      rw [HR.out]
      exact ⟨_, rfl, K3.out.mono hw1, HB3.out⟩
    · have HFN : Hid (f.toList ≠ []) := Lib.hid (fun e => by
        exact (filter_good hfb).2.2 (by rw [pth, if_pos (by rw [← Lib.toList_data]; exact e)]))
      rw [hfb] at HFO
      cases hib : idOk id
      · have HR : Hid (withL l f id = (l, false)) := Lib.hid (by rw [HW.out, badId, hfb, hib]; rfl)
        rw [hib] at HID
        obtain ⟨ft, hft⟩ : ∃ ft, find l f = ft := ⟨_, rfl⟩
        rw [hft] at HFD
        clear hfb HW hft hib
        go_enter Tryz.func35, Tryz.ntmps35
        go_wp2_with fail
        refine CT.out.mono ?_
        rintro e w1 ⟨rfl, hb1⟩
        have HB1 := Lib.hid hb1
        have hw1 := hb1.size
        have CC := Lib.hid (HCP.out w1 (HV.out.below hb1))
        clear hb1 CT HCP
        go_wp2_with fail
        refine CC.out.mono ?_
        rintro e w2 ⟨out, rfl, k2, hb2⟩
        have hw2 := hb2.size
        have HB2 := Lib.hid (below_end HB1.out hb2)
        have K2 := Lib.hid k2
        have CD := Lib.hid (HFD.out w2 (HV.out.below HB2.out))
        clear k2 hb2 CC HFD
        go_wp2_with fail
        refine CD.out.mono ?_
        rintro e w' ⟨rfl, rfl⟩
        clear CD
        go_wp2_with fail
        refine (HFO.out w2).mono ?_
        rintro e w3 ⟨rfl, hb3⟩
        have hw3 := hb3.size
        have HB3 := Lib.hid (below_end HB2.out hb3)
        have K3 := Lib.hid (k2c K2.out hb3)
        have HI3 := Lib.hid (HIN.out.below HB3.out)
        clear hb3 HB2 K2
        go_wp2_with (go_at_call 73; refine (HID.out _).mono ?_; rintro e w' ⟨rfl, rfl⟩)
        go_ret2
        rw [HR.out]
        exact ⟨_, rfl, K3.out.mono hw1, HB3.out⟩
      · rw [hib] at HID
        by_cases hat : 0 ≤ find l f
        · obtain ⟨j, hj, hjf, _⟩ := find_pos hat
          have HIX := Lib.hid (HIN.out j hj).2
          have CHS := Lib.hid (fun wx u (h : IntsAt wx u l[j].2) => specHas_any u l[j].2 id wx (by have := (HL.out _ (List.getElem_mem hj)).2; omega) h)
          rw [hjf] at HFD
          cases hh : hasId l[j].2 id
          · have HR : Hid (withL l f id = (setIds (putsN f.size l f) (find (putsN f.size l f) f).toNat id, true)) := Lib.hid (by
              rw [HW.out, badId, hfb, hib, decide_eq_true hat, hjf, Int.toNat_natCast, List.getD_eq_getElem?_getD, List.getElem?_eq_getElem hj]
              show (if (!true || (!true || (true && hasId l[j].2 id))) = true then _ else _) = _
              rw [hh]; rfl)
            rw [hh] at CHS
            clear hfb HW hib hat hjf hh
            go_enter Tryz.func35, Tryz.ntmps35
            go_wp2_with fail
            refine CT.out.mono ?_
            rintro e w1 ⟨rfl, hb1⟩
            have HB1 := Lib.hid hb1
            have hw1 := hb1.size
            have CC := Lib.hid (HCP.out w1 (HV.out.below hb1))
            clear hb1 CT HCP
            go_wp2_with fail
            refine CC.out.mono ?_
            rintro e w2 ⟨out, rfl, k2, hb2⟩
            have hw2 := hb2.size
            have HB2 := Lib.hid (below_end HB1.out hb2)
            have K2 := Lib.hid k2
            have CD := Lib.hid (HFD.out w2 (HV.out.below HB2.out))
            clear k2 hb2 CC HFD
            go_wp2_with fail
            refine CD.out.mono ?_
            rintro e w' ⟨rfl, rfl⟩
            clear CD
            go_wp2_with fail
            refine (HFO.out w2).mono ?_
            rintro e w3 ⟨rfl, hb3⟩
            have hw3 := hb3.size
            have HB3 := Lib.hid (below_end HB2.out hb3)
            have K3 := Lib.hid (k2c K2.out hb3)
            have HI3 := Lib.hid (HIN.out.below HB3.out)
            clear hb3 HB2 K2
            obtain ⟨hpj, u, hu, hids⟩ := HI3.out j hj
            have hids2 := hids
            obtain ⟨ua, uc, rfl, _, _, _⟩ := hids2
            have CH := Lib.hid (CHS.out _ _ hids)
            clear hids CHS hpj
            go_wp2_with (first | (go_at_call 73; refine (HID.out _).mono ?_; rintro e w' ⟨rfl, rfl⟩) | (go_at_call 74; refine CH.out.mono ?_; rintro e w' ⟨rfl, rfl⟩))
            clear CH hu HI3
            have HS0 : Hid (putsN f.size l f = putsN f.size l f) := Lib.hid rfl
            obtain ⟨R, hR⟩ : ∃ R, putsN f.size l f = R := ⟨_, rfl⟩
            have HRR := Lib.hid hR
            have HIS : Hid (IdsSmall l) := Lib.hid (fun x hx => (HL.out x hx).2)
            rw [hR] at HR
            clear hR HS0
            go_loopg [8, 10] f.size (fun n s8 s10 wr => ∃ (lk : List KnotM) (pk : ByteArray), s10 = .string pk ∧ pk.size ≤ n ∧ lk.length + pk.size ≤ l.length + f.size ∧ 0 < lk.length ∧ Hid (KOwn wr w1.heap.size s8 lk) ∧ Hid (putsN n lk pk = R) ∧ Hid (Below w.heap.size w wr) ∧ w1.heap.size ≤ wr.heap.size ∧ Hid (IdsSmall lk))
            case atStart => exact ⟨l, f, rfl, Nat.le_refl _, Nat.le_refl _, hpos, K3, HRR, HB3, by omega, HIS⟩
            case round =>
              obtain ⟨lk, pk, rfl, hpk, hlk, hlp, KO, HPN, HBW, hww, HSM⟩ := hrel
              obtain ⟨us, hus⟩ := KO.out
              have HU := Lib.hid hus
              clear hus KO
              by_cases hpe0 : pk.toList = []
              · have hpe : pk.toList.isEmpty = true := by rw [hpe0]; rfl
                have HLR : Hid (lk = R) := Lib.hid (by rw [← HPN.out, putsN_stop hpe0])
                have hfr : ∃ x ∈ R, x.1.toList = f.toList := by rw [← HRR.out]; exact putsN_has (size_pos HFN.out) HFN.out
                obtain ⟨j, hj, hjf, _⟩ := find_pos (find_from_mem f R 0 hfr)
                have HJF := Lib.hid hjf
                have hkn := HLR.out
                subst hkn
                clear hpe0 HPN hfr hjf HLR HRR
                obtain ⟨g, cg, cur, hv8, hgB, hhg⟩ := HU.out.cells hlp
                subst hv8
                have CF2 := Lib.hid (specFind_any _ lk f wr (by omega) (own_knots_at ⟨us, HU.out⟩))
                rw [HJF.out] at CF2
                have hju : j < us.length := by rw [HU.out.1]; exact hj
                have hcell := HU.out.2.1.cellAt (j * 2 + 1) (by omega)
                rw [kcells_ids lk us j hju HU.out.1] at hcell
                obtain ⟨ua, uc, huj⟩ := own_slice (HU.out.2.2.1 j hj hju)
                have CI := Lib.hid (specInto_any us[j] lk[j].2 id w1.heap.size wr (by have := HSM.out _ (List.getElem_mem hj); omega) (HU.out.2.2.1 j hj hju))
                have HUJ := Lib.hid huj
                rw [huj] at hcell CI
                have HHG := Lib.hid hhg
                clear hhg huj
                go_wp2_with fail
                refine CF2.out.mono ?_
                rintro e w' ⟨rfl, rfl⟩
                clear CF2
                go_wp2_with fail
                refine CI.out.mono ?_
                rintro e w5 ⟨u, rfl, ho, hb5⟩
                obtain ⟨xa, xc, hxu⟩ := own_slice ho
                subst hxu
                have hh5 := (hb5.block g (Array.getElem?_eq_some_iff.1 HHG.out).1).trans HHG.out
                have HU5 := Lib.hid ((HU.out.below hb5).setIds (z := into lk[j].2 id) (u := .slice xa (lk[j].2.length + 1) xc) rfl hj (by rw [into_length]; exact own_mono ho hww) (fun y hy => by
                  obtain ⟨i, hi, rfl⟩ := List.mem_iff_getElem.1 hy
                  cases e : (Value.slice xa (lk[j].2.length + 1) xc).ownBlock with
                  | none => exact .inl e
                  | some b => exact .inr (fun e2 => by have h1 := (ho.lt b e).1; have h2 := (HU.out.2.2.1 i (by rw [← HU.out.1]; exact hi) hi).lt b (by rw [← e2, e]); omega)))
                have hcell5 : w5.cell? ⟨g, j * 2 + 1, none⟩ = some (.slice ua lk[j].2.length uc) := (hb5.cell (Array.getElem?_eq_some_iff.1 HHG.out).1).trans hcell
                have hfree5 : w5.frozen? ⟨g, j * 2 + 1, none⟩ = false := by simp [World.frozen?, hh5]
                have HBF := Lib.hid ((below_end HBW.out hb5).setCell (p := ⟨g, j * 2 + 1, none⟩) (show w.heap.size ≤ g by omega) (.slice xa (lk[j].2.length + 1) xc))
                have e1 : setIds lk (find lk f).toNat id = lk.set j (lk[j].1, into lk[j].2 id) := by
                  rw [HJF.out, Int.toNat_natCast, setIds, List.getD_eq_getElem?_getD, List.getElem?_eq_getElem hj]; rfl
                have HKF : Hid (KOwn (w5.setCell ⟨g, j * 2 + 1, none⟩ (.slice xa (lk[j].2.length + 1) xc)) w1.heap.size (.slice (some ⟨g, 0, none⟩) lk.length cg) (setIds lk (find lk f).toNat id)) := Lib.hid (by rw [e1]; exact ⟨_, HU5.out⟩)
                clear hh5 hb5 ho CI e1
                go_wp2
                go_ret2
                rw [HR.out]
                exact ⟨_, rfl, HKF.out.mono hw1, HBF.out⟩
              · have hpe : pk.toList.isEmpty = false := by rw [List.isEmpty_eq_false_iff]; exact hpe0
                have hps := size_pos hpe0
                have hab := above_size pk
                obtain ⟨m, hm⟩ : ∃ m, gk = m + 1 := ⟨gk - 1, by omega⟩
                have HP2 : Hid (putsN m (put1 lk pk) (above pk) = R) := Lib.hid (by have := HPN.out; rw [hm, putsN, if_neg hpe0] at this; exact this)
                have HSM2 := Lib.hid (HSM.out.put (p := pk))
                have CP := Lib.hid (specPut_any u8 lk us pk w1.heap.size wr (by omega) hlp hww HU.out)
                have CA := Lib.hid (fun wx => specAbove_any pk wx (by unfold maxLen; omega))
                have hl1' := (put1_length lk pk).1
                have hl2' := (put1_length lk pk).2
                rw [show (if 0 ≤ find lk pk then lk else putK lk pk) = put1 lk pk from rfl] at CP
                obtain ⟨q, hq⟩ : ∃ q, above pk = q := ⟨_, rfl⟩
                obtain ⟨l2, hl2⟩ : ∃ l2, put1 lk pk = l2 := ⟨_, rfl⟩
                rw [hq] at hab HP2 CA
                rw [hl2] at hl1' hl2' HP2 CP HSM2
                have hm1 : m < gk := by omega
                have hqm : q.size ≤ m := by omega
                clear hq hl2 hpe0 HPN hm HU HSM
                go_wp2_with fail
                refine CP.out.mono ?_
                rintro e w5 ⟨u, rfl, k5, hb5⟩
                have K5 := Lib.hid k5
                have HB5 := Lib.hid (HBW.out.trans (hb5.mono hw1))
                have hw5 := hb5.size
                clear k5 hb5 CP
                go_wp2_with fail
                refine (CA.out _).mono ?_
                rintro e w' ⟨rfl, rfl⟩
                go_wp2
                go_roundg m
                case measure => exact hm1
                case rel => exact ⟨l2, q, rfl, hqm, by omega, by omega, K5, HP2, HB5, by omega, HSM2⟩
          · have HR : Hid (withL l f id = (l, false)) := Lib.hid (by
              rw [HW.out, badId, hfb, hib, decide_eq_true hat, hjf, Int.toNat_natCast, List.getD_eq_getElem?_getD, List.getElem?_eq_getElem hj]
              show (if (!true || (!true || (true && hasId l[j].2 id))) = true then _ else _) = _
              rw [hh]; rfl)
            rw [hh] at CHS
            clear hfb HW hib hat hjf hh
            go_enter Tryz.func35, Tryz.ntmps35
            go_wp2_with fail
            refine CT.out.mono ?_
            rintro e w1 ⟨rfl, hb1⟩
            have HB1 := Lib.hid hb1
            have hw1 := hb1.size
            have CC := Lib.hid (HCP.out w1 (HV.out.below hb1))
            clear hb1 CT HCP
            go_wp2_with fail
            refine CC.out.mono ?_
            rintro e w2 ⟨out, rfl, k2, hb2⟩
            have hw2 := hb2.size
            have HB2 := Lib.hid (below_end HB1.out hb2)
            have K2 := Lib.hid k2
            have CD := Lib.hid (HFD.out w2 (HV.out.below HB2.out))
            clear k2 hb2 CC HFD
            go_wp2_with fail
            refine CD.out.mono ?_
            rintro e w' ⟨rfl, rfl⟩
            clear CD
            go_wp2_with fail
            refine (HFO.out w2).mono ?_
            rintro e w3 ⟨rfl, hb3⟩
            have hw3 := hb3.size
            have HB3 := Lib.hid (below_end HB2.out hb3)
            have K3 := Lib.hid (k2c K2.out hb3)
            have HI3 := Lib.hid (HIN.out.below HB3.out)
            clear hb3 HB2 K2
            obtain ⟨hpj, u, hu, hids⟩ := HI3.out j hj
            have hids2 := hids
            obtain ⟨ua, uc, rfl, _, _, _⟩ := hids2
            have CH := Lib.hid (CHS.out _ _ hids)
            clear hids CHS hpj
            go_wp2_with (first | (go_at_call 73; refine (HID.out _).mono ?_; rintro e w' ⟨rfl, rfl⟩) | (go_at_call 74; refine CH.out.mono ?_; rintro e w' ⟨rfl, rfl⟩))
            go_ret2
            rw [HR.out]
            exact ⟨_, rfl, K3.out.mono hw1, HB3.out⟩
        · have HR : Hid (withL l f id = (setIds (putsN f.size l f) (find (putsN f.size l f) f).toNat id, true)) := Lib.hid (by
            rw [HW.out, badId, hfb, hib, decide_eq_false hat]; rfl)
          obtain ⟨ft, hft⟩ : ∃ ft, find l f = ft := ⟨_, rfl⟩
          rw [hft] at HFD hat
          have hat2 : ft < 0 := by omega
          clear hfb HW hib hat hft
          go_enter Tryz.func35, Tryz.ntmps35
          go_wp2_with fail
          refine CT.out.mono ?_
          rintro e w1 ⟨rfl, hb1⟩
          have HB1 := Lib.hid hb1
          have hw1 := hb1.size
          have CC := Lib.hid (HCP.out w1 (HV.out.below hb1))
          clear hb1 CT HCP
          go_wp2_with fail
          refine CC.out.mono ?_
          rintro e w2 ⟨out, rfl, k2, hb2⟩
          have hw2 := hb2.size
          have HB2 := Lib.hid (below_end HB1.out hb2)
          have K2 := Lib.hid k2
          have CD := Lib.hid (HFD.out w2 (HV.out.below HB2.out))
          clear k2 hb2 CC HFD
          go_wp2_with fail
          refine CD.out.mono ?_
          rintro e w' ⟨rfl, rfl⟩
          clear CD
          go_wp2_with fail
          refine (HFO.out w2).mono ?_
          rintro e w3 ⟨rfl, hb3⟩
          have hw3 := hb3.size
          have HB3 := Lib.hid (below_end HB2.out hb3)
          have K3 := Lib.hid (k2c K2.out hb3)
          have HI3 := Lib.hid (HIN.out.below HB3.out)
          clear hb3 HB2 K2
          go_wp2_with (go_at_call 73; refine (HID.out _).mono ?_; rintro e w' ⟨rfl, rfl⟩)
          have HS0 : Hid (putsN f.size l f = putsN f.size l f) := Lib.hid rfl
          obtain ⟨R, hR⟩ : ∃ R, putsN f.size l f = R := ⟨_, rfl⟩
          have HRR := Lib.hid hR
          have HIS : Hid (IdsSmall l) := Lib.hid (fun x hx => (HL.out x hx).2)
          rw [hR] at HR
          clear hR HS0
          go_loopg [8, 10] f.size (fun n s8 s10 wr => ∃ (lk : List KnotM) (pk : ByteArray), s10 = .string pk ∧ pk.size ≤ n ∧ lk.length + pk.size ≤ l.length + f.size ∧ 0 < lk.length ∧ Hid (KOwn wr w1.heap.size s8 lk) ∧ Hid (putsN n lk pk = R) ∧ Hid (Below w.heap.size w wr) ∧ w1.heap.size ≤ wr.heap.size ∧ Hid (IdsSmall lk))
          case atStart => exact ⟨l, f, rfl, Nat.le_refl _, Nat.le_refl _, hpos, K3, HRR, HB3, by omega, HIS⟩
          case round =>
            obtain ⟨lk, pk, rfl, hpk, hlk, hlp, KO, HPN, HBW, hww, HSM⟩ := hrel
            obtain ⟨us, hus⟩ := KO.out
            have HU := Lib.hid hus
            clear hus KO
            by_cases hpe0 : pk.toList = []
            · have hpe : pk.toList.isEmpty = true := by rw [hpe0]; rfl
              have HLR : Hid (lk = R) := Lib.hid (by rw [← HPN.out, putsN_stop hpe0])
              have hfr : ∃ x ∈ R, x.1.toList = f.toList := by rw [← HRR.out]; exact putsN_has (size_pos HFN.out) HFN.out
              obtain ⟨j, hj, hjf, _⟩ := find_pos (find_from_mem f R 0 hfr)
              have HJF := Lib.hid hjf
              have hkn := HLR.out
              subst hkn
              clear hpe0 HPN hfr hjf HLR HRR
              obtain ⟨g, cg, cur, hv8, hgB, hhg⟩ := HU.out.cells hlp
              subst hv8
              have CF2 := Lib.hid (specFind_any _ lk f wr (by omega) (own_knots_at ⟨us, HU.out⟩))
              rw [HJF.out] at CF2
              have hju : j < us.length := by rw [HU.out.1]; exact hj
              have hcell := HU.out.2.1.cellAt (j * 2 + 1) (by omega)
              rw [kcells_ids lk us j hju HU.out.1] at hcell
              obtain ⟨ua, uc, huj⟩ := own_slice (HU.out.2.2.1 j hj hju)
              have CI := Lib.hid (specInto_any us[j] lk[j].2 id w1.heap.size wr (by have := HSM.out _ (List.getElem_mem hj); omega) (HU.out.2.2.1 j hj hju))
              have HUJ := Lib.hid huj
              rw [huj] at hcell CI
              have HHG := Lib.hid hhg
              clear hhg huj
              go_wp2_with fail
              refine CF2.out.mono ?_
              rintro e w' ⟨rfl, rfl⟩
              clear CF2
              go_wp2_with fail
              refine CI.out.mono ?_
              rintro e w5 ⟨u, rfl, ho, hb5⟩
              obtain ⟨xa, xc, hxu⟩ := own_slice ho
              subst hxu
              have hh5 := (hb5.block g (Array.getElem?_eq_some_iff.1 HHG.out).1).trans HHG.out
              have HU5 := Lib.hid ((HU.out.below hb5).setIds (z := into lk[j].2 id) (u := .slice xa (lk[j].2.length + 1) xc) rfl hj (by rw [into_length]; exact own_mono ho hww) (fun y hy => by
                obtain ⟨i, hi, rfl⟩ := List.mem_iff_getElem.1 hy
                cases e : (Value.slice xa (lk[j].2.length + 1) xc).ownBlock with
                | none => exact .inl e
                | some b => exact .inr (fun e2 => by have h1 := (ho.lt b e).1; have h2 := (HU.out.2.2.1 i (by rw [← HU.out.1]; exact hi) hi).lt b (by rw [← e2, e]); omega)))
              have hcell5 : w5.cell? ⟨g, j * 2 + 1, none⟩ = some (.slice ua lk[j].2.length uc) := (hb5.cell (Array.getElem?_eq_some_iff.1 HHG.out).1).trans hcell
              have hfree5 : w5.frozen? ⟨g, j * 2 + 1, none⟩ = false := by simp [World.frozen?, hh5]
              have HBF := Lib.hid ((below_end HBW.out hb5).setCell (p := ⟨g, j * 2 + 1, none⟩) (show w.heap.size ≤ g by omega) (.slice xa (lk[j].2.length + 1) xc))
              have e1 : setIds lk (find lk f).toNat id = lk.set j (lk[j].1, into lk[j].2 id) := by
                rw [HJF.out, Int.toNat_natCast, setIds, List.getD_eq_getElem?_getD, List.getElem?_eq_getElem hj]; rfl
              have HKF : Hid (KOwn (w5.setCell ⟨g, j * 2 + 1, none⟩ (.slice xa (lk[j].2.length + 1) xc)) w1.heap.size (.slice (some ⟨g, 0, none⟩) lk.length cg) (setIds lk (find lk f).toNat id)) := Lib.hid (by rw [e1]; exact ⟨_, HU5.out⟩)
              clear hh5 hb5 ho CI e1
              go_wp2
              go_ret2
              rw [HR.out]
              exact ⟨_, rfl, HKF.out.mono hw1, HBF.out⟩
            · have hpe : pk.toList.isEmpty = false := by rw [List.isEmpty_eq_false_iff]; exact hpe0
              have hps := size_pos hpe0
              have hab := above_size pk
              obtain ⟨m, hm⟩ : ∃ m, gk = m + 1 := ⟨gk - 1, by omega⟩
              have HP2 : Hid (putsN m (put1 lk pk) (above pk) = R) := Lib.hid (by have := HPN.out; rw [hm, putsN, if_neg hpe0] at this; exact this)
              have HSM2 := Lib.hid (HSM.out.put (p := pk))
              have CP := Lib.hid (specPut_any u8 lk us pk w1.heap.size wr (by omega) hlp hww HU.out)
              have CA := Lib.hid (fun wx => specAbove_any pk wx (by unfold maxLen; omega))
              have hl1' := (put1_length lk pk).1
              have hl2' := (put1_length lk pk).2
              rw [show (if 0 ≤ find lk pk then lk else putK lk pk) = put1 lk pk from rfl] at CP
              obtain ⟨q, hq⟩ : ∃ q, above pk = q := ⟨_, rfl⟩
              obtain ⟨l2, hl2⟩ : ∃ l2, put1 lk pk = l2 := ⟨_, rfl⟩
              rw [hq] at hab HP2 CA
              rw [hl2] at hl1' hl2' HP2 CP HSM2
              have hm1 : m < gk := by omega
              have hqm : q.size ≤ m := by omega
              clear hq hl2 hpe0 HPN hm HU HSM
              go_wp2_with fail
              refine CP.out.mono ?_
              rintro e w5 ⟨u, rfl, k5, hb5⟩
              have K5 := Lib.hid k5
              have HB5 := Lib.hid (HBW.out.trans (hb5.mono hw1))
              have hw5 := hb5.size
              clear k5 hb5 CP
              go_wp2_with fail
              refine (CA.out _).mono ?_
              rintro e w' ⟨rfl, rfl⟩
              go_wp2
              go_roundg m
              case measure => exact hm1
              case rel => exact ⟨l2, q, rfl, hqm, by omega, by omega, K5, HP2, HB5, by omega, HSM2⟩

end Go.Proofs.YtmfbffhbgelnnaaGreatDoor
