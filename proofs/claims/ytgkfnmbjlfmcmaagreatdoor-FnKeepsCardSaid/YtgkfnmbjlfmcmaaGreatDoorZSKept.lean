/- The walk of the reference's Kept. -/
import Derived.Test.YtgkfnmbjlfmcmaaGreatDoorZSKeep
import Derived.Test.YtgkfnmbjlfmcmaaGreatDoorZB2
import Derived.Test.YtgkfnmbjlfmcmaaGreatDoorZB1
import Derived.Test.YtgkfnmbjlfmcmaaGreatDoorZNodeM
set_option linter.unusedSimpArgs false
set_option linter.unusedVariables false
namespace Go.Proofs.YtgkfnmbjlfmcmaaGreatDoor
open Go.RowKit

set_option maxRecDepth 100000 in
set_option maxHeartbeats 6400000 in
theorem specKept_any (v : Value) (l : List MsgM) (m : MsgM) (w : World) (hl : l.length ≤ 1048576) (hs : ∀ x ∈ l, x.2.2.1.size ≤ 1048576) (hms : m.2.2.1.size ≤ 1048576) (hv : MsgsAt w v l) :
    Calls Tryz.prog 7 #[v, magg m] w fun e w' => ∃ u, e = .returned (.tuple #[u, .bool (keptM l m).2]) ∧ MOwn w' w.heap.size u (keptM l m).1 ∧ Below w.heap.size w w' := by
  have CK := Lib.hid (fun wx (h : MsgsAt wx v l) => specKeepOk_any v l wx hl hs h)
  have CM := Lib.hid (fun wx => specMsgOk_any m wx hms)
  have CC := Lib.hid (fun wx (h : MsgsAt wx v l) => specCopyM_any v l wx (by omega) h)
  have HR : Hid (keptM l m = if keepB l then (if msgB m then (if 24 < (keptOut l m).length then (l, false) else (keptOut l m, true)) else (l, false)) else ([], false)) := rfl
  have HV := Lib.hid hv
  have HLEN := Lib.hid (fun k hk => keptTo_len m l k hk)
  obtain ⟨va, vc, rfl, hvc1, hvc2, hv3⟩ := hv
  have HC := Lib.hid hv3
  obtain ⟨b1, hb1⟩ : ∃ b, keepB l = b := ⟨_, rfl⟩
  obtain ⟨b2, hb2⟩ : ∃ b, msgB m = b := ⟨_, rfl⟩
  rw [hb1] at CK HR
  rw [hb2] at CM HR
  obtain ⟨R, hR⟩ : ∃ R, keptM l m = R := ⟨_, rfl⟩
  rw [hR] at HR ⊢
  clear hb1 hb2 hR hs hms hv3
  obtain ⟨ii, hii, hz0, hz1, hz2⟩ := msg_info
  obtain ⟨mq, mf, mt, md⟩ := m
  go_enter Tryz.func7, Tryz.ntmps7
  go_wp2_with fail
  have e0 := (Below.refl w.heap.size w).alloc (Nat.le_refl _) (.cells #[.int .i64 mq, .int .i64 mf, .string mt, .int .i64 md] 26)
  have X1 := Lib.hid (MBox.new w 26 (mq, mf, mt, md))
  have K1 := Lib.hid (HV.out.below e0)
  have B1 := Lib.hid e0
  clear e0 HV
  dsimp only at X1
  generalize w.alloc (.cells #[.int .i64 mq, .int .i64 mf, .string mt, .int .i64 md] 26) = w1 at X1 K1 B1 ⊢
  obtain ⟨I, hI⟩ : ∃ I, w.heap.size = I := ⟨_, rfl⟩
  have HIW : Hid (I < w1.heap.size ∧ I = w.heap.size) := Lib.hid ⟨by rw [← hI]; exact (Array.getElem?_eq_some_iff.1 X1.out).1, hI.symm⟩
  rw [hI] at X1 ⊢
  clear hI
  have HB2W := Lib.hid (fun wx (h : Below w1.heap.size w1 wx) => show Below w.heap.size w wx from B1.out.trans (h.mono B1.out.size))
  refine (CK.out _ K1.out).mono ?_
  rintro e w2 ⟨rfl, b2⟩
  have E2 := Lib.hid b2
  clear b2 CK
  cases b1
  · have HE : Hid (R = ([], false)) := Lib.hid (by rw [HR.out]; rfl)
    have O3 : MOwn (w2.alloc (.cells #[] 26)) w1.heap.size (.slice (some ⟨w2.heap.size, 0, none⟩) 0 0) [] := World.ownsRow_lit (base := w1.heap.size) (e := 26) (size := 4) w2 #[] 0 E2.out.size (by unfold maxLen; omega) rfl
    have HO3 := Lib.hid (own_mono O3 (show w.heap.size ≤ w1.heap.size from B1.out.size))
    have E3 := Lib.hid (below_end E2.out ((Below.refl w2.heap.size w2).alloc (Nat.le_refl _) (.cells #[] 26)))
    clear O3
    go_wp2
    go_ret2
    rw [HE.out]
    exact ⟨_, rfl, HO3.out, HB2W.out _ E3.out⟩
  obtain ⟨d0, d1, d2, d3⟩ := (X1.out.below E2.out).cells
  dsimp only at d0 d1 d2 d3
  go_wp2_with fail
  refine (CM.out _).mono ?_
  rintro e w3 ⟨rfl, b3⟩
  have E3 := Lib.hid (below_end E2.out b3)
  clear b3 CM E2 d0 d1 d2 d3
  cases b2
  · have HE : Hid (R = (l, false)) := Lib.hid (by rw [HR.out]; rfl)
    go_wp2_with fail
    refine (CC.out _ (K1.out.below E3.out)).mono ?_
    rintro e w4 ⟨u, rfl, ho, b4⟩
    have E4 := Lib.hid (below_end E3.out b4)
    have O4 := Lib.hid (own_mono ho (show w.heap.size ≤ w3.heap.size from Nat.le_trans B1.out.size E3.out.size))
    clear ho b4
    go_wp2
    go_ret2
    rw [HE.out]
    exact ⟨_, rfl, O4.out, HB2W.out _ E4.out⟩
  have HE : Hid (R = if 24 < (keptOut l (mq, mf, mt, md)).length then (l, false) else (keptOut l (mq, mf, mt, md), true)) := Lib.hid (by rw [HR.out]; rfl)
  have HKO : Hid (keptOut l (mq, mf, mt, md) = if (keptTo (mq, mf, mt, md) l l.length).2 then (keptTo (mq, mf, mt, md) l l.length).1 else (keptTo (mq, mf, mt, md) l l.length).1 ++ [(mq, mf, mt, md)]) := rfl
  have BOX0 := Lib.hid (fun wx (h : Below w1.heap.size w1 wx) => (X1.out.below h).cells)
  dsimp only at BOX0
  have e0 := (Below.refl w3.heap.size w3).alloc (Nat.le_refl _) (.cells #[] 26)
  have O5 : Hid (MOwn (w3.alloc (.cells #[] 26)) w1.heap.size (.slice (some ⟨w3.heap.size, 0, none⟩) 0 0) []) := Lib.hid (World.ownsRow_lit (base := w1.heap.size) (e := 26) (size := 4) w3 #[] 0 E3.out.size (by unfold maxLen; omega) rfl)
  have E5 := Lib.hid (below_end E3.out e0)
  have d3 := (BOX0.out _ E5.out).2.2.2
  have H0 : Hid (keptTo (mq, mf, mt, md) l 0 = ([], md == 0)) := Lib.hid rfl
  clear e0 HR
  go_wp2_with fail
  clear d3
  generalize w3.alloc (.cells #[] 26) = w5 at O5 E5 ⊢
  generalize (Value.slice (some ⟨w3.heap.size, 0, none⟩) 0 0) = ov at O5 ⊢
  generalize (md == 0) = pb at H0 ⊢
  clear E3
  go_loopw [6, 7, 8] (fun s6 s7 s8 wr => ∃ (k : Nat) (uv : Value) (L : List MsgM) (p : Bool), k ≤ l.length ∧ s8 = .int .i64 k ∧ s6 = uv ∧ s7 = .bool p ∧ Hid (keptTo (mq, mf, mt, md) l k = (L, p)) ∧ Hid (MOwn wr w1.heap.size uv L) ∧ Hid (Below w1.heap.size w1 wr)) (fun _ _ i _ => l.length - (intOf i).toNat)
  case atStart => exact ⟨0, _, [], pb, Nat.zero_le _, rfl, rfl, rfl, H0, O5, E5⟩
  case round =>
    obtain ⟨k, _, L, pp, hk, rfl, rfl, rfl, HT, HO, HEE⟩ := hrel
    clear O5 E5 H0
    have HLB : Hid (L.length ≤ 2 * l.length) := Lib.hid (by have h := HLEN.out k hk; rw [HT.out] at h; dsimp only at h; omega)
    by_cases hlt : k < l.length
    · obtain ⟨b, o, rfl, hin⟩ : ∃ b o, va = some ⟨b, o, none⟩ ∧ MsgsIn w1 b o l := by
        obtain ⟨a', c', he, _, _, h⟩ := K1.out
        cases he
        rcases h with h | h
        · subst h; simp at hlt
        · exact h
      have CELLS0 := Lib.hid (fun wx (h : Below w1.heap.size w1 wx) => (hin.below h) k hlt)
      have HNX : Hid (keptTo (mq, mf, mt, md) l (k + 1) = keptStep (mq, mf, mt, md) (L, pp) l[k]) := Lib.hid (by rw [keptTo_succ _ l k hlt, HT.out])
      unfold MsgIn at CELLS0
      obtain ⟨x, hx⟩ : ∃ x, l[k] = x := ⟨_, rfl⟩
      rw [hx] at CELLS0 HNX
      clear hx hin HT
      obtain ⟨q, f, p, d⟩ := x
      dsimp only at CELLS0
      obtain ⟨st, hst⟩ : ∃ st, sameT p mt = st := ⟨_, rfl⟩
      have HST := Lib.hid hst
      clear hst
      have r2 := (CELLS0.out _ HEE.out).2.2.1
      have y2 := (BOX0.out _ HEE.out).2.2.1
      cases pp
      · obtain ⟨lb, hlb⟩ : ∃ lb, leB mt p = lb := ⟨_, rfl⟩
        have hle : Op.bytesLess p.toList mt.toList = !lb := by have h := leB_less mt p; rw [hlb] at h; rw [h]; simp [less]
        have HLE := Lib.hid hlb
        clear hlb
        go_wp2_with fail
        refine wp_region_held_drew (S := fun wx => wx.cell? ⟨b, o + k * 4 + 2, none⟩ = some (.string p) ∧ wx.cell? ⟨I, 2, none⟩ = some (.string mt)) (by kernel_rfl) ?_ (fun hHeld => ?_)
        · exact ⟨r2, y2⟩
        change wpAnyH _ _ _ _ _ 12 #[false, false, false, false, false, false, false, false, false, false, false, false] _ _
        refine wpAnyH_take (i := 0) (v := ?_) rfl (by kernel_rfl) (by kernel_rfl) (by kernel_rfl) (fun _ _ _ h => h) (Or.inl ⟨by rfl, ?_⟩) (by assumption) ?_
        rotate_left
        · intro w hSw; (try dsimp only at hSw); go_simp; try with_reducible rfl
        try simp only [Act.put, List.getElem_toArray, List.getElem_cons_succ, List.getElem_cons_zero, List.setIfInBounds_toArray, List.set_cons_zero, List.set_cons_succ]
        refine wpAnyH_take (i := 1) (v := ?_) rfl (by kernel_rfl) (by kernel_rfl) (by kernel_rfl) (fun _ _ _ h => h) (Or.inl ⟨by rfl, ?_⟩) (by assumption) ?_
        rotate_left
        · intro w hSw; (try dsimp only at hSw); go_simp; try with_reducible rfl
        try simp only [Act.put, List.getElem_toArray, List.getElem_cons_succ, List.getElem_cons_zero, List.setIfInBounds_toArray, List.set_cons_zero, List.set_cons_succ]
        refine wpAnyH_take (i := 2) (v := ?_) rfl (by kernel_rfl) (by kernel_rfl) (by kernel_rfl) (fun _ _ _ h => h) (Or.inl ⟨by rfl, ?_⟩) (by assumption) ?_
        rotate_left
        · intro w hSw; (try dsimp only at hSw); go_simp; try with_reducible rfl
        try simp only [Act.put, List.getElem_toArray, List.getElem_cons_succ, List.getElem_cons_zero, List.setIfInBounds_toArray, List.set_cons_zero, List.set_cons_succ]
        refine wpAnyH_take (i := 3) (v := ?_) rfl (by kernel_rfl) (by kernel_rfl) (by kernel_rfl) (fun _ _ _ h => h) (Or.inl ⟨by rfl, ?_⟩) (by assumption) ?_
        rotate_left
        · intro w hSw; (try dsimp only at hSw); go_simp; try with_reducible rfl
        try simp only [Act.put, List.getElem_toArray, List.getElem_cons_succ, List.getElem_cons_zero, List.setIfInBounds_toArray, List.set_cons_zero, List.set_cons_succ]
        refine wpAnyH_take (i := 4) (v := ?_) rfl (by kernel_rfl) (by kernel_rfl) (by kernel_rfl) (fun _ _ _ h => h) (Or.inl ⟨by rfl, ?_⟩) (by assumption) ?_
        rotate_left
        · intro w hSw; (try dsimp only at hSw); go_simp; try with_reducible rfl
        try simp only [Act.put, List.getElem_toArray, List.getElem_cons_succ, List.getElem_cons_zero, List.setIfInBounds_toArray, List.set_cons_zero, List.set_cons_succ]
        refine wpAnyH_take (i := 5) (v := ?_) rfl (by kernel_rfl) (by kernel_rfl) (by kernel_rfl) (fun _ _ _ h => h) (Or.inl ⟨by rfl, ?_⟩) (by assumption) ?_
        rotate_left
        · intro w hSw; (try dsimp only at hSw); go_simp; try with_reducible rfl
        try simp only [Act.put, List.getElem_toArray, List.getElem_cons_succ, List.getElem_cons_zero, List.setIfInBounds_toArray, List.set_cons_zero, List.set_cons_succ]
        refine wpAnyH_take (i := 6) (v := ?_) rfl (by kernel_rfl) (by kernel_rfl) (by kernel_rfl) (fun _ _ _ h => h) (Or.inl ⟨by rfl, ?_⟩) (by assumption) ?_
        rotate_left
        · intro w hSw; (try dsimp only at hSw); go_simp; try with_reducible rfl
        try simp only [Act.put, List.getElem_toArray, List.getElem_cons_succ, List.getElem_cons_zero, List.setIfInBounds_toArray, List.set_cons_zero, List.set_cons_succ]
        refine wpAnyH_take (i := 7) (v := ?_) rfl (by kernel_rfl) (by kernel_rfl) (by kernel_rfl) (fun _ _ _ h => h) (Or.inl ⟨by rfl, ?_⟩) (by assumption) ?_
        rotate_left
        · intro w hSw; (try dsimp only at hSw); go_simp; try with_reducible rfl
        try simp only [Act.put, List.getElem_toArray, List.getElem_cons_succ, List.getElem_cons_zero, List.setIfInBounds_toArray, List.set_cons_zero, List.set_cons_succ]
        refine wpAnyH_take (i := 8) (v := ?_) rfl (by kernel_rfl) (by kernel_rfl) (by kernel_rfl) (fun _ _ _ h => h) (Or.inl ⟨by rfl, ?_⟩) (by assumption) ?_
        rotate_left
        · intro w hSw; (try dsimp only at hSw); go_simp; try with_reducible rfl
        try simp only [Act.put, List.getElem_toArray, List.getElem_cons_succ, List.getElem_cons_zero, List.setIfInBounds_toArray, List.set_cons_zero, List.set_cons_succ]
        refine wpAnyH_take (i := 9) (v := ?_) rfl (by kernel_rfl) (by kernel_rfl) (by kernel_rfl) (fun _ _ _ h => h) (Or.inl ⟨by rfl, ?_⟩) (by assumption) ?_
        rotate_left
        · intro w hSw; (try dsimp only at hSw); go_simp; try with_reducible rfl
        try simp only [Act.put, List.getElem_toArray, List.getElem_cons_succ, List.getElem_cons_zero, List.setIfInBounds_toArray, List.set_cons_zero, List.set_cons_succ]
        refine wpAnyH_take (i := 10) (v := ?_) rfl (by kernel_rfl) (by kernel_rfl) (by kernel_rfl) (fun _ _ _ h => h) (Or.inl ⟨by rfl, ?_⟩) (by assumption) ?_
        rotate_left
        · intro w hSw; (try dsimp only at hSw); go_simp; try with_reducible rfl
        try simp only [Act.put, List.getElem_toArray, List.getElem_cons_succ, List.getElem_cons_zero, List.setIfInBounds_toArray, List.set_cons_zero, List.set_cons_succ]
        refine wpAnyH_take (i := 11) (v := ?_) rfl (by kernel_rfl) (by kernel_rfl) (by kernel_rfl) (fun _ _ _ h => h) (Or.inl ⟨by rfl, ?_⟩) (by assumption) ?_
        rotate_left
        · intro w hSw; (try dsimp only at hSw); go_simp; try with_reducible rfl
        try simp only [Act.put, List.getElem_toArray, List.getElem_cons_succ, List.getElem_cons_zero, List.setIfInBounds_toArray, List.set_cons_zero, List.set_cons_succ]
        refine wpAnyH_done (by kernel_rfl) ?_ _
        clear hHeld r2 y2
        have HE7 := Lib.hid HEE.out.drew
        have HO7 := Lib.hid (row_below HO.out (Below.refl _ _).drew)
        clear HEE HO
        generalize wr.drew = w7 at HE7 HO7 ⊢
        cases lb
        · have hle3 : (!Op.bytesLess p.toList mt.toList) = false := by rw [hle]; rfl
          have HPUT : Hid (keptPut (mq, mf, mt, md) (L, false) (q, f, p, d) = (L, false)) := Lib.hid (by unfold keptPut; rw [HLE.out]; rfl)
          have r0 := (CELLS0.out w7 HE7.out).1
          have r1 := (CELLS0.out w7 HE7.out).2.1
          have r2 := (CELLS0.out w7 HE7.out).2.2.1
          have r3 := (CELLS0.out w7 HE7.out).2.2.2
          have y2 := (BOX0.out w7 HE7.out).2.2.1
          have hlen : Hid ((L).length ≤ 4000000) := Lib.hid (by have h := HLB.out; omega)
          have hst2 : (p.toList == mt.toList) = st := HST.out
          go_wp2_with fail
          refine wp_region_held_drew (S := fun wx => wx.cell? ⟨b, o + k * 4 + 2, none⟩ = some (.string p) ∧ wx.cell? ⟨I, 2, none⟩ = some (.string mt)) (by kernel_rfl) ?_ (fun hHeld => ?_)
          · exact ⟨r2, y2⟩
          change wpAnyH _ _ _ _ _ 8 #[false, false, false, false, false, false, false, false] _ _
          refine wpAnyH_take (i := 0) (v := ?_) rfl (by kernel_rfl) (by kernel_rfl) (by kernel_rfl) (fun _ _ _ h => h) (Or.inl ⟨by rfl, ?_⟩) (by assumption) ?_
          rotate_left
          · intro w hSw; (try dsimp only at hSw); go_simp; try with_reducible rfl
          try simp only [Act.put, List.getElem_toArray, List.getElem_cons_succ, List.getElem_cons_zero, List.setIfInBounds_toArray, List.set_cons_zero, List.set_cons_succ]
          refine wpAnyH_take (i := 1) (v := ?_) rfl (by kernel_rfl) (by kernel_rfl) (by kernel_rfl) (fun _ _ _ h => h) (Or.inl ⟨by rfl, ?_⟩) (by assumption) ?_
          rotate_left
          · intro w hSw; (try dsimp only at hSw); go_simp; try with_reducible rfl
          try simp only [Act.put, List.getElem_toArray, List.getElem_cons_succ, List.getElem_cons_zero, List.setIfInBounds_toArray, List.set_cons_zero, List.set_cons_succ]
          refine wpAnyH_take (i := 2) (v := ?_) rfl (by kernel_rfl) (by kernel_rfl) (by kernel_rfl) (fun _ _ _ h => h) (Or.inl ⟨by rfl, ?_⟩) (by assumption) ?_
          rotate_left
          · intro w hSw; (try dsimp only at hSw); go_simp; try with_reducible rfl
          try simp only [Act.put, List.getElem_toArray, List.getElem_cons_succ, List.getElem_cons_zero, List.setIfInBounds_toArray, List.set_cons_zero, List.set_cons_succ]
          refine wpAnyH_take (i := 3) (v := ?_) rfl (by kernel_rfl) (by kernel_rfl) (by kernel_rfl) (fun _ _ _ h => h) (Or.inl ⟨by rfl, ?_⟩) (by assumption) ?_
          rotate_left
          · intro w hSw; (try dsimp only at hSw); go_simp; try with_reducible rfl
          try simp only [Act.put, List.getElem_toArray, List.getElem_cons_succ, List.getElem_cons_zero, List.setIfInBounds_toArray, List.set_cons_zero, List.set_cons_succ]
          refine wpAnyH_take (i := 4) (v := ?_) rfl (by kernel_rfl) (by kernel_rfl) (by kernel_rfl) (fun _ _ _ h => h) (Or.inl ⟨by rfl, ?_⟩) (by assumption) ?_
          rotate_left
          · intro w hSw; (try dsimp only at hSw); go_simp; try with_reducible rfl
          try simp only [Act.put, List.getElem_toArray, List.getElem_cons_succ, List.getElem_cons_zero, List.setIfInBounds_toArray, List.set_cons_zero, List.set_cons_succ]
          refine wpAnyH_take (i := 5) (v := ?_) rfl (by kernel_rfl) (by kernel_rfl) (by kernel_rfl) (fun _ _ _ h => h) (Or.inl ⟨by rfl, ?_⟩) (by assumption) ?_
          rotate_left
          · intro w hSw; (try dsimp only at hSw); go_simp; try with_reducible rfl
          try simp only [Act.put, List.getElem_toArray, List.getElem_cons_succ, List.getElem_cons_zero, List.setIfInBounds_toArray, List.set_cons_zero, List.set_cons_succ]
          refine wpAnyH_take (i := 6) (v := ?_) rfl (by kernel_rfl) (by kernel_rfl) (by kernel_rfl) (fun _ _ _ h => h) (Or.inl ⟨by rfl, ?_⟩) (by assumption) ?_
          rotate_left
          · intro w hSw; (try dsimp only at hSw); go_simp; try with_reducible rfl
          try simp only [Act.put, List.getElem_toArray, List.getElem_cons_succ, List.getElem_cons_zero, List.setIfInBounds_toArray, List.set_cons_zero, List.set_cons_succ]
          refine wpAnyH_take (i := 7) (v := ?_) rfl (by kernel_rfl) (by kernel_rfl) (by kernel_rfl) (fun _ _ _ h => h) (Or.inl ⟨by rfl, ?_⟩) (by assumption) ?_
          rotate_left
          · intro w hSw; (try dsimp only at hSw); go_simp; try with_reducible rfl
          try simp only [Act.put, List.getElem_toArray, List.getElem_cons_succ, List.getElem_cons_zero, List.setIfInBounds_toArray, List.set_cons_zero, List.set_cons_succ]
          refine wpAnyH_done (by kernel_rfl) ?_ _
          clear hHeld y2
          have HE7D := Lib.hid HE7.out.drew
          have HO7D := Lib.hid (row_below HO7.out (Below.refl _ _).drew)
          replace r0 : w7.drew.cell? ⟨b, o + k * 4, none⟩ = some (.int .i64 q) := r0
          replace r1 : w7.drew.cell? ⟨b, o + k * 4 + 1, none⟩ = some (.int .i64 f) := r1
          replace r2 : w7.drew.cell? ⟨b, o + k * 4 + 2, none⟩ = some (.string p) := r2
          replace r3 : w7.drew.cell? ⟨b, o + k * 4 + 3, none⟩ = some (.int .i64 d) := r3
          clear HE7 HO7 hst2
          generalize w7.drew = wd at HE7D HO7D r0 r1 r2 r3 ⊢
          cases st
          · have hne : (p.toList == mt.toList) = false := HST.out
            have hne3 : (!(p.toList == mt.toList)) = true := by rw [hne]; rfl
            have hL9 : (L).length ≤ 4000000 := hlen.out
            have e0 := (Below.refl wd.heap.size wd).alloc (Nat.le_refl _) (.cells #[.int .i64 q, .int .i64 f, .string p, .int .i64 d] 26)
            have OA := Lib.hid (row_below HO7D.out e0)
            have HSR : Hid (SrcAt (wd.alloc (.cells #[.int .i64 q, .int .i64 f, .string p, .int .i64 d] 26)) (.slice (some ⟨wd.heap.size, 0, none⟩) 1 1) 1 (mcells [(q, f, p, d)])) := Lib.hid ⟨_, _, rfl, .inr ⟨_, rfl, msg_new wd (q, f, p, d) 26⟩⟩
            have EA := Lib.hid (below_end HE7D.out e0)
            have HBA : Hid (w1.heap.size ≤ (wd.alloc (.cells #[.int .i64 q, .int .i64 f, .string p, .int .i64 d] 26)).heap.size) := Lib.hid EA.out.size
            clear e0
            go_wp2_with (at_builtin; go_must (refine wpList_append_src rfl _ _ 24 rfl w1.heap.size 26 ii (.agg #[.int .i64 0, .int .i64 0, .string ⟨#[]⟩, .int .i64 0]) 4 40 Tryz.underlying24 hii hz0 hz1 hz2 rfl (by decide) u6 (.slice (some ⟨wd.heap.size, 0, none⟩) 1 1) L.length 1 (mcells L) (mcells [(q, f, p, d)]) rfl OA.out rfl HSR.out rfl (mcells_one _) (by unfold maxLen; omega) (by omega) HBA.out ?_); intro v' wn hown hgr _)
            have ON : Hid (MOwn wn w1.heap.size v' (L ++ [(q, f, p, d)])) := Lib.hid (by skip; unfold MOwn; rw [List.length_append, mcells_app]; exact hown)
            have EN := Lib.hid (EA.out.grown hgr EA.out.size (fun j e => (OA.out.lt j e).1))
            clear hown hgr OA EA HSR HBA
            have HN : Hid (keptTo (mq, mf, mt, md) l (k + 1) = (L ++ [(q, f, p, d)], false)) := Lib.hid (by rw [HNX.out]; unfold keptStep; rw [show sameT p mt = false from HST.out, HPUT.out]; rfl)
            go_roundw
            case rel => exact ⟨k + 1, _, L ++ [(q, f, p, d)], false, by omega, by go_num, rfl, rfl, HN, ON, EN⟩
            case measure => simp [intOf]; omega
          · have hne : (p.toList == mt.toList) = true := HST.out
            have hne3 : (!(p.toList == mt.toList)) = false := by rw [hne]; rfl
            have HN : Hid (keptTo (mq, mf, mt, md) l (k + 1) = (L, false)) := Lib.hid (by rw [HNX.out]; unfold keptStep; rw [show sameT p mt = true from HST.out, HPUT.out]; rfl)
            clear r0 r1 r2 r3
            go_wp2
            go_roundw
            case rel => exact ⟨k + 1, _, L, false, by omega, by go_num, rfl, rfl, HN, HO7D, HE7D⟩
            case measure => simp [intOf]; omega
        · have hle3 : (!Op.bytesLess p.toList mt.toList) = true := by rw [hle]; rfl
          obtain ⟨d0, d1, d2, d3⟩ := BOX0.out _ HE7.out
          have hL8 : L.length ≤ 2 * l.length := HLB.out
          have e0 := (Below.refl w7.heap.size w7).alloc (Nat.le_refl _) (.cells #[.int .i64 mq, .int .i64 mf, .string mt, .int .i64 md] 26)
          have OA := Lib.hid (row_below HO7.out e0)
          have HSR : Hid (SrcAt (w7.alloc (.cells #[.int .i64 mq, .int .i64 mf, .string mt, .int .i64 md] 26)) (.slice (some ⟨w7.heap.size, 0, none⟩) 1 1) 1 (mcells [(mq, mf, mt, md)])) := Lib.hid ⟨_, _, rfl, .inr ⟨_, rfl, msg_new w7 (mq, mf, mt, md) 26⟩⟩
          have EA := Lib.hid (below_end HE7.out e0)
          have HBA : Hid (w1.heap.size ≤ (w7.alloc (.cells #[.int .i64 mq, .int .i64 mf, .string mt, .int .i64 md] 26)).heap.size) := Lib.hid EA.out.size
          clear e0
          go_wp2_with (at_builtin; go_must (refine wpList_append_src rfl _ _ 24 rfl w1.heap.size 26 ii (.agg #[.int .i64 0, .int .i64 0, .string ⟨#[]⟩, .int .i64 0]) 4 40 Tryz.underlying24 hii hz0 hz1 hz2 rfl (by decide) u6 (.slice (some ⟨w7.heap.size, 0, none⟩) 1 1) L.length 1 (mcells L) (mcells [(mq, mf, mt, md)]) rfl OA.out rfl HSR.out rfl (mcells_one _) (by unfold maxLen; omega) (by omega) HBA.out ?_); intro v8 w8 hown hgr _)
          have HO8 : Hid (MOwn w8 w1.heap.size v8 (L ++ [(mq, mf, mt, md)])) := Lib.hid (by skip; unfold MOwn; rw [List.length_append, mcells_app]; exact hown)
          have HE8 := Lib.hid (EA.out.grown hgr EA.out.size (fun j e => (OA.out.lt j e).1))
          clear hown hgr OA EA HSR HBA
          have HPUT : Hid (keptPut (mq, mf, mt, md) (L, false) (q, f, p, d) = (L ++ [(mq, mf, mt, md)], true)) := Lib.hid (by unfold keptPut; rw [HLE.out]; rfl)
          clear d0 d1 d2 d3 HO7 HE7 hL8
          have r0 := (CELLS0.out w8 HE8.out).1
          have r1 := (CELLS0.out w8 HE8.out).2.1
          have r2 := (CELLS0.out w8 HE8.out).2.2.1
          have r3 := (CELLS0.out w8 HE8.out).2.2.2
          have y2 := (BOX0.out w8 HE8.out).2.2.1
          have hlen : Hid (((L ++ [(mq, mf, mt, md)])).length ≤ 4000000) := Lib.hid (by have h := HLB.out; simp; omega)
          have hst2 : (p.toList == mt.toList) = st := HST.out
          go_wp2_with fail
          refine wp_region_held_drew (S := fun wx => wx.cell? ⟨b, o + k * 4 + 2, none⟩ = some (.string p) ∧ wx.cell? ⟨I, 2, none⟩ = some (.string mt)) (by kernel_rfl) ?_ (fun hHeld => ?_)
          · exact ⟨r2, y2⟩
          change wpAnyH _ _ _ _ _ 8 #[false, false, false, false, false, false, false, false] _ _
          refine wpAnyH_take (i := 0) (v := ?_) rfl (by kernel_rfl) (by kernel_rfl) (by kernel_rfl) (fun _ _ _ h => h) (Or.inl ⟨by rfl, ?_⟩) (by assumption) ?_
          rotate_left
          · intro w hSw; (try dsimp only at hSw); go_simp; try with_reducible rfl
          try simp only [Act.put, List.getElem_toArray, List.getElem_cons_succ, List.getElem_cons_zero, List.setIfInBounds_toArray, List.set_cons_zero, List.set_cons_succ]
          refine wpAnyH_take (i := 1) (v := ?_) rfl (by kernel_rfl) (by kernel_rfl) (by kernel_rfl) (fun _ _ _ h => h) (Or.inl ⟨by rfl, ?_⟩) (by assumption) ?_
          rotate_left
          · intro w hSw; (try dsimp only at hSw); go_simp; try with_reducible rfl
          try simp only [Act.put, List.getElem_toArray, List.getElem_cons_succ, List.getElem_cons_zero, List.setIfInBounds_toArray, List.set_cons_zero, List.set_cons_succ]
          refine wpAnyH_take (i := 2) (v := ?_) rfl (by kernel_rfl) (by kernel_rfl) (by kernel_rfl) (fun _ _ _ h => h) (Or.inl ⟨by rfl, ?_⟩) (by assumption) ?_
          rotate_left
          · intro w hSw; (try dsimp only at hSw); go_simp; try with_reducible rfl
          try simp only [Act.put, List.getElem_toArray, List.getElem_cons_succ, List.getElem_cons_zero, List.setIfInBounds_toArray, List.set_cons_zero, List.set_cons_succ]
          refine wpAnyH_take (i := 3) (v := ?_) rfl (by kernel_rfl) (by kernel_rfl) (by kernel_rfl) (fun _ _ _ h => h) (Or.inl ⟨by rfl, ?_⟩) (by assumption) ?_
          rotate_left
          · intro w hSw; (try dsimp only at hSw); go_simp; try with_reducible rfl
          try simp only [Act.put, List.getElem_toArray, List.getElem_cons_succ, List.getElem_cons_zero, List.setIfInBounds_toArray, List.set_cons_zero, List.set_cons_succ]
          refine wpAnyH_take (i := 4) (v := ?_) rfl (by kernel_rfl) (by kernel_rfl) (by kernel_rfl) (fun _ _ _ h => h) (Or.inl ⟨by rfl, ?_⟩) (by assumption) ?_
          rotate_left
          · intro w hSw; (try dsimp only at hSw); go_simp; try with_reducible rfl
          try simp only [Act.put, List.getElem_toArray, List.getElem_cons_succ, List.getElem_cons_zero, List.setIfInBounds_toArray, List.set_cons_zero, List.set_cons_succ]
          refine wpAnyH_take (i := 5) (v := ?_) rfl (by kernel_rfl) (by kernel_rfl) (by kernel_rfl) (fun _ _ _ h => h) (Or.inl ⟨by rfl, ?_⟩) (by assumption) ?_
          rotate_left
          · intro w hSw; (try dsimp only at hSw); go_simp; try with_reducible rfl
          try simp only [Act.put, List.getElem_toArray, List.getElem_cons_succ, List.getElem_cons_zero, List.setIfInBounds_toArray, List.set_cons_zero, List.set_cons_succ]
          refine wpAnyH_take (i := 6) (v := ?_) rfl (by kernel_rfl) (by kernel_rfl) (by kernel_rfl) (fun _ _ _ h => h) (Or.inl ⟨by rfl, ?_⟩) (by assumption) ?_
          rotate_left
          · intro w hSw; (try dsimp only at hSw); go_simp; try with_reducible rfl
          try simp only [Act.put, List.getElem_toArray, List.getElem_cons_succ, List.getElem_cons_zero, List.setIfInBounds_toArray, List.set_cons_zero, List.set_cons_succ]
          refine wpAnyH_take (i := 7) (v := ?_) rfl (by kernel_rfl) (by kernel_rfl) (by kernel_rfl) (fun _ _ _ h => h) (Or.inl ⟨by rfl, ?_⟩) (by assumption) ?_
          rotate_left
          · intro w hSw; (try dsimp only at hSw); go_simp; try with_reducible rfl
          try simp only [Act.put, List.getElem_toArray, List.getElem_cons_succ, List.getElem_cons_zero, List.setIfInBounds_toArray, List.set_cons_zero, List.set_cons_succ]
          refine wpAnyH_done (by kernel_rfl) ?_ _
          clear hHeld y2
          have HE8D := Lib.hid HE8.out.drew
          have HO8D := Lib.hid (row_below HO8.out (Below.refl _ _).drew)
          replace r0 : w8.drew.cell? ⟨b, o + k * 4, none⟩ = some (.int .i64 q) := r0
          replace r1 : w8.drew.cell? ⟨b, o + k * 4 + 1, none⟩ = some (.int .i64 f) := r1
          replace r2 : w8.drew.cell? ⟨b, o + k * 4 + 2, none⟩ = some (.string p) := r2
          replace r3 : w8.drew.cell? ⟨b, o + k * 4 + 3, none⟩ = some (.int .i64 d) := r3
          clear HE8 HO8 hst2
          generalize w8.drew = wd at HE8D HO8D r0 r1 r2 r3 ⊢
          cases st
          · have hne : (p.toList == mt.toList) = false := HST.out
            have hne3 : (!(p.toList == mt.toList)) = true := by rw [hne]; rfl
            have hL9 : ((L ++ [(mq, mf, mt, md)])).length ≤ 4000000 := hlen.out
            have e0 := (Below.refl wd.heap.size wd).alloc (Nat.le_refl _) (.cells #[.int .i64 q, .int .i64 f, .string p, .int .i64 d] 26)
            have OA := Lib.hid (row_below HO8D.out e0)
            have HSR : Hid (SrcAt (wd.alloc (.cells #[.int .i64 q, .int .i64 f, .string p, .int .i64 d] 26)) (.slice (some ⟨wd.heap.size, 0, none⟩) 1 1) 1 (mcells [(q, f, p, d)])) := Lib.hid ⟨_, _, rfl, .inr ⟨_, rfl, msg_new wd (q, f, p, d) 26⟩⟩
            have EA := Lib.hid (below_end HE8D.out e0)
            have HBA : Hid (w1.heap.size ≤ (wd.alloc (.cells #[.int .i64 q, .int .i64 f, .string p, .int .i64 d] 26)).heap.size) := Lib.hid EA.out.size
            clear e0
            go_wp2_with (at_builtin; go_must (refine wpList_append_src rfl _ _ 24 rfl w1.heap.size 26 ii (.agg #[.int .i64 0, .int .i64 0, .string ⟨#[]⟩, .int .i64 0]) 4 40 Tryz.underlying24 hii hz0 hz1 hz2 rfl (by decide) v8 (.slice (some ⟨wd.heap.size, 0, none⟩) 1 1) (L ++ [(mq, mf, mt, md)]).length 1 (mcells (L ++ [(mq, mf, mt, md)])) (mcells [(q, f, p, d)]) rfl OA.out rfl HSR.out rfl (mcells_one _) (by unfold maxLen; omega) (by omega) HBA.out ?_); intro v' wn hown hgr _)
            have ON : Hid (MOwn wn w1.heap.size v' ((L ++ [(mq, mf, mt, md)]) ++ [(q, f, p, d)])) := Lib.hid (by skip; unfold MOwn; rw [List.length_append, mcells_app]; exact hown)
            have EN := Lib.hid (EA.out.grown hgr EA.out.size (fun j e => (OA.out.lt j e).1))
            clear hown hgr OA EA HSR HBA
            have HN : Hid (keptTo (mq, mf, mt, md) l (k + 1) = ((L ++ [(mq, mf, mt, md)]) ++ [(q, f, p, d)], true)) := Lib.hid (by rw [HNX.out]; unfold keptStep; rw [show sameT p mt = false from HST.out, HPUT.out]; rfl)
            go_roundw
            case rel => exact ⟨k + 1, _, (L ++ [(mq, mf, mt, md)]) ++ [(q, f, p, d)], true, by omega, by go_num, rfl, rfl, HN, ON, EN⟩
            case measure => simp [intOf]; omega
          · have hne : (p.toList == mt.toList) = true := HST.out
            have hne3 : (!(p.toList == mt.toList)) = false := by rw [hne]; rfl
            have HN : Hid (keptTo (mq, mf, mt, md) l (k + 1) = ((L ++ [(mq, mf, mt, md)]), true)) := Lib.hid (by rw [HNX.out]; unfold keptStep; rw [show sameT p mt = true from HST.out, HPUT.out]; rfl)
            clear r0 r1 r2 r3
            go_wp2
            go_roundw
            case rel => exact ⟨k + 1, _, (L ++ [(mq, mf, mt, md)]), true, by omega, by go_num, rfl, rfl, HN, HO8D, HE8D⟩
            case measure => simp [intOf]; omega
      · go_wp2_with fail
        refine wp_region_held_drew (S := fun wx => wx.cell? ⟨b, o + k * 4 + 2, none⟩ = some (.string p) ∧ wx.cell? ⟨I, 2, none⟩ = some (.string mt)) (by kernel_rfl) ?_ (fun hHeld => ?_)
        · exact ⟨r2, y2⟩
        change wpAnyH _ _ _ _ _ 12 #[false, false, false, false, false, false, false, false, false, false, false, false] _ _
        refine wpAnyH_take (i := 0) (v := ?_) rfl (by kernel_rfl) (by kernel_rfl) (by kernel_rfl) (fun _ _ _ h => h) (Or.inl ⟨by rfl, ?_⟩) (by assumption) ?_
        rotate_left
        · intro w hSw; (try dsimp only at hSw); go_simp; try with_reducible rfl
        try simp only [Act.put, List.getElem_toArray, List.getElem_cons_succ, List.getElem_cons_zero, List.setIfInBounds_toArray, List.set_cons_zero, List.set_cons_succ]
        refine wpAnyH_take (i := 1) (v := ?_) rfl (by kernel_rfl) (by kernel_rfl) (by kernel_rfl) (fun _ _ _ h => h) (Or.inl ⟨by rfl, ?_⟩) (by assumption) ?_
        rotate_left
        · intro w hSw; (try dsimp only at hSw); go_simp; try with_reducible rfl
        try simp only [Act.put, List.getElem_toArray, List.getElem_cons_succ, List.getElem_cons_zero, List.setIfInBounds_toArray, List.set_cons_zero, List.set_cons_succ]
        refine wpAnyH_take (i := 2) (v := ?_) rfl (by kernel_rfl) (by kernel_rfl) (by kernel_rfl) (fun _ _ _ h => h) (Or.inl ⟨by rfl, ?_⟩) (by assumption) ?_
        rotate_left
        · intro w hSw; (try dsimp only at hSw); go_simp; try with_reducible rfl
        try simp only [Act.put, List.getElem_toArray, List.getElem_cons_succ, List.getElem_cons_zero, List.setIfInBounds_toArray, List.set_cons_zero, List.set_cons_succ]
        refine wpAnyH_take (i := 3) (v := undef) rfl (by kernel_rfl) (by kernel_rfl) (by kernel_rfl) (fun _ _ _ h => h) (Or.inr ⟨by rfl, rfl⟩) (by assumption) ?_
        try simp only [Act.put, List.getElem_toArray, List.getElem_cons_succ, List.getElem_cons_zero, List.setIfInBounds_toArray, List.set_cons_zero, List.set_cons_succ]
        refine wpAnyH_take (i := 4) (v := undef) rfl (by kernel_rfl) (by kernel_rfl) (by kernel_rfl) (fun _ _ _ h => h) (Or.inr ⟨by rfl, rfl⟩) (by assumption) ?_
        try simp only [Act.put, List.getElem_toArray, List.getElem_cons_succ, List.getElem_cons_zero, List.setIfInBounds_toArray, List.set_cons_zero, List.set_cons_succ]
        refine wpAnyH_take (i := 5) (v := undef) rfl (by kernel_rfl) (by kernel_rfl) (by kernel_rfl) (fun _ _ _ h => h) (Or.inr ⟨by rfl, rfl⟩) (by assumption) ?_
        try simp only [Act.put, List.getElem_toArray, List.getElem_cons_succ, List.getElem_cons_zero, List.setIfInBounds_toArray, List.set_cons_zero, List.set_cons_succ]
        refine wpAnyH_take (i := 6) (v := undef) rfl (by kernel_rfl) (by kernel_rfl) (by kernel_rfl) (fun _ _ _ h => h) (Or.inr ⟨by rfl, rfl⟩) (by assumption) ?_
        try simp only [Act.put, List.getElem_toArray, List.getElem_cons_succ, List.getElem_cons_zero, List.setIfInBounds_toArray, List.set_cons_zero, List.set_cons_succ]
        refine wpAnyH_take (i := 7) (v := undef) rfl (by kernel_rfl) (by kernel_rfl) (by kernel_rfl) (fun _ _ _ h => h) (Or.inr ⟨by rfl, rfl⟩) (by assumption) ?_
        try simp only [Act.put, List.getElem_toArray, List.getElem_cons_succ, List.getElem_cons_zero, List.setIfInBounds_toArray, List.set_cons_zero, List.set_cons_succ]
        refine wpAnyH_take (i := 8) (v := undef) rfl (by kernel_rfl) (by kernel_rfl) (by kernel_rfl) (fun _ _ _ h => h) (Or.inr ⟨by rfl, rfl⟩) (by assumption) ?_
        try simp only [Act.put, List.getElem_toArray, List.getElem_cons_succ, List.getElem_cons_zero, List.setIfInBounds_toArray, List.set_cons_zero, List.set_cons_succ]
        refine wpAnyH_take (i := 9) (v := undef) rfl (by kernel_rfl) (by kernel_rfl) (by kernel_rfl) (fun _ _ _ h => h) (Or.inr ⟨by rfl, rfl⟩) (by assumption) ?_
        try simp only [Act.put, List.getElem_toArray, List.getElem_cons_succ, List.getElem_cons_zero, List.setIfInBounds_toArray, List.set_cons_zero, List.set_cons_succ]
        refine wpAnyH_take (i := 10) (v := undef) rfl (by kernel_rfl) (by kernel_rfl) (by kernel_rfl) (fun _ _ _ h => h) (Or.inr ⟨by rfl, rfl⟩) (by assumption) ?_
        try simp only [Act.put, List.getElem_toArray, List.getElem_cons_succ, List.getElem_cons_zero, List.setIfInBounds_toArray, List.set_cons_zero, List.set_cons_succ]
        refine wpAnyH_take (i := 11) (v := ?_) rfl (by kernel_rfl) (by kernel_rfl) (by kernel_rfl) (fun _ _ _ h => h) (Or.inl ⟨by rfl, ?_⟩) (by assumption) ?_
        rotate_left
        · intro w hSw; (try dsimp only at hSw); go_simp; try with_reducible rfl
        try simp only [Act.put, List.getElem_toArray, List.getElem_cons_succ, List.getElem_cons_zero, List.setIfInBounds_toArray, List.set_cons_zero, List.set_cons_succ]
        refine wpAnyH_done (by kernel_rfl) ?_ _
        clear hHeld r2 y2
        have HE7 := Lib.hid HEE.out.drew
        have HO7 := Lib.hid (row_below HO.out (Below.refl _ _).drew)
        have HPUT : Hid (keptPut (mq, mf, mt, md) (L, true) (q, f, p, d) = (L, true)) := Lib.hid rfl
        clear HEE HO
        generalize wr.drew = w7 at HE7 HO7 ⊢
        have r0 := (CELLS0.out w7 HE7.out).1
        have r1 := (CELLS0.out w7 HE7.out).2.1
        have r2 := (CELLS0.out w7 HE7.out).2.2.1
        have r3 := (CELLS0.out w7 HE7.out).2.2.2
        have y2 := (BOX0.out w7 HE7.out).2.2.1
        have hlen : Hid ((L).length ≤ 4000000) := Lib.hid (by have h := HLB.out; omega)
        have hst2 : (p.toList == mt.toList) = st := HST.out
        go_wp2_with fail
        refine wp_region_held_drew (S := fun wx => wx.cell? ⟨b, o + k * 4 + 2, none⟩ = some (.string p) ∧ wx.cell? ⟨I, 2, none⟩ = some (.string mt)) (by kernel_rfl) ?_ (fun hHeld => ?_)
        · exact ⟨r2, y2⟩
        change wpAnyH _ _ _ _ _ 8 #[false, false, false, false, false, false, false, false] _ _
        refine wpAnyH_take (i := 0) (v := ?_) rfl (by kernel_rfl) (by kernel_rfl) (by kernel_rfl) (fun _ _ _ h => h) (Or.inl ⟨by rfl, ?_⟩) (by assumption) ?_
        rotate_left
        · intro w hSw; (try dsimp only at hSw); go_simp; try with_reducible rfl
        try simp only [Act.put, List.getElem_toArray, List.getElem_cons_succ, List.getElem_cons_zero, List.setIfInBounds_toArray, List.set_cons_zero, List.set_cons_succ]
        refine wpAnyH_take (i := 1) (v := ?_) rfl (by kernel_rfl) (by kernel_rfl) (by kernel_rfl) (fun _ _ _ h => h) (Or.inl ⟨by rfl, ?_⟩) (by assumption) ?_
        rotate_left
        · intro w hSw; (try dsimp only at hSw); go_simp; try with_reducible rfl
        try simp only [Act.put, List.getElem_toArray, List.getElem_cons_succ, List.getElem_cons_zero, List.setIfInBounds_toArray, List.set_cons_zero, List.set_cons_succ]
        refine wpAnyH_take (i := 2) (v := ?_) rfl (by kernel_rfl) (by kernel_rfl) (by kernel_rfl) (fun _ _ _ h => h) (Or.inl ⟨by rfl, ?_⟩) (by assumption) ?_
        rotate_left
        · intro w hSw; (try dsimp only at hSw); go_simp; try with_reducible rfl
        try simp only [Act.put, List.getElem_toArray, List.getElem_cons_succ, List.getElem_cons_zero, List.setIfInBounds_toArray, List.set_cons_zero, List.set_cons_succ]
        refine wpAnyH_take (i := 3) (v := ?_) rfl (by kernel_rfl) (by kernel_rfl) (by kernel_rfl) (fun _ _ _ h => h) (Or.inl ⟨by rfl, ?_⟩) (by assumption) ?_
        rotate_left
        · intro w hSw; (try dsimp only at hSw); go_simp; try with_reducible rfl
        try simp only [Act.put, List.getElem_toArray, List.getElem_cons_succ, List.getElem_cons_zero, List.setIfInBounds_toArray, List.set_cons_zero, List.set_cons_succ]
        refine wpAnyH_take (i := 4) (v := ?_) rfl (by kernel_rfl) (by kernel_rfl) (by kernel_rfl) (fun _ _ _ h => h) (Or.inl ⟨by rfl, ?_⟩) (by assumption) ?_
        rotate_left
        · intro w hSw; (try dsimp only at hSw); go_simp; try with_reducible rfl
        try simp only [Act.put, List.getElem_toArray, List.getElem_cons_succ, List.getElem_cons_zero, List.setIfInBounds_toArray, List.set_cons_zero, List.set_cons_succ]
        refine wpAnyH_take (i := 5) (v := ?_) rfl (by kernel_rfl) (by kernel_rfl) (by kernel_rfl) (fun _ _ _ h => h) (Or.inl ⟨by rfl, ?_⟩) (by assumption) ?_
        rotate_left
        · intro w hSw; (try dsimp only at hSw); go_simp; try with_reducible rfl
        try simp only [Act.put, List.getElem_toArray, List.getElem_cons_succ, List.getElem_cons_zero, List.setIfInBounds_toArray, List.set_cons_zero, List.set_cons_succ]
        refine wpAnyH_take (i := 6) (v := ?_) rfl (by kernel_rfl) (by kernel_rfl) (by kernel_rfl) (fun _ _ _ h => h) (Or.inl ⟨by rfl, ?_⟩) (by assumption) ?_
        rotate_left
        · intro w hSw; (try dsimp only at hSw); go_simp; try with_reducible rfl
        try simp only [Act.put, List.getElem_toArray, List.getElem_cons_succ, List.getElem_cons_zero, List.setIfInBounds_toArray, List.set_cons_zero, List.set_cons_succ]
        refine wpAnyH_take (i := 7) (v := ?_) rfl (by kernel_rfl) (by kernel_rfl) (by kernel_rfl) (fun _ _ _ h => h) (Or.inl ⟨by rfl, ?_⟩) (by assumption) ?_
        rotate_left
        · intro w hSw; (try dsimp only at hSw); go_simp; try with_reducible rfl
        try simp only [Act.put, List.getElem_toArray, List.getElem_cons_succ, List.getElem_cons_zero, List.setIfInBounds_toArray, List.set_cons_zero, List.set_cons_succ]
        refine wpAnyH_done (by kernel_rfl) ?_ _
        clear hHeld y2
        have HE7D := Lib.hid HE7.out.drew
        have HO7D := Lib.hid (row_below HO7.out (Below.refl _ _).drew)
        replace r0 : w7.drew.cell? ⟨b, o + k * 4, none⟩ = some (.int .i64 q) := r0
        replace r1 : w7.drew.cell? ⟨b, o + k * 4 + 1, none⟩ = some (.int .i64 f) := r1
        replace r2 : w7.drew.cell? ⟨b, o + k * 4 + 2, none⟩ = some (.string p) := r2
        replace r3 : w7.drew.cell? ⟨b, o + k * 4 + 3, none⟩ = some (.int .i64 d) := r3
        clear HE7 HO7 hst2
        generalize w7.drew = wd at HE7D HO7D r0 r1 r2 r3 ⊢
        cases st
        · have hne : (p.toList == mt.toList) = false := HST.out
          have hne3 : (!(p.toList == mt.toList)) = true := by rw [hne]; rfl
          have hL9 : (L).length ≤ 4000000 := hlen.out
          have e0 := (Below.refl wd.heap.size wd).alloc (Nat.le_refl _) (.cells #[.int .i64 q, .int .i64 f, .string p, .int .i64 d] 26)
          have OA := Lib.hid (row_below HO7D.out e0)
          have HSR : Hid (SrcAt (wd.alloc (.cells #[.int .i64 q, .int .i64 f, .string p, .int .i64 d] 26)) (.slice (some ⟨wd.heap.size, 0, none⟩) 1 1) 1 (mcells [(q, f, p, d)])) := Lib.hid ⟨_, _, rfl, .inr ⟨_, rfl, msg_new wd (q, f, p, d) 26⟩⟩
          have EA := Lib.hid (below_end HE7D.out e0)
          have HBA : Hid (w1.heap.size ≤ (wd.alloc (.cells #[.int .i64 q, .int .i64 f, .string p, .int .i64 d] 26)).heap.size) := Lib.hid EA.out.size
          clear e0
          go_wp2_with (at_builtin; go_must (refine wpList_append_src rfl _ _ 24 rfl w1.heap.size 26 ii (.agg #[.int .i64 0, .int .i64 0, .string ⟨#[]⟩, .int .i64 0]) 4 40 Tryz.underlying24 hii hz0 hz1 hz2 rfl (by decide) u6 (.slice (some ⟨wd.heap.size, 0, none⟩) 1 1) L.length 1 (mcells L) (mcells [(q, f, p, d)]) rfl OA.out rfl HSR.out rfl (mcells_one _) (by unfold maxLen; omega) (by omega) HBA.out ?_); intro v' wn hown hgr _)
          have ON : Hid (MOwn wn w1.heap.size v' (L ++ [(q, f, p, d)])) := Lib.hid (by skip; unfold MOwn; rw [List.length_append, mcells_app]; exact hown)
          have EN := Lib.hid (EA.out.grown hgr EA.out.size (fun j e => (OA.out.lt j e).1))
          clear hown hgr OA EA HSR HBA
          have HN : Hid (keptTo (mq, mf, mt, md) l (k + 1) = (L ++ [(q, f, p, d)], true)) := Lib.hid (by rw [HNX.out]; unfold keptStep; rw [show sameT p mt = false from HST.out, HPUT.out]; rfl)
          go_roundw
          case rel => exact ⟨k + 1, _, L ++ [(q, f, p, d)], true, by omega, by go_num, rfl, rfl, HN, ON, EN⟩
          case measure => simp [intOf]; omega
        · have hne : (p.toList == mt.toList) = true := HST.out
          have hne3 : (!(p.toList == mt.toList)) = false := by rw [hne]; rfl
          have HN : Hid (keptTo (mq, mf, mt, md) l (k + 1) = (L, true)) := Lib.hid (by rw [HNX.out]; unfold keptStep; rw [show sameT p mt = true from HST.out, HPUT.out]; rfl)
          clear r0 r1 r2 r3
          go_wp2
          go_roundw
          case rel => exact ⟨k + 1, _, L, true, by omega, by go_num, rfl, rfl, HN, HO7D, HE7D⟩
          case measure => simp [intOf]; omega
    · obtain rfl : k = l.length := by omega
      cases pp
      · have HKO2 : Hid (keptOut l (mq, mf, mt, md) = L ++ [(mq, mf, mt, md)]) := Lib.hid (by rw [HKO.out, HT.out]; rfl)
        obtain ⟨d0, d1, d2, d3⟩ := BOX0.out _ HEE.out
        have hL8 : L.length ≤ 2 * l.length := HLB.out
        have HRL : Hid (R = if 24 < (L ++ [(mq, mf, mt, md)]).length then (l, false) else (L ++ [(mq, mf, mt, md)], true)) := Lib.hid (by rw [HE.out, HKO2.out])
        by_cases h24 : 24 < L.length + 1
        · have g1 : decide ((24 : Int) < (L.length : Int) + 1) = true := decide_eq_true (by omega)
          have g2 : decide (24 < L.length + 1) = true := decide_eq_true h24
          have HRF : Hid (R = (l, false)) := Lib.hid (by rw [HRL.out, if_pos (by simpa using h24)])
          clear h24 HRL
          have e0 := (Below.refl wr.heap.size wr).alloc (Nat.le_refl _) (.cells #[.int .i64 mq, .int .i64 mf, .string mt, .int .i64 md] 26)
          have OA := Lib.hid (row_below HO.out e0)
          have HSR : Hid (SrcAt (wr.alloc (.cells #[.int .i64 mq, .int .i64 mf, .string mt, .int .i64 md] 26)) (.slice (some ⟨wr.heap.size, 0, none⟩) 1 1) 1 (mcells [(mq, mf, mt, md)])) := Lib.hid ⟨_, _, rfl, .inr ⟨_, rfl, msg_new wr (mq, mf, mt, md) 26⟩⟩
          have EA := Lib.hid (below_end HEE.out e0)
          have HBA : Hid (w1.heap.size ≤ (wr.alloc (.cells #[.int .i64 mq, .int .i64 mf, .string mt, .int .i64 md] 26)).heap.size) := Lib.hid EA.out.size
          clear e0
          go_wp2_with (at_builtin; go_must (refine wpList_append_src rfl _ _ 24 rfl w1.heap.size 26 ii (.agg #[.int .i64 0, .int .i64 0, .string ⟨#[]⟩, .int .i64 0]) 4 40 Tryz.underlying24 hii hz0 hz1 hz2 rfl (by decide) u6 (.slice (some ⟨wr.heap.size, 0, none⟩) 1 1) L.length 1 (mcells L) (mcells [(mq, mf, mt, md)]) rfl OA.out rfl HSR.out rfl (mcells_one _) (by unfold maxLen; omega) (by omega) HBA.out ?_); intro v8 w8 hown hgr _; obtain ⟨za, zc, hzu⟩ := own_slice hown; subst hzu)
          have HO8 : Hid (MOwn w8 w1.heap.size (.slice za (L.length + 1) zc) (L ++ [(mq, mf, mt, md)])) := Lib.hid (by skip; unfold MOwn; rw [List.length_append, mcells_app]; exact hown)
          have HE8 := Lib.hid (EA.out.grown hgr EA.out.size (fun j e => (OA.out.lt j e).1))
          clear hown hgr OA EA HSR HBA
          refine (CC.out _ (K1.out.below HE8.out)).mono ?_
          rintro e w9 ⟨u, rfl, ho, b9⟩
          have E9 := Lib.hid (below_end HE8.out b9)
          have O9 := Lib.hid (own_mono ho (show w.heap.size ≤ w8.heap.size from Nat.le_trans B1.out.size HE8.out.size))
          clear ho b9
          go_wp2
          go_ret2
          rw [HRF.out]
          exact ⟨_, rfl, O9.out, HB2W.out _ E9.out⟩
        · have g1 : decide ((24 : Int) < (L.length : Int) + 1) = false := decide_eq_false (by omega)
          have g2 : decide (24 < L.length + 1) = false := decide_eq_false h24
          have HRF : Hid (R = (L ++ [(mq, mf, mt, md)], true)) := Lib.hid (by rw [HRL.out, if_neg (by simpa using h24)])
          clear h24 HRL
          have e0 := (Below.refl wr.heap.size wr).alloc (Nat.le_refl _) (.cells #[.int .i64 mq, .int .i64 mf, .string mt, .int .i64 md] 26)
          have OA := Lib.hid (row_below HO.out e0)
          have HSR : Hid (SrcAt (wr.alloc (.cells #[.int .i64 mq, .int .i64 mf, .string mt, .int .i64 md] 26)) (.slice (some ⟨wr.heap.size, 0, none⟩) 1 1) 1 (mcells [(mq, mf, mt, md)])) := Lib.hid ⟨_, _, rfl, .inr ⟨_, rfl, msg_new wr (mq, mf, mt, md) 26⟩⟩
          have EA := Lib.hid (below_end HEE.out e0)
          have HBA : Hid (w1.heap.size ≤ (wr.alloc (.cells #[.int .i64 mq, .int .i64 mf, .string mt, .int .i64 md] 26)).heap.size) := Lib.hid EA.out.size
          clear e0
          go_wp2_with (at_builtin; go_must (refine wpList_append_src rfl _ _ 24 rfl w1.heap.size 26 ii (.agg #[.int .i64 0, .int .i64 0, .string ⟨#[]⟩, .int .i64 0]) 4 40 Tryz.underlying24 hii hz0 hz1 hz2 rfl (by decide) u6 (.slice (some ⟨wr.heap.size, 0, none⟩) 1 1) L.length 1 (mcells L) (mcells [(mq, mf, mt, md)]) rfl OA.out rfl HSR.out rfl (mcells_one _) (by unfold maxLen; omega) (by omega) HBA.out ?_); intro v8 w8 hown hgr _; obtain ⟨za, zc, hzu⟩ := own_slice hown; subst hzu)
          have HO8 : Hid (MOwn w8 w1.heap.size (.slice za (L.length + 1) zc) (L ++ [(mq, mf, mt, md)])) := Lib.hid (by skip; unfold MOwn; rw [List.length_append, mcells_app]; exact hown)
          have HE8 := Lib.hid (EA.out.grown hgr EA.out.size (fun j e => (OA.out.lt j e).1))
          clear hown hgr OA EA HSR HBA
          have HOF := Lib.hid (own_mono HO8.out (show w.heap.size ≤ w1.heap.size from B1.out.size))
          clear HO8
          go_ret2
          rw [HRF.out]
          exact ⟨_, rfl, HOF.out, HB2W.out _ HE8.out⟩
      · have HKO2 : Hid (keptOut l (mq, mf, mt, md) = L) := Lib.hid (by rw [HKO.out, HT.out]; rfl)
        obtain ⟨za, zc, hzu⟩ := own_slice HO.out
        subst hzu
        have HRL : Hid (R = if 24 < (L).length then (l, false) else (L, true)) := Lib.hid (by rw [HE.out, HKO2.out])
        by_cases h24 : 24 < (L).length
        · have g1 : decide ((24 : Int) < (((L).length : Nat) : Int)) = true := decide_eq_true (by omega)
          have g2 : decide (24 < (L).length) = true := decide_eq_true h24
          have HRF : Hid (R = (l, false)) := Lib.hid (by rw [HRL.out, if_pos h24])
          obtain ⟨n9, hn9⟩ : ∃ n, (L).length = n := ⟨_, rfl⟩
          rw [hn9] at g1 g2 HO ⊢
          clear hn9 h24 HRL
          go_wp2_with fail
          refine (CC.out _ (K1.out.below HEE.out)).mono ?_
          rintro e w9 ⟨u, rfl, ho, b9⟩
          have E9 := Lib.hid (below_end HEE.out b9)
          have O9 := Lib.hid (own_mono ho (show w.heap.size ≤ wr.heap.size from Nat.le_trans B1.out.size HEE.out.size))
          clear ho b9
          go_wp2
          go_ret2
          rw [HRF.out]
          exact ⟨_, rfl, O9.out, HB2W.out _ E9.out⟩
        · have g1 : decide ((24 : Int) < (((L).length : Nat) : Int)) = false := decide_eq_false (by omega)
          have g2 : decide (24 < (L).length) = false := decide_eq_false h24
          have HRF : Hid (R = (L, true)) := Lib.hid (by rw [HRL.out, if_neg h24])
          have HOF := Lib.hid (own_mono HO.out (show w.heap.size ≤ w1.heap.size from B1.out.size))
          obtain ⟨n9, hn9⟩ : ∃ n, (L).length = n := ⟨_, rfl⟩
          rw [hn9] at g1 g2 HOF ⊢
          clear h24 HRL HO
          go_wp2
          go_ret2
          rw [HRF.out]
          refine ⟨_, rfl, ?_, HB2W.out _ HEE.out⟩
          unfold MOwn
          dsimp only
          rw [hn9]
          exact HOF.out

end Go.Proofs.YtgkfnmbjlfmcmaaGreatDoor
