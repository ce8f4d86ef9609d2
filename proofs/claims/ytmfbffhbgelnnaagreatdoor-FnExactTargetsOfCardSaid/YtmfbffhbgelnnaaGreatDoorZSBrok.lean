/- The walk of the reference's BrokerOk: its head. -/
import Derived.Test.YtmfbffhbgelnnaaGreatDoorZB8
import Derived.Test.YtmfbffhbgelnnaaGreatDoorZB7
import Derived.Test.YtmfbffhbgelnnaaGreatDoorZB3
import Derived.Test.YtmfbffhbgelnnaaGreatDoorZSKeep
import Derived.Test.YtmfbffhbgelnnaaGreatDoorZB1
import Derived.Test.YtmfbffhbgelnnaaGreatDoorZSTrie8
import Derived.Deep.Cut
set_option linter.unusedSimpArgs false
set_option linter.unusedVariables false
namespace Go.Proofs.YtmfbffhbgelnnaaGreatDoor
open Go.RowKit

theorem headB_eq (b : BrokerM) : headB b = ((decide (1 ≤ b.max) && decide (b.max ≤ 100)) && (decide ((b.subs.length : Int) ≤ b.max) && (inB b.seq 0 100000 && (keepB b.keep && (uptoB b.keep b.seq && (ringB b.rcap b.ring && uptoB b.ring b.seq)))))) := rfl

/-- In the round of one sub: what lies where. -/
structure BRd (w wx : World) (b : BrokerM) (v : BrV) (S : SubM) (qv u : Value) (T : List KnotM) (G : Nat) : Prop where
  br : BBr wx w.heap.size 37 b v
  rows : BrAt wx v b
  trie : KnotsAt wx u T
  sub : wx.heap[G]? = some (.cells #[.string S.fil, .int .i64 S.box.cap, .int .i64 S.box.pol, qv, .int .i64 S.box.ofr, .int .i64 S.box.rcv, .int .i64 S.box.drp, .int .i64 S.box.mrg, .bool S.box.shut, .bool S.live] 64 (0, 0))
  q : MsgsAt wx qv S.box.q
  since : Below w.heap.size w wx
theorem BRd.below {w wx wy : World} {b : BrokerM} {v : BrV} {S : SubM} {qv u : Value} {T : List KnotM} {G : Nat} (h : BRd w wx b v S qv u T G) (hb : Below wx.heap.size wx wy) : BRd w wy b v S qv u T G :=
  ⟨h.br.below hb, h.rows.below hb, h.trie.below hb, (hb.block _ (Array.getElem?_eq_some_iff.1 h.sub).1).trans h.sub, h.q.below hb, below_end h.since hb⟩
theorem BRd.ys {w wx : World} {b : BrokerM} {v : BrV} {S : SubM} {qv u : Value} {T : List KnotM} {G : Nat} (h : BRd w wx b v S qv u T G) :
    wx.cell? ⟨G, 0, none⟩ = some (.string S.fil) ∧ wx.cell? ⟨G, 1, none⟩ = some (.int .i64 S.box.cap) ∧ wx.cell? ⟨G, 2, none⟩ = some (.int .i64 S.box.pol) ∧ wx.cell? ⟨G, 3, none⟩ = some qv ∧ wx.cell? ⟨G, 4, none⟩ = some (.int .i64 S.box.ofr) ∧
    wx.cell? ⟨G, 5, none⟩ = some (.int .i64 S.box.rcv) ∧ wx.cell? ⟨G, 6, none⟩ = some (.int .i64 S.box.drp) ∧ wx.cell? ⟨G, 7, none⟩ = some (.int .i64 S.box.mrg) ∧ wx.cell? ⟨G, 8, none⟩ = some (.bool S.box.shut) ∧ wx.cell? ⟨G, 9, none⟩ = some (.bool S.live) :=
  ⟨cell_of_heap h.sub 0, cell_of_heap h.sub 1, cell_of_heap h.sub 2, cell_of_heap h.sub 3, cell_of_heap h.sub 4, cell_of_heap h.sub 5, cell_of_heap h.sub 6, cell_of_heap h.sub 7, cell_of_heap h.sub 8, cell_of_heap h.sub 9⟩
theorem subB_eq (S : SubM) (n : Int) (c : Bool) : subB S n c = (filterP (parts S.fil 47) && (boxB S.box && (uptoB S.box.q n && !((!S.live || c) && !S.box.shut)))) := rfl

set_option maxRecDepth 100000 in
set_option maxHeartbeats 3200000 in
theorem specBrokerOk_any (b : BrokerM) (v : BrV) (w : World) (hs : BrSmall b) (hv : BrAt w v b) :
    Calls Tryz.prog 8 #[bragg b v] w fun e w' => e = .returned (.bool (brokerB b)) ∧ Below w.heap.size w w' := by
  have C1 := Lib.hid (fun w' => specIn_any b.max 1 100 w')
  have C2 := Lib.hid (fun w' => specCount_any b.seq w')
  have C3 := Lib.hid (fun w' (h : MsgsAt w' v.k b.keep) => specKeepOk_any v.k b.keep w' hs.keep hs.keeps h)
  have C4 := Lib.hid (fun w' (h : MsgsAt w' v.k b.keep) => specUpto_any v.k b.keep b.seq w' (by have := hs.keep; omega) h)
  have C5 := Lib.hid (fun w' (h : MsgsAt w' v.r b.ring) => specRingOk_any b.rcap v.r b.ring w' hs.ring hs.rings h)
  have C6 := Lib.hid (fun w' (h : MsgsAt w' v.r b.ring) => specUpto_any v.r b.ring b.seq w' (by have := hs.ring; omega) h)
  have HN := Lib.hid (headB_eq b)
  have HF : Hid (headB b = false → brokerB b = false) := Lib.hid brokerB_head
  have HSM := Lib.hid hs
  have HV := Lib.hid hv
  clear hs hv
  generalize (decide (1 ≤ b.max) && decide (b.max ≤ 100)) = p1 at C1 HN
  generalize inB b.seq 0 100000 = p2 at C2 HN
  generalize keepB b.keep = p3 at C3 HN
  generalize uptoB b.keep b.seq = p4 at C4 HN
  generalize ringB b.rcap b.ring = p5 at C5 HN
  generalize uptoB b.ring b.seq = p6 at C6 HN
  obtain ⟨vs, vt, vk, vr⟩ := v
  obtain ⟨a1, c1, hz, _, _, _⟩ := HV.out.subs
  dsimp only at hz
  subst hz
  obtain ⟨a3, c3, hz, _, _, _⟩ := HV.out.keep
  dsimp only at hz
  subst hz
  obtain ⟨a5, c5, hz, _, _, _⟩ := HV.out.ring
  dsimp only at hz
  subst hz
  go_enter Tryz.func8, Tryz.ntmps8
  dsimp only at C3 C4 C5 C6
  go_upto_region 1 with (fail)
  have b0 : Below w.heap.size w (w.alloc (.cells #[.int .i64 b.max, .slice a1 b.subs.length c1, vt, .slice a3 b.keep.length c3, .int .i64 b.rcap, .slice a5 b.ring.length c5, .int .i64 b.seq, .bool b.closed] 37)) := (Below.refl _ _).alloc (Nat.le_refl _) _
  have r0 : BBr (w.alloc (.cells #[.int .i64 b.max, .slice a1 b.subs.length c1, vt, .slice a3 b.keep.length c3, .int .i64 b.rcap, .slice a5 b.ring.length c5, .int .i64 b.seq, .bool b.closed] 37)) w.heap.size 37 b ⟨.slice a1 b.subs.length c1, vt, .slice a3 b.keep.length c3, .slice a5 b.ring.length c5⟩ := BBr.new _ _ _ ⟨.slice a1 b.subs.length c1, vt, .slice a3 b.keep.length c3, .slice a5 b.ring.length c5⟩
  have v0 := HV.out.below b0
  generalize (w.alloc (.cells #[.int .i64 b.max, .slice a1 b.subs.length c1, vt, .slice a3 b.keep.length c3, .int .i64 b.rcap, .slice a5 b.ring.length c5, .int .i64 b.seq, .bool b.closed] 37)) = w0 at b0 r0 v0 ⊢
  have B0 := Lib.hid b0
  have V0 := Lib.hid v0
  have R0 := Lib.hid r0
  obtain ⟨x0, x1, x2, x3, x4, x5, x6, x7⟩ := r0.cells
  dsimp only at x0 x1 x2 x3 x4 x5 x6 x7
  clear b0 v0 r0
  go_wp2_with fail
  refine (C1.out _).mono ?_
  rintro e w1 ⟨rfl, hw⟩
  subst hw
  cases p1
  · have HE := Lib.hid (HF.out (by rw [HN.out]; simp))
    go_wp2
    go_ret
    exact ⟨ret_bool HE.out.symm, B0.out⟩
  by_cases h2 : b.max < b.subs.length
  · have g2 : decide (b.max < b.subs.length) = true := decide_eq_true h2
    have HE := Lib.hid (HF.out (by rw [HN.out, decide_eq_false (show ¬ ((b.subs.length : Int) ≤ b.max) by omega)]; simp))
    clear h2
    go_wp2
    go_ret
    exact ⟨ret_bool HE.out.symm, B0.out⟩
  have g2 : decide (b.max < b.subs.length) = false := decide_eq_false h2
  replace HN := Lib.hid (show headB b = (p2 && (p3 && (p4 && (p5 && p6)))) by rw [HN.out, decide_eq_true (show (b.subs.length : Int) ≤ b.max by omega)]; simp)
  clear h2
  go_wp2_with fail
  refine (C2.out _).mono ?_
  rintro e w1 ⟨rfl, hw⟩
  subst hw
  cases p2
  · have HE := Lib.hid (HF.out (by rw [HN.out]; simp))
    go_wp2
    go_ret
    exact ⟨ret_bool HE.out.symm, B0.out⟩
  go_wp2_with fail
  refine (C3.out _ V0.out.keep).mono ?_
  rintro e w1 ⟨rfl, hb⟩
  have b1 := below_end B0.out hb
  have v1 := V0.out.below hb
  have r1 := R0.out.below hb
  clear hb x0 x1 x2 x3 x4 x5 x6 x7 B0 V0 R0
  have B1 := Lib.hid b1
  have V1 := Lib.hid v1
  have R1 := Lib.hid r1
  obtain ⟨x0, x1, x2, x3, x4, x5, x6, x7⟩ := r1.cells
  dsimp only at x0 x1 x2 x3 x4 x5 x6 x7
  clear b1 v1 r1
  cases p3
  · have HE := Lib.hid (HF.out (by rw [HN.out]; simp))
    go_wp2
    go_ret
    exact ⟨ret_bool HE.out.symm, B1.out⟩
  go_wp2_with fail
  refine (C4.out _ V1.out.keep).mono ?_
  rintro e w2 ⟨rfl, hb⟩
  have b2 := below_end B1.out hb
  have v2 := V1.out.below hb
  have r2 := R1.out.below hb
  clear hb x0 x1 x2 x3 x4 x5 x6 x7 B1 V1 R1
  have B2 := Lib.hid b2
  have V2 := Lib.hid v2
  have R2 := Lib.hid r2
  obtain ⟨x0, x1, x2, x3, x4, x5, x6, x7⟩ := r2.cells
  dsimp only at x0 x1 x2 x3 x4 x5 x6 x7
  clear b2 v2 r2
  cases p4
  · have HE := Lib.hid (HF.out (by rw [HN.out]; simp))
    go_wp2
    go_ret
    exact ⟨ret_bool HE.out.symm, B2.out⟩
  go_wp2_with fail
  refine (C5.out _ V2.out.ring).mono ?_
  rintro e w3 ⟨rfl, hb⟩
  have b3 := below_end B2.out hb
  have v3 := V2.out.below hb
  have r3 := R2.out.below hb
  clear hb x0 x1 x2 x3 x4 x5 x6 x7 B2 V2 R2
  have B3 := Lib.hid b3
  have V3 := Lib.hid v3
  have R3 := Lib.hid r3
  obtain ⟨x0, x1, x2, x3, x4, x5, x6, x7⟩ := r3.cells
  dsimp only at x0 x1 x2 x3 x4 x5 x6 x7
  clear b3 v3 r3
  cases p5
  · have HE := Lib.hid (HF.out (by rw [HN.out]; simp))
    go_wp2
    go_ret
    exact ⟨ret_bool HE.out.symm, B3.out⟩
  go_wp2_with fail
  refine (C6.out _ V3.out.ring).mono ?_
  rintro e w4 ⟨rfl, hb⟩
  have b4 := below_end B3.out hb
  have v4 := V3.out.below hb
  have r4 := R3.out.below hb
  clear hb x0 x1 x2 x3 x4 x5 x6 x7 B3 V3 R3
  have B4 := Lib.hid b4
  have V4 := Lib.hid v4
  have R4 := Lib.hid r4
  obtain ⟨x0, x1, x2, x3, x4, x5, x6, x7⟩ := r4.cells
  dsimp only at x0 x1 x2 x3 x4 x5 x6 x7
  clear b4 v4 r4
  cases p6
  · have HE := Lib.hid (HF.out (by rw [HN.out]; simp))
    go_wp2
    go_ret
    exact ⟨ret_bool HE.out.symm, B4.out⟩
  have HH := Lib.hid (show headB b = true by rw [HN.out]; simp)
  clear HN C1 C2 C3 C4 C5 C6 HF
  go_upto_region 3 with (fail)
  have HL : b.subs.length ≤ 100 := by
    have h := HH.out
    rw [headB_eq] at h
    simp only [Bool.and_eq_true, decide_eq_true_eq] at h
    omega
  have HFT := Lib.hid (fun k (h : k ≤ b.subs.length) (hs : subsB (b.subs.take k) b.seq b.closed = true) => trieTo_small hs (by omega : k ≤ 100))
  clear x0 x1 x2 x3 x4 x5 x6 x7
  go_wp2_with fail
  refine (specNewTrie_any _).mono ?_
  rintro e w5 ⟨u5, rfl, k5, hb⟩
  have K5 := Lib.hid (own_knots_at k5)
  have B5 := Lib.hid (below_end B4.out hb)
  have V5 := Lib.hid (V4.out.below hb)
  have R5 := Lib.hid (R4.out.below hb)
  clear hb k5 B4 V4 R4
  go_wp2
  go_loopw [3, 4] (fun u n wr => ∃ k : Nat, k ≤ b.subs.length ∧ n = .int .i64 k ∧ Hid (subsB (b.subs.take k) b.seq b.closed = true) ∧ Hid (KnotsAt wr u (trieTo b.subs k)) ∧ Hid (BBr wr w.heap.size 37 b ⟨.slice a1 b.subs.length c1, vt, .slice a3 b.keep.length c3, .slice a5 b.ring.length c5⟩) ∧ Hid (BrAt wr ⟨.slice a1 b.subs.length c1, vt, .slice a3 b.keep.length c3, .slice a5 b.ring.length c5⟩ b) ∧ Hid (Below w.heap.size w wr)) (fun _ n _ => b.subs.length - (intOf n).toNat)
  case atStart => exact ⟨0, Nat.zero_le _, rfl, Lib.hid (by simp [subsB]), K5, R5, V5, B5⟩
  case round =>
    obtain ⟨k, hk, rfl, HS, HK, HR, HVr, HB⟩ := hrel
    clear K5 R5 V5 B5
    obtain ⟨x0, x1, x2, x3, x4, x5, x6, x7⟩ := HR.out.cells
    dsimp only at x0 x1 x2 x3 x4 x5 x6 x7
    by_cases hlt : k < b.subs.length
    · obtain ⟨bb, oo, rfl, hin⟩ : ∃ bb oo, a1 = some ⟨bb, oo, none⟩ ∧ ∀ (j : Nat) (hj : j < b.subs.length), SubIn wr bb (oo + j * 10) b.subs[j] := by
        obtain ⟨a', c', he, _, _, h3⟩ := HVr.out.subs
        cases he
        rcases h3 with h | h
        · rw [h] at hlt; simp at hlt
        · exact h
      obtain ⟨us, hq, hra⟩ := hin k hlt
      have HTS := Lib.hid (trieTo_succ hlt)
      have HSB := Lib.hid (fun h => subsB_succ hlt HS.out h)
      have HSX := Lib.hid (fun h => brokerB_sub hlt h)
      have hsf := HSM.out.fils _ (List.getElem_mem hlt)
      have hsq := HSM.out.qs _ (List.getElem_mem hlt)
      generalize b.subs[k] = S at hq hra HTS HSB HSX hsf hsq
      have HQ := Lib.hid hq
      obtain ⟨qa, qc, rfl, _, _, _⟩ := hq
      have HSF := Lib.hid hsf
      have HSQ := Lib.hid hsq
      clear hsf hsq
      have p0 : wr.cell? ⟨bb, oo + k * 10, none⟩ = some (.string S.fil) := hra 0 _ rfl
      have p1 : wr.cell? ⟨bb, oo + k * 10 + 1, none⟩ = some (.int .i64 S.box.cap) := hra 1 _ rfl
      have p2 : wr.cell? ⟨bb, oo + k * 10 + 2, none⟩ = some (.int .i64 S.box.pol) := hra 2 _ rfl
      have p3 : wr.cell? ⟨bb, oo + k * 10 + 3, none⟩ = some (.slice qa S.box.q.length qc) := hra 3 _ rfl
      have p4 : wr.cell? ⟨bb, oo + k * 10 + 4, none⟩ = some (.int .i64 S.box.ofr) := hra 4 _ rfl
      have p5 : wr.cell? ⟨bb, oo + k * 10 + 5, none⟩ = some (.int .i64 S.box.rcv) := hra 5 _ rfl
      have p6 : wr.cell? ⟨bb, oo + k * 10 + 6, none⟩ = some (.int .i64 S.box.drp) := hra 6 _ rfl
      have p7 : wr.cell? ⟨bb, oo + k * 10 + 7, none⟩ = some (.int .i64 S.box.mrg) := hra 7 _ rfl
      have p8 : wr.cell? ⟨bb, oo + k * 10 + 8, none⟩ = some (.bool S.box.shut) := hra 8 _ rfl
      have p9 : wr.cell? ⟨bb, oo + k * 10 + 9, none⟩ = some (.bool S.live) := hra 9 _ rfl
      clear hin hra
      go_upto_region 8 with (fail)
      have CF := Lib.hid (fun wx => specFilter_any S.fil wx (by have := HSF.out; omega))
      have CB := Lib.hid (fun wx h => specBoxOk_any S.box (.slice qa S.box.q.length qc) wx HSQ.out.2 h)
      have CU := Lib.hid (fun wx h => specUpto_any (.slice qa S.box.q.length qc) S.box.q b.seq wx (by have := HSQ.out.1; omega) h)
      have HU := Lib.hid (subB_eq S b.seq b.closed)
      have q8 := (Below.refl wr.heap.size wr).alloc (Nat.le_refl _) (.cells #[.string S.fil, .int .i64 S.box.cap, .int .i64 S.box.pol, .slice qa S.box.q.length qc, .int .i64 S.box.ofr, .int .i64 S.box.rcv, .int .i64 S.box.drp, .int .i64 S.box.mrg, .bool S.box.shut, .bool S.live] 64)
      have D8 : BRd w (wr.alloc (.cells #[.string S.fil, .int .i64 S.box.cap, .int .i64 S.box.pol, .slice qa S.box.q.length qc, .int .i64 S.box.ofr, .int .i64 S.box.rcv, .int .i64 S.box.drp, .int .i64 S.box.mrg, .bool S.box.shut, .bool S.live] 64)) b ⟨.slice (some ⟨bb, oo, none⟩) b.subs.length c1, vt, .slice a3 b.keep.length c3, .slice a5 b.ring.length c5⟩ S (.slice qa S.box.q.length qc) u3 (trieTo b.subs k) wr.heap.size := ⟨HR.out.below q8, HVr.out.below q8, HK.out.below q8, heap_alloc_new _ _, HQ.out.below q8, below_end HB.out q8⟩
      generalize wr.alloc (.cells #[.string S.fil, .int .i64 S.box.cap, .int .i64 S.box.pol, .slice qa S.box.q.length qc, .int .i64 S.box.ofr, .int .i64 S.box.rcv, .int .i64 S.box.drp, .int .i64 S.box.mrg, .bool S.box.shut, .bool S.live] 64) = w8 at q8 D8 ⊢
      obtain ⟨G, hG⟩ : ∃ G, wr.heap.size = G := ⟨_, rfl⟩
      rw [hG] at D8 ⊢
      clear hG q8 HR HVr HK HQ HB x0 x1 x2 x3 x4 x5 x6 x7 p0 p1 p2 p3 p4 p5 p6 p7 p8 p9
      generalize filterP (parts S.fil 47) = f at CF HU
      generalize boxB S.box = bx at CB HU
      generalize uptoB S.box.q b.seq = up at CU HU
      obtain ⟨x0, x1, x2, x3, x4, x5, x6, x7⟩ := D8.br.cells
      dsimp only at x0 x1 x2 x3 x4 x5 x6 x7
      obtain ⟨y0, y1, y2, y3, y4, y5, y6, y7, y8, y9⟩ := D8.ys
      have D8 := Lib.hid D8
      go_wp2_with fail
      refine (CF.out _).mono ?_
      rintro e w9 ⟨rfl, hb⟩
      have D9 := D8.out.below hb
      clear D8 hb x0 x1 x2 x3 x4 x5 x6 x7 y0 y1 y2 y3 y4 y5 y6 y7 y8 y9 CF
      cases f
      · have HE := Lib.hid (HSX.out (by rw [HU.out]; rfl))
        have D9 := Lib.hid D9
        go_wp2
        go_ret
        exact ⟨ret_bool HE.out.symm, D9.out.since⟩
      obtain ⟨x0, x1, x2, x3, x4, x5, x6, x7⟩ := D9.br.cells
      dsimp only at x0 x1 x2 x3 x4 x5 x6 x7
      obtain ⟨y0, y1, y2, y3, y4, y5, y6, y7, y8, y9⟩ := D9.ys
      have D9 := Lib.hid D9
      go_wp2_with fail
      refine (CB.out _ D9.out.q).mono ?_
      rintro e w10 ⟨rfl, hb⟩
      have D10 := D9.out.below hb
      clear D9 hb x0 x1 x2 x3 x4 x5 x6 x7 y0 y1 y2 y3 y4 y5 y6 y7 y8 y9 CB
      cases bx
      · have HE := Lib.hid (HSX.out (by rw [HU.out]; rfl))
        have D10 := Lib.hid D10
        go_wp2
        go_ret
        exact ⟨ret_bool HE.out.symm, D10.out.since⟩
      obtain ⟨x0, x1, x2, x3, x4, x5, x6, x7⟩ := D10.br.cells
      dsimp only at x0 x1 x2 x3 x4 x5 x6 x7
      obtain ⟨y0, y1, y2, y3, y4, y5, y6, y7, y8, y9⟩ := D10.ys
      have D10 := Lib.hid D10
      go_wp2_with fail
      refine (CU.out _ D10.out.q).mono ?_
      rintro e w11 ⟨rfl, hb⟩
      have D11 := D10.out.below hb
      clear D10 hb x0 x1 x2 x3 x4 x5 x6 x7 y0 y1 y2 y3 y4 y5 y6 y7 y8 y9 CU
      cases up
      · have HE := Lib.hid (HSX.out (by rw [HU.out]; rfl))
        have D11 := Lib.hid D11
        go_wp2
        go_ret
        exact ⟨ret_bool HE.out.symm, D11.out.since⟩
      obtain ⟨x0, x1, x2, x3, x4, x5, x6, x7⟩ := D11.br.cells
      dsimp only at x0 x1 x2 x3 x4 x5 x6 x7
      obtain ⟨y0, y1, y2, y3, y4, y5, y6, y7, y8, y9⟩ := D11.ys
      have D11 := Lib.hid D11
      clear x0 x1 x2 x3 x4 x5 y1 y2 y3 y4 y5 y6 y7
      have HU := Lib.hid (show subB S b.seq b.closed = !((!S.live || b.closed) && !S.box.shut) by rw [HU.out]; simp)
      obtain ⟨lv, hlv⟩ : ∃ z, S.live = z := ⟨_, rfl⟩
      obtain ⟨cl, hcl⟩ : ∃ z, b.closed = z := ⟨_, rfl⟩
      obtain ⟨sh, hsh⟩ : ∃ z, S.box.shut = z := ⟨_, rfl⟩
      have HST := Lib.hid (fun h : lv = true => HTS.out.trans (stepT_live (hlv.trans h)))
      have HSD := Lib.hid (fun h : lv = false => HTS.out.trans (stepT_dead (hlv.trans h)))
      replace HU := Lib.hid (show subB S b.seq b.closed = !((!lv || cl) && !sh) by rw [HU.out, hlv, hcl, hsh])
      rw [hlv] at y9
      rw [hcl] at x7
      rw [hsh] at y8
      clear hlv hcl hsh HTS
      cases lv
      · cases sh
        · skip
          have HE := Lib.hid (HSX.out (by rw [HU.out]; rfl))
          go_wp2
          go_ret
          exact ⟨ret_bool HE.out.symm, D11.out.since⟩
        · skip
          have HE := Lib.hid (HSB.out (by rw [HU.out]; rfl))
          have HT2 := Lib.hid (HSD.out rfl)
          go_wp2
          go_roundw
          case rel => exact ⟨k + 1, by omega, by go_num, HE, Lib.hid (by rw [HT2.out]; exact D11.out.trie), Lib.hid D11.out.br, Lib.hid D11.out.rows, Lib.hid D11.out.since⟩
          case measure => simp [intOf]; omega
      · cases cl
        · cases sh
          · skip
            have HE := Lib.hid (HSB.out (by rw [HU.out]; rfl))
            have HT2 := Lib.hid (HST.out rfl)
            have CW := Lib.hid (specWith_any u3 (trieTo b.subs k) S.fil (k : Int) w11 (HFT.out k hk HS.out) (by have := HSF.out; omega) D11.out.trie)
            go_wp2_with fail
            refine CW.out.mono ?_
            rintro e w12 ⟨u4, rfl, k12, hb⟩
            have K12 := Lib.hid (own_knots_at k12)
            have D12 := Lib.hid (D11.out.below hb)
            clear k12 hb x6 x7 y0 y8 y9 D11 CW
            go_wp2
            go_roundw
            case rel => exact ⟨k + 1, by omega, by go_num, HE, Lib.hid (by rw [HT2.out]; exact K12.out), Lib.hid D12.out.br, Lib.hid D12.out.rows, Lib.hid D12.out.since⟩
            case measure => simp [intOf]; omega
          · skip
            have HE := Lib.hid (HSB.out (by rw [HU.out]; rfl))
            have HT2 := Lib.hid (HST.out rfl)
            have CW := Lib.hid (specWith_any u3 (trieTo b.subs k) S.fil (k : Int) w11 (HFT.out k hk HS.out) (by have := HSF.out; omega) D11.out.trie)
            go_wp2_with fail
            refine CW.out.mono ?_
            rintro e w12 ⟨u4, rfl, k12, hb⟩
            have K12 := Lib.hid (own_knots_at k12)
            have D12 := Lib.hid (D11.out.below hb)
            clear k12 hb x6 x7 y0 y8 y9 D11 CW
            go_wp2
            go_roundw
            case rel => exact ⟨k + 1, by omega, by go_num, HE, Lib.hid (by rw [HT2.out]; exact K12.out), Lib.hid D12.out.br, Lib.hid D12.out.rows, Lib.hid D12.out.since⟩
            case measure => simp [intOf]; omega
        · cases sh
          · skip
            have HE := Lib.hid (HSX.out (by rw [HU.out]; rfl))
            go_wp2
            go_ret
            exact ⟨ret_bool HE.out.symm, D11.out.since⟩
          · skip
            have HE := Lib.hid (HSB.out (by rw [HU.out]; rfl))
            have HT2 := Lib.hid (HST.out rfl)
            have CW := Lib.hid (specWith_any u3 (trieTo b.subs k) S.fil (k : Int) w11 (HFT.out k hk HS.out) (by have := HSF.out; omega) D11.out.trie)
            go_wp2_with fail
            refine CW.out.mono ?_
            rintro e w12 ⟨u4, rfl, k12, hb⟩
            have K12 := Lib.hid (own_knots_at k12)
            have D12 := Lib.hid (D11.out.below hb)
            clear k12 hb x6 x7 y0 y8 y9 D11 CW
            go_wp2
            go_roundw
            case rel => exact ⟨k + 1, by omega, by go_num, HE, Lib.hid (by rw [HT2.out]; exact K12.out), Lib.hid D12.out.br, Lib.hid D12.out.rows, Lib.hid D12.out.since⟩
            case measure => simp [intOf]; omega
    · obtain rfl : k = b.subs.length := by omega
      have HE := Lib.hid (brokerB_end HH.out (by have h := HS.out; rwa [List.take_length] at h))
      have CT := Lib.hid (fun h1 h2 => specTries_any _ _ _ _ _ h1 h2 (fun x hx => Nat.le_trans ((HFT.out _ (Nat.le_refl _) HS.out).2 x hx).2 (by omega)) (fun x hx => Nat.le_trans (HSM.out.trie.2 x hx).2 (by omega)) HK.out HVr.out.trie)
      go_wp2_with fail
      refine (CT.out (Nat.le_trans (HFT.out _ (Nat.le_refl _) HS.out).1 (by omega)) (Nat.le_trans HSM.out.trie.1 (by omega))).mono ?_
      rintro e w6 ⟨rfl, hb⟩
      go_wp2
      go_ret
      exact ⟨ret_bool HE.out.symm, below_end HB.out hb⟩

end Go.Proofs.YtmfbffhbgelnnaaGreatDoor
