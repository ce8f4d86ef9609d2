/- Small texts, laid together. -/
import Derived.Test.YtddgfbmollfmeaaDoorZIMsg
import Derived.Test.YtddgfbmollfmeaaDoorZSRing
import Derived.Test.YtddgfbmollfmeaaDoorZB2
import Derived.Test.YtddgfbmollfmeaaDoorZB3
set_option linter.unusedSimpArgs false
set_option linter.unusedVariables false
/- The walk of impl.RingOk. -/
namespace Go.Proofs.YtddgfbmollfmeaaDoor
open Go.RowKit

set_option maxRecDepth 100000 in
set_option maxHeartbeats 1600000 in
theorem implRingOk_any (cap : Int) (v : Value) (l : List MsgM) (m : Int) (w : World) (hl : l.length ≤ 1048576) (hs : ∀ x ∈ l, x.2.2.1.size ≤ 1048576) (hv : MsgsAt w v l) (hm : w.cell? ⟨0, 0, none⟩ = some (.int .i64 m)) :
    Calls Tryd.prog 9 #[.agg #[.int .i64 cap, v]] w fun e w' => e = .returned (.bool (ringB cap l)) ∧ Below w.heap.size w w' := by
  have C2 := Lib.hid (fun w' (h : MsgsAt w' v l) hm => implMsgsOk_any v l m w' hl hs h hm)
  have HB : Hid (ringB cap l = ((decide (0 ≤ cap) && decide (cap ≤ 32)) && msgsB l && decide ((l.length : Int) ≤ cap))) := rfl
  have HV := Lib.hid hv
  have HM := Lib.hid hm
  obtain ⟨ua, uc, rfl, _, _, _⟩ := hv
  generalize msgsB l = b2 at C2 HB
  clear hm hs
  go_enter Tryd.func9, Tryd.ntmps9
  by_cases h1 : 0 ≤ cap
  · have g1 : decide (0 ≤ cap) = true := decide_eq_true h1
    by_cases h2 : cap ≤ 32
    · have g2 : decide (cap ≤ 32) = true := decide_eq_true h2
      by_cases h3 : (l.length : Int) ≤ cap
      · have g3 : decide ((l.length : Int) ≤ cap) = true := decide_eq_true h3
        go_wp2_with fail
        have ha := (Below.refl w.heap.size w).alloc (Nat.le_refl _) (.cells #[.int .i64 cap, .slice ua l.length uc] 29)
        refine (C2.out _ (HV.out.below ha) ((ha.cell (World.block_lt_of_cell? _ _ HM.out)).trans HM.out)).mono ?_
        rintro e w1 ⟨rfl, hb⟩
        have HE := Lib.hid (below_end ha hb)
        clear ha hb
        go_wp2
        go_ret
        exact ⟨ret_bool (by rw [HB.out, g1, g2, g3]; simp), HE.out⟩
      · have g3 : decide ((l.length : Int) ≤ cap) = false := decide_eq_false h3
        go_wp2
        go_ret
        exact ⟨ret_bool (by rw [HB.out, g3]; simp), (Below.refl _ _).alloc (Nat.le_refl _) _⟩
    · have g2 : decide (cap ≤ 32) = false := decide_eq_false h2
      go_wp2
      go_ret
      exact ⟨ret_bool (by rw [HB.out, g2]; simp), (Below.refl _ _).alloc (Nat.le_refl _) _⟩
  · have g1 : decide (0 ≤ cap) = false := decide_eq_false h1
    go_wp2
    go_ret
    exact ⟨ret_bool (by rw [HB.out, g1]; simp), (Below.refl _ _).alloc (Nat.le_refl _) _⟩

end Go.Proofs.YtddgfbmollfmeaaDoor

/- The walk of the reference's LatestOf. -/
namespace Go.Proofs.YtddgfbmollfmeaaDoor
open Go.RowKit

/-- Those of which the topic matches. -/
def pickM (f : ByteArray) (l : List MsgM) : List MsgM := l.filter fun x => matchB f x.2.2.1

theorem pickM_len (f : ByteArray) (l : List MsgM) : (pickM f l).length ≤ l.length := List.length_filter_le _ _

theorem pickM_next (f : ByteArray) (l : List MsgM) (a k : Nat) (ha : a ≤ k) (h : k < l.length) (b : Bool) (hb : matchB f l[k].2.2.1 = b) :
    pickM f ((l.take (k + 1)).drop a) = pickM f ((l.take k).drop a) ++ (if b then [l[k]] else []) := by
  rw [List.take_succ_eq_append_getElem h, List.drop_append_of_le_length (by rw [List.length_take]; omega)]
  unfold pickM
  rw [List.filter_append]
  cases b <;> simp [hb]

def latestM (cap : Int) (l : List MsgM) (n : Int) (f : ByteArray) : List MsgM := if ringB cap l = true ∧ 0 ≤ n then pickM f (l.drop (l.length - n.toNat)) else []

theorem latestM_len (cap : Int) (l : List MsgM) (n : Int) (f : ByteArray) : (latestM cap l n f).length ≤ l.length := by
  unfold latestM
  split
  · exact Nat.le_trans (pickM_len _ _) (by rw [List.length_drop]; omega)
  · simp

set_option maxRecDepth 100000 in
set_option maxHeartbeats 3200000 in
theorem specLatest_any (cap : Int) (v : Value) (l : List MsgM) (n : Int) (f : ByteArray) (w : World) (hl : l.length ≤ 1048576) (hs : ∀ x ∈ l, x.2.2.1.size ≤ 1048576) (hf : f.size ≤ 1048576) (hn : n ≤ 9223372036854775807) (hv : MsgsAt w v l) :
    Calls Tryd.prog 17 #[.agg #[.int .i64 cap, v], .int .i64 n, .string f] w fun e w' => ∃ u, e = .returned u ∧ MOwn w' w.heap.size u (latestM cap l n f) ∧ Below w.heap.size w w' := by
  have CR := Lib.hid (fun w' (h : MsgsAt w' v l) => specRingOk_any cap v l w' hl hs h)
  have HLT : Hid (latestM cap l n f = if ringB cap l = true ∧ 0 ≤ n then pickM f (l.drop (l.length - n.toNat)) else []) := rfl
  have HV := Lib.hid hv
  have HS := Lib.hid hs
  obtain ⟨ua, uc, rfl, huc1, huc2, h3⟩ := hv
  have HC := Lib.hid h3
  obtain ⟨b1, hb1⟩ : ∃ b, ringB cap l = b := ⟨_, rfl⟩
  rw [hb1] at CR HLT
  clear hb1 hs h3
  unfold maxLen at huc2
  obtain ⟨i0, hi, hz0, hz1, hz2⟩ := msg_info
  go_enter Tryd.func17, Tryd.ntmps17
  go_wp2_with fail
  have hb0 : Below w.heap.size w ((w.alloc (.cells #[.int .i64 cap, .slice ua l.length uc] 29)).alloc (.cells #[] 38)) := ((Below.refl _ _).alloc (Nat.le_refl _) _).alloc (by simp) _
  have hr0 : MOwn ((w.alloc (.cells #[.int .i64 cap, .slice ua l.length uc] 29)).alloc (.cells #[] 38)) (w.heap.size + 1) (.slice (some ⟨w.heap.size + 1, 0, none⟩) 0 0) [] := by
    have := World.ownsRow_lit (base := w.heap.size + 1) (e := 38) (size := 4) (w.alloc (.cells #[.int .i64 cap, .slice ua l.length uc] 29)) #[] 0 (by simp) (by unfold maxLen; omega) rfl
    rw [World.size_alloc] at this
    exact this
  have hs0 : ((w.alloc (.cells #[.int .i64 cap, .slice ua l.length uc] 29)).alloc (.cells #[] 38)).heap.size = w.heap.size + 1 + 1 := by simp
  have c0 : ((w.alloc (.cells #[.int .i64 cap, .slice ua l.length uc] 29)).alloc (.cells #[] 38)).cell? ⟨w.heap.size, 0, none⟩ = some (.int .i64 cap) := by
    rw [World.cell?_alloc_lt _ _ _ (by simp), World.cell?_alloc_at _ _ _ _ rfl]; rfl
  have c1 : ((w.alloc (.cells #[.int .i64 cap, .slice ua l.length uc] 29)).alloc (.cells #[] 38)).cell? ⟨w.heap.size, 1, none⟩ = some (.slice ua l.length uc) := by
    rw [World.cell?_alloc_lt _ _ _ (by simp), World.cell?_alloc_at _ _ _ _ rfl]; rfl
  generalize ((w.alloc (.cells #[.int .i64 cap, .slice ua l.length uc] 29)).alloc (.cells #[] 38)) = w0 at hb0 hr0 hs0 c0 c1 ⊢
  refine (CR.out _ (HV.out.below hb0)).mono ?_
  rintro e w1 ⟨rfl, hb⟩
  have d0 := (below_cell hb (by omega)).trans c0
  have d1 := (below_cell hb (by omega)).trans c1
  have B1 := Lib.hid (hb0.trans (hb.mono hb0.size))
  have R1 : Hid (MOwn w1 (w.heap.size + 1) _ []) := Lib.hid (row_below hr0 hb)
  clear hb0 hr0 hs0 c0 c1 hb CR
  cases b1
  · have HE : Hid (latestM cap l n f = []) := Lib.hid (by rw [HLT.out]; simp)
    go_wp2
    go_ret
    exact ⟨_, rfl, by rw [HE.out]; exact own_mono R1.out (by omega), B1.out⟩
  by_cases hn0 : n < 0
  · have HE : Hid (latestM cap l n f = []) := Lib.hid (by rw [HLT.out, if_neg (by omega)])
    go_wp2
    go_ret
    exact ⟨_, rfl, by rw [HE.out]; exact own_mono R1.out (by omega), B1.out⟩
  have HE : Hid (latestM cap l n f = pickM f (l.drop (l.length - n.toNat))) := Lib.hid (by rw [HLT.out, if_pos ⟨rfl, by omega⟩])
  obtain ⟨fr, hfr⟩ : ∃ fr, l.length - n.toNat = fr := ⟨_, rfl⟩
  rw [hfr] at HE
  have g1 : IntKind.i64.wrap ((l.length : Int) - n) = (l.length : Int) - n := by rw [IntKind.wrap_i64]; omega
  have CX := Lib.hid (fun w' => specMax_any 0 ((l.length : Int) - n) w')
  rw [show max 0 ((l.length : Int) - n) = (fr : Int) by omega] at CX
  have hfl : fr ≤ l.length := by omega
  clear HLT hfr
  go_wp2_with fail
  refine (CX.out _).mono ?_
  rintro e w2 ⟨rfl, rfl⟩
  clear CX
  go_wp2_with fail
  go_loopw [7, 9] (fun out i wr => ∃ k : Nat, fr ≤ k ∧ k ≤ l.length ∧ i = .int .i64 k ∧ wr.cell? ⟨w.heap.size, 1, none⟩ = some (.slice ua l.length uc) ∧ Hid (MOwn wr (w.heap.size + 1) out (pickM f ((l.take k).drop fr))) ∧ Hid (Below w.heap.size w wr)) (fun _ i _ => l.length - (intOf i).toNat)
  case atStart => exact ⟨fr, Nat.le_refl _, hfl, rfl, d1, by rw [show (l.take fr).drop fr = [] by simp]; exact R1, B1⟩
  case round =>
    obtain ⟨k, hkf, hk, rfl, hd, HO, HB⟩ := hrel
    clear d0 d1 R1 B1
    by_cases hlt : k < l.length
    · obtain ⟨b, o, rfl, hin⟩ : ∃ b o, ua = some ⟨b, o, none⟩ ∧ MsgsIn w b o l := by
        rcases HC.out with h | h
        · subst h; simp at hlt
        · exact h
      obtain ⟨p0, p1, p2, p3⟩ := (hin.below HB.out) k hlt
      obtain ⟨mb, hmb⟩ : ∃ mb, matchB f l[k].2.2.1 = mb := ⟨_, rfl⟩
      have CM := Lib.hid (specMatches_any f l[k].2.2.1 wr hf (HS.out _ (List.getElem_mem hlt)))
      have HP := Lib.hid (pickM_next f l fr k hkf hlt mb hmb)
      have hpl : (pickM f ((l.take k).drop fr)).length ≤ 1048576 := by
        have := pickM_len f ((l.take k).drop fr)
        rw [List.length_drop, List.length_take] at this; omega
      rw [hmb] at CM
      obtain ⟨x, hx⟩ : ∃ x, l[k] = x := ⟨_, rfl⟩
      rw [hx] at p0 p1 p2 p3 CM HP
      have hbw := World.block_lt_of_cell? _ _ p0
      have hBw : w.heap.size < wr.heap.size := World.block_lt_of_cell? _ _ hd
      generalize pickM f ((l.take k).drop fr) = L at HO HP hpl
      clear hin hx hmb
      go_wp2_with fail
      refine CM.out.mono ?_
      rintro e w3 ⟨rfl, hb⟩
      have q0 := (below_cell hb hbw).trans p0
      have q1 := (below_cell hb hbw).trans p1
      have q2 := (below_cell hb hbw).trans p2
      have q3 := (below_cell hb hbw).trans p3
      have hd3 := (below_cell hb hBw).trans hd
      have HO3 : Hid (MOwn w3 (w.heap.size + 1) u7 L) := Lib.hid (row_below HO.out hb)
      have HB3 := Lib.hid (below_end HB.out hb)
      have hBw3 : w.heap.size < w3.heap.size := World.block_lt_of_cell? _ _ hd3
      clear hb p0 p1 p2 p3 hd CM HO HB
      cases mb
      · have HN : Hid (MOwn w3 (w.heap.size + 1) u7 (pickM f ((l.take (k + 1)).drop fr))) := Lib.hid (by rw [HP.out]; simpa using HO3.out)
        clear HP
        go_wp2
        go_roundw
        case rel => exact ⟨k + 1, by omega, by omega, by go_num, hd3, HN, HB3⟩
        case measure => simp [intOf]; omega
      · go_wp2_with (at_builtin; refine wpList_append_own _ rfl _ _ 27 rfl (w.heap.size + 1) 38 i0 (.agg #[.int .i64 0, .int .i64 0, .string ⟨#[]⟩, .int .i64 0]) 4 40 Tryd.underlying27 hi hz0 hz1 hz2 rfl (by decide) u7 L.length (mcells L) rfl (row_below HO3.out ((Below.refl _ _).alloc (Nat.le_refl _) _)) ⟨w3.heap.size, 0, none⟩ 1 1 (mcells [x]) rfl rfl (msg_new w3 x _) (mcells_one [x]) (by unfold maxLen; omega) (by omega) (by simp; omega) ?_; intro v' w4 hown hgr _)
        have hB4 : Below (w.heap.size + 1) w3 w4 := ((Below.refl _ _).alloc (by omega) _).trans ((Below.refl _ _).grown hgr (by simp; omega) (fun j h => (HO3.out.lt j h).1))
        have hd4 := (below_cell hB4 (by omega)).trans hd3
        have HN : Hid (MOwn w4 (w.heap.size + 1) v' (pickM f ((l.take (k + 1)).drop fr))) := Lib.hid (by rw [HP.out, if_pos trivial]; unfold MOwn; rw [mcells_app]; simpa using hown)
        have HB4 := Lib.hid (HB3.out.trans (hB4.mono (by omega)))
        clear hown hgr hB4 HP HO3 HB3
        go_roundw
        case rel => exact ⟨k + 1, by omega, by omega, by go_num, hd4, HN, HB4⟩
        case measure => simp [intOf]; omega
    · obtain rfl : k = l.length := by omega
      have HF : Hid (MOwn wr w.heap.size u7 (latestM cap l n f)) := Lib.hid (by rw [HE.out]; have := HO.out; rw [List.take_length] at this; exact own_mono this (by omega))
      go_wp2
      go_ret
      exact ⟨_, rfl, HF.out, HB.out⟩

end Go.Proofs.YtddgfbmollfmeaaDoor

/- The walks of the program's own ring of messages: latest; and of impl.LatestOf. -/
namespace Go.Proofs.YtddgfbmollfmeaaDoor
open Go.RowKit

theorem stays_pick (f : ByteArray) (l : List MsgM) : stays f l = pickM f l := by
  unfold stays pickM goesM; simp

set_option maxRecDepth 100000 in
set_option maxHeartbeats 1600000 in
theorem latest_any (G : Nat) (cap : Int) (u : Value) (l : List MsgM) (n : Int) (B : Nat) (w : World) (hl : l.length ≤ 2000000) (hr : RBoxM w G cap u) (ho : MOwn w B u l) (hn0 : 0 ≤ n) (hn1 : n ≤ 9223372036854775807) :
    Calls Tryd.prog 36 #[.pointer (some ⟨G, 0, none⟩), .int .i64 n] w fun e w' => ∃ u', e = .returned u' ∧ PartOf u (l.length - n.toNat) (l.length - (l.length - n.toNat)) u' ∧ w' = w := by
  have c1 := hr.c1
  rcases ho.2 with ⟨rfl, h0⟩ | ⟨g, C, cur, rfl, _, _, hc4, hc5, _⟩
  · go_enter Tryd.func36, Tryd.ntmps36
    go_wp2
    go_ret
    exact ⟨_, rfl, .inl ⟨rfl, rfl, by omega⟩, rfl⟩
  · have HK : Hid (((l.length : Int) - min n (l.length : Int)).toNat = l.length - n.toNat) := Lib.hid (by omega)
    go_enter Tryd.func36, Tryd.ntmps36
    go_wp2
    all_goals (go_ret; refine ⟨_, rfl, ?_, rfl⟩)
    · rename_i h
      rw [HK.out] at h ⊢
      exact .inr ⟨g, 0, 0, _, _, rfl, rfl, by omega, by omega, .inl (by omega)⟩
    · rename_i h
      rw [HK.out] at h ⊢
      exact .inr ⟨g, _, _, _, _, rfl, rfl, by omega, by omega, .inr rfl⟩

set_option maxRecDepth 100000 in
set_option maxHeartbeats 6400000 in
theorem implLatest_any (cap : Int) (v : Value) (l : List MsgM) (n : Int) (f : ByteArray) (m : Int) (w : World) (hl : l.length ≤ 1048576) (hs : ∀ x ∈ l, x.2.2.1.size ≤ 1048576) (hf : f.size ≤ 1048576) (hn : n ≤ 9223372036854775807) (hv : MsgsAt w v l) (hm : w.cell? ⟨0, 0, none⟩ = some (.int .i64 m)) :
    Calls Tryd.prog 18 #[.agg #[.int .i64 cap, v], .int .i64 n, .string f] w fun e w' =>
      ∃ V u pre post, e = .returned u ∧ MOwn w' w.heap.size V (pre ++ latestM cap l n f ++ post) ∧ PartOf V pre.length (latestM cap l n f).length u ∧ Below w.heap.size w w' := by
  have CR := Lib.hid (fun w' (h : MsgsAt w' v l) hm => implRingOk_any cap v l m w' hl hs h hm)
  have CC := Lib.hid (fun w' (h : MsgsAt w' v l) => ringOf_any cap v l w' (by omega) h)
  have CL := Lib.hid (fun G u B w' (hr : RBoxM w' G cap u) h h0 => latest_any G cap u l n B w' (by omega) hr h h0 hn)
  have CD := Lib.hid (fun V u F B w' ho hp hF hFB hm hMB hB => deleteF_any V u (l.take (l.length - n.toNat)) (l.drop (l.length - n.toNat)) [] f F B m w' (by rw [List.length_drop]; omega) (fun x hx => hs x (List.mem_of_mem_drop hx)) hf ho hp hF hFB hm hMB hB)
  have HR : Hid (latestM cap l n f = if ringB cap l = true ∧ 0 ≤ n then pickM f (l.drop (l.length - n.toNat)) else []) := rfl
  have HLN : Hid ((l.drop (l.length - n.toNat)).length = l.length - (l.length - n.toNat) ∧ (l.take (l.length - n.toNat)).length = l.length - n.toNat ∧ l.take (l.length - n.toNat) ++ l.drop (l.length - n.toNat) ++ [] = l) := Lib.hid ⟨by simp, by simp, by rw [List.append_nil, List.take_append_drop]⟩
  have HV := Lib.hid hv
  have HM := Lib.hid hm
  have HMB := Lib.hid (World.block_lt_of_cell? _ _ hm)
  obtain ⟨ua, uc, rfl, huc1, huc2, _⟩ := hv
  obtain ⟨b1, hb1⟩ : ∃ b, ringB cap l = b := ⟨_, rfl⟩
  rw [hb1] at CR HR
  obtain ⟨R, hR⟩ : ∃ R, latestM cap l n f = R := ⟨_, rfl⟩
  rw [hR] at HR ⊢
  clear hb1 hs hm hR hf
  unfold maxLen at huc2
  go_enter Tryd.func18, Tryd.ntmps18
  go_wp2_with fail
  have hb0 : Below w.heap.size w ((w.alloc (.cells #[.int .i64 cap, .slice ua l.length uc] 29)).alloc (.cells #[.string f] 9)) := ((Below.refl _ _).alloc (Nat.le_refl _) _).alloc (by simp) _
  have hs0 : ((w.alloc (.cells #[.int .i64 cap, .slice ua l.length uc] 29)).alloc (.cells #[.string f] 9)).heap.size = w.heap.size + 1 + 1 := by simp
  have r0 : ((w.alloc (.cells #[.int .i64 cap, .slice ua l.length uc] 29)).alloc (.cells #[.string f] 9)).heap[w.heap.size]? = some (.cells #[.int .i64 cap, .slice ua l.length uc] 29 (0, 0)) := by rw [Below.heap_alloc _ _ _ (by simp)]; exact heap_alloc_new _ _
  have f0 : ((w.alloc (.cells #[.int .i64 cap, .slice ua l.length uc] 29)).alloc (.cells #[.string f] 9)).heap[w.heap.size + 1]? = some (.cells #[.string f] 9 (0, 0)) := by
    have e1 : (w.alloc (.cells #[.int .i64 cap, .slice ua l.length uc] 29)).heap.size = w.heap.size + 1 := by simp
    rw [← e1]; exact heap_alloc_new _ _
  generalize (w.alloc (.cells #[.int .i64 cap, .slice ua l.length uc] 29)).alloc (.cells #[.string f] 9) = w0 at hb0 hs0 r0 f0 ⊢
  refine (CR.out _ (HV.out.below hb0) ((hb0.cell HMB.out).trans HM.out)).mono ?_
  rintro e w1 ⟨rfl, hb⟩
  have r1 := (hb.block _ (show w.heap.size < w0.heap.size by omega)).trans r0
  have f1 := (hb.block _ (show w.heap.size + 1 < w0.heap.size by omega)).trans f0
  have B1 := Lib.hid (hb0.trans (hb.mono hb0.size))
  have HS1 := Lib.hid (show w.heap.size + 1 + 1 ≤ w1.heap.size by have := hb.size; omega)
  have F1 := Lib.hid f1
  have d0 := cell_of_heap r1 0
  have d1 := cell_of_heap r1 1
  clear hb0 hs0 r0 f0 hb r1 f1 CR
  cases b1
  · go_wp2
    go_ret
    exact ⟨.slice none 0 0, _, [], [], rfl, by rw [HR.out]; exact World.ownsRow_nil _ _ _ _, by rw [HR.out]; exact .inl ⟨rfl, rfl, rfl⟩, B1.out⟩
  by_cases hn0 : n < 0
  · have g1 : decide (n < 0) = true := decide_eq_true hn0
    go_wp2
    go_ret
    exact ⟨.slice none 0 0, _, [], [], rfl, by rw [HR.out, if_neg (by omega)]; exact World.ownsRow_nil _ _ _ _, by rw [HR.out, if_neg (by omega)]; exact .inl ⟨rfl, rfl, rfl⟩, B1.out⟩
  have g1 : decide (n < 0) = false := decide_eq_false hn0
  have HR2 : Hid (R = stays f (l.drop (l.length - n.toNat))) := Lib.hid (by rw [HR.out, if_pos ⟨rfl, by omega⟩, stays_pick])
  go_wp2_with fail
  refine (CC.out _ (HV.out.below B1.out)).mono ?_
  rintro e w2 ⟨G, u0, rfl, hrb, hG, ho, hb⟩
  have F2 := Lib.hid ((hb.block _ (Array.getElem?_eq_some_iff.1 F1.out).1).trans F1.out)
  have B2 := Lib.hid (B1.out.trans (hb.mono B1.out.size))
  have HS2 := Lib.hid hb.size
  have HO2 := Lib.hid ho
  clear d0 d1 hb hG CC F1 B1
  go_wp2_with fail
  refine (CL.out _ _ _ _ hrb ho (by omega)).mono ?_
  rintro e w3 ⟨u1, rfl, hp1, rfl⟩
  have HP1 := Lib.hid hp1
  clear hrb ho hp1 CL
  go_wp2_with fail
  refine (CD.out u0 u1 (w.heap.size + 1) w1.heap.size _ (by rw [HLN.out.2.2]; exact HO2.out) (by rw [HLN.out.1, HLN.out.2.1]; exact HP1.out) (cell_of_heap F2.out 0) (by have := HS1.out; omega) ((B2.out.cell HMB.out).trans HM.out) (by have h1 := HS1.out; have h2 := HMB.out; omega) HS2.out).mono ?_
  rintro e w4 ⟨u', post', rfl, hw4, hp4, hb4⟩
  have HE := Lib.hid hw4
  have HP4 := Lib.hid hp4
  have HB4 := Lib.hid (B2.out.trans (hb4.mono (by have := HS1.out; omega)))
  have HS1' := HS1.out
  clear hw4 hp4 hb4 CD
  go_wp2
  go_ret
  exact ⟨_, _, _, _, rfl, by rw [HR2.out]; exact own_mono HE.out (by omega), by rw [HR2.out]; exact HP4.out, HB4.out⟩

end Go.Proofs.YtddgfbmollfmeaaDoor
