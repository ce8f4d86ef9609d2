/- Small texts, laid together. -/
import Derived.Test.YtmfbffhbgelnnaaGreatDoorZSMsg
import Derived.Test.YtmfbffhbgelnnaaGreatDoorZB3
import Derived.Test.YtmfbffhbgelnnaaGreatDoorZB1
set_option linter.unusedSimpArgs false
set_option linter.unusedVariables false
/- The walk of impl.MsgsOk. -/
namespace Go.Proofs.YtmfbffhbgelnnaaGreatDoor
open Go.RowKit

/-- The Seq of the message ahead of the k-th; 0 ahead of the first. -/
def lastM (l : List MsgM) (k : Nat) : Int := if h : 0 < k ∧ k ≤ l.length then (l[k - 1]'(by omega)).1 else 0

theorem nextM_last {l : List MsgM} {k : Nat} (h : k < l.length) : nextM l k h = (msgB l[k] && decide (lastM l k < l[k].1)) := by
  unfold nextM lastM
  by_cases h0 : k = 0
  · subst h0
    cases e : msgB l[0]
    · simp
    · have : 1 ≤ l[0].1 := by
        unfold msgB at e
        unfold inB at e
        simp only [Bool.and_eq_true, decide_eq_true_eq] at e
        exact e.1.1.1.1
      simp; omega
  · have h1 : 0 < k ∧ k ≤ l.length := by omega
    rw [dif_pos h1]
    simp [h0]

theorem lastM_next {l : List MsgM} {k : Nat} (h : k < l.length) : lastM l (k + 1) = l[k].1 := by
  unfold lastM
  rw [dif_pos (by omega)]
  simp

set_option maxRecDepth 100000 in
set_option maxHeartbeats 3200000 in
theorem implMsgsOk_any (v : Value) (l : List MsgM) (m : Int) (w : World) (hl : l.length ≤ 1048576) (hs : ∀ x ∈ l, x.2.2.1.size ≤ 1048576) (hv : MsgsAt w v l) (hm : w.cell? ⟨0, 0, none⟩ = some (.int .i64 m)) :
    Calls Tryz.prog 85 #[v] w fun e w' => e = .returned (.bool (msgsB l)) ∧ Below w.heap.size w w' := by
  obtain ⟨a, c, rfl, hc1, hc2, hc3⟩ := hv
  have HC := Lib.hid hc3
  have HS := Lib.hid hs
  have HM := Lib.hid hm
  clear hc3 hs hm
  go_enter Tryz.func85, Tryz.ntmps85
  go_wp2
  go_loopw [3, 9] (fun s i wr => ∃ (k : Nat) (y : Int), k ≤ l.length ∧ i = .int .i64 k ∧ s = .int .i64 y ∧ Hid (lastM l k = y) ∧ Hid (msgsTo l k = true) ∧ Hid (Below w.heap.size w wr)) (fun _ i _ => l.length - (intOf i).toNat)
  case atStart => exact ⟨0, 0, Nat.zero_le _, rfl, rfl, rfl, rfl, Below.refl _ _⟩
  case round =>
    obtain ⟨k, y, hk, rfl, rfl, HY, HT, HB⟩ := hrel
    by_cases hlt : k < l.length
    · obtain ⟨b, o, rfl, hin⟩ : ∃ b o, a = some ⟨b, o, none⟩ ∧ MsgsIn w b o l := by
        rcases HC.out with h | h
        · subst h; simp at hlt
        · exact h
      obtain ⟨p0, p1, p2, p3⟩ := (hin.below HB.out) k hlt
      have C1 := Lib.hid (fun wx => messageOf_any l[k] wx)
      have C2 := Lib.hid (fun wx hm => isRight_any l[k] m wx (HS.out _ (List.getElem_mem hlt)) hm)
      have HNX : Hid (nextM l k hlt = (msgB l[k] && decide (y < l[k].1))) := Lib.hid (by rw [nextM_last hlt, HY.out])
      have HBAD := Lib.hid (fun h => msgsTo_bad hlt h)
      have HGO : Hid (nextM l k hlt = true → msgsTo l (k + 1) = true) := Lib.hid (fun h => by rw [msgsTo_succ l k hlt, HT.out, h]; rfl)
      have HLN := Lib.hid (lastM_next hlt)
      have HMr := Lib.hid ((HB.out.cell (World.block_lt_of_cell? _ _ HM.out)).trans HM.out)
      generalize nextM l k hlt = nx at HNX HBAD HGO
      generalize msgB l[k] = mb at C2 HNX
      generalize l[k] = x at p0 p1 p2 p3 C1 C2 HNX HLN
      obtain ⟨q, f, p, d⟩ := x
      clear hin HT HY
      go_wp2_with fail
      refine (C1.out _).mono ?_
      rintro e w1 ⟨rfl, hb1⟩
      have HB1 := Lib.hid (HB.out.trans ((((Below.refl wr.heap.size wr).alloc (Nat.le_refl _) _).trans (hb1.mono (by simp))).mono HB.out.size))
      clear hb1 p0 p1 p2 p3
      go_wp2_with fail
      have b0 : Below w1.heap.size w1 (w1.alloc (.cells #[.int .i64 q, .int .i64 f, .string p, .int .i64 d] 138)) := (Below.refl _ _).alloc (Nat.le_refl _) _
      have s0 : w1.heap.size < (w1.alloc (.cells #[.int .i64 q, .int .i64 f, .string p, .int .i64 d] 138)).heap.size := by simp
      have c0 : (w1.alloc (.cells #[.int .i64 q, .int .i64 f, .string p, .int .i64 d] 138)).cell? ⟨w1.heap.size, 0, none⟩ = some (.int .i64 q) := by rw [World.cell?_alloc_at _ _ _ _ rfl]; rfl
      have HB2 := Lib.hid (HB1.out.trans (b0.mono HB1.out.size))
      have HM2 := Lib.hid ((HB2.out.cell (World.block_lt_of_cell? _ _ HM.out)).trans HM.out)
      clear b0
      generalize w1.alloc (.cells #[.int .i64 q, .int .i64 f, .string p, .int .i64 d] 138) = w2 at s0 c0 HB2 HM2 ⊢
      refine (C2.out _ HM2.out).mono ?_
      rintro e w3 ⟨rfl, hb3⟩
      have c3 := (below_cell hb3 s0).trans c0
      have HB3 := Lib.hid (HB2.out.trans (hb3.mono HB2.out.size))
      clear hb3 c0 s0
      cases mb
      · have HE := Lib.hid (HBAD.out (by rw [HNX.out]; rfl))
        go_wp2
        go_ret
        exact ⟨ret_bool HE.out.symm, HB3.out⟩
      · by_cases hyq : y < q
        · have g1 : decide (q ≤ y) = false := decide_eq_false (by omega)
          have HN := Lib.hid (HGO.out (by rw [HNX.out, decide_eq_true hyq]; rfl))
          go_wp2
          go_roundw
          case rel => exact ⟨k + 1, q, by omega, by go_num, rfl, HLN, HN, HB3⟩
          case measure => simp [intOf]; omega
        · have g1 : decide (q ≤ y) = true := decide_eq_true (by omega)
          have HE := Lib.hid (HBAD.out (by rw [HNX.out, decide_eq_false hyq]; rfl))
          go_wp2
          go_ret
          exact ⟨ret_bool HE.out.symm, HB3.out⟩
    · obtain rfl : k = l.length := by omega
      have HE : Hid (msgsB l = true) := Lib.hid HT.out
      go_wp2
      go_ret
      exact ⟨ret_bool HE.out.symm, HB.out⟩

end Go.Proofs.YtmfbffhbgelnnaaGreatDoor

/- The walk of the reference's RingOk. -/
namespace Go.Proofs.YtmfbffhbgelnnaaGreatDoor
open Go.RowKit

/-! ### Rings -/

def ringB (cap : Int) (l : List MsgM) : Bool := inB cap 0 32 && msgsB l && decide ((l.length : Int) ≤ cap)

set_option maxRecDepth 100000 in
set_option maxHeartbeats 800000 in
theorem specRingOk_any (cap : Int) (v : Value) (l : List MsgM) (w : World) (hl : l.length ≤ 1048576) (hs : ∀ x ∈ l, x.2.2.1.size ≤ 1048576) (hv : MsgsAt w v l) :
    Calls Tryz.prog 31 #[.agg #[.int .i64 cap, v]] w fun e w' => e = .returned (.bool (ringB cap l)) ∧ Below w.heap.size w w' := by
  have C1 := Lib.hid (fun w' => specIn_any cap 0 32 w')
  have C2 := Lib.hid (fun w' (h : MsgsAt w' v l) => specMsgsOk_any v l w' hl hs h)
  have HB : Hid (ringB cap l = ((decide (0 ≤ cap) && decide (cap ≤ 32)) && msgsB l && decide ((l.length : Int) ≤ cap))) := rfl
  have HV := Lib.hid hv
  obtain ⟨ua, uc, rfl, _, _, _⟩ := hv
  generalize (decide (0 ≤ cap) && decide (cap ≤ 32)) = b1 at C1 HB
  generalize msgsB l = b2 at C2 HB
  obtain ⟨n, hn⟩ : ∃ n, l.length = n := ⟨_, rfl⟩
  simp only [hn] at C2 HB HV ⊢
  clear hs
  go_enter Tryz.func31, Tryz.ntmps31
  go_wp2_with fail
  refine (C1.out _).mono ?_
  rintro e w1 ⟨rfl, rfl⟩
  cases b1
  · go_wp2
    go_ret
    exact ⟨ret_bool (by rw [HB.out]; rfl), (Below.refl _ _).alloc (Nat.le_refl _) _⟩
  go_wp2_with fail
  have b0 : Below w.heap.size w (w.alloc (.cells #[.int .i64 cap, .slice ua n uc] 35)) := (Below.refl _ _).alloc (Nat.le_refl _) _
  have s0 : w.heap.size < (w.alloc (.cells #[.int .i64 cap, .slice ua n uc] 35)).heap.size := by simp
  have c0 : (w.alloc (.cells #[.int .i64 cap, .slice ua n uc] 35)).cell? ⟨w.heap.size, 0, none⟩ = some (.int .i64 cap) := by rw [World.cell?_alloc_at _ _ _ _ rfl]; rfl
  have c1 : (w.alloc (.cells #[.int .i64 cap, .slice ua n uc] 35)).cell? ⟨w.heap.size, 1, none⟩ = some (.slice ua n uc) := by rw [World.cell?_alloc_at _ _ _ _ rfl]; rfl
  have hv0 := HV.out.alloc (.cells #[.int .i64 cap, .slice ua n uc] 35)
  generalize w.alloc (.cells #[.int .i64 cap, .slice ua n uc] 35) = w0 at b0 s0 c0 c1 hv0 ⊢
  refine (C2.out _ hv0).mono ?_
  rintro e w1 ⟨rfl, hb⟩
  have d0 := (below_cell hb s0).trans c0
  have d1 := (below_cell hb s0).trans c1
  have B1 := Lib.hid (b0.trans (hb.mono b0.size))
  clear b0 s0 c0 c1 hb hv0
  cases b2
  · go_wp2
    go_ret
    exact ⟨ret_bool (by rw [HB.out]; rfl), B1.out⟩
  go_wp2
  go_ret
  exact ⟨ret_bool (by rw [HB.out]; simp), B1.out⟩

end Go.Proofs.YtmfbffhbgelnnaaGreatDoor

/- The walk of impl.RingOk. -/
namespace Go.Proofs.YtmfbffhbgelnnaaGreatDoor
open Go.RowKit

set_option maxRecDepth 100000 in
set_option maxHeartbeats 1600000 in
theorem implRingOk_any (cap : Int) (v : Value) (l : List MsgM) (m : Int) (w : World) (hl : l.length ≤ 1048576) (hs : ∀ x ∈ l, x.2.2.1.size ≤ 1048576) (hv : MsgsAt w v l) (hm : w.cell? ⟨0, 0, none⟩ = some (.int .i64 m)) :
    Calls Tryz.prog 43 #[.agg #[.int .i64 cap, v]] w fun e w' => e = .returned (.bool (ringB cap l)) ∧ Below w.heap.size w w' := by
  have C2 := Lib.hid (fun w' (h : MsgsAt w' v l) hm => implMsgsOk_any v l m w' hl hs h hm)
  have HB : Hid (ringB cap l = ((decide (0 ≤ cap) && decide (cap ≤ 32)) && msgsB l && decide ((l.length : Int) ≤ cap))) := rfl
  have HV := Lib.hid hv
  have HM := Lib.hid hm
  obtain ⟨ua, uc, rfl, _, _, _⟩ := hv
  generalize msgsB l = b2 at C2 HB
  clear hm hs
  go_enter Tryz.func43, Tryz.ntmps43
  by_cases h1 : 0 ≤ cap
  · have g1 : decide (0 ≤ cap) = true := decide_eq_true h1
    by_cases h2 : cap ≤ 32
    · have g2 : decide (cap ≤ 32) = true := decide_eq_true h2
      by_cases h3 : (l.length : Int) ≤ cap
      · have g3 : decide ((l.length : Int) ≤ cap) = true := decide_eq_true h3
        go_wp2_with fail
        have ha := (Below.refl w.heap.size w).alloc (Nat.le_refl _) (.cells #[.int .i64 cap, .slice ua l.length uc] 35)
        refine (C2.out _ (HV.out.below ha) ((ha.cell (World.block_lt_of_cell? _ _ HM.out)).trans HM.out)).mono ?_
        rintro e w1 ⟨rfl, hb⟩
        have HE := Lib.hid (below_end ha hb)
        clear ha hb
        go_wp2
        go_ret
        exact ⟨ret_bool (by rw [HB.out, g1, g2, g3]; simp), HE.out⟩
      · have g3 : decide ((l.length : Int) ≤ cap) = false := decide_eq_false h3
        go_wp2
        go_ret
        exact ⟨ret_bool (by rw [HB.out, g3]; simp), (Below.refl _ _).alloc (Nat.le_refl _) _⟩
    · have g2 : decide (cap ≤ 32) = false := decide_eq_false h2
      go_wp2
      go_ret
      exact ⟨ret_bool (by rw [HB.out, g2]; simp), (Below.refl _ _).alloc (Nat.le_refl _) _⟩
  · have g1 : decide (0 ≤ cap) = false := decide_eq_false h1
    go_wp2
    go_ret
    exact ⟨ret_bool (by rw [HB.out, g1]; simp), (Below.refl _ _).alloc (Nat.le_refl _) _⟩

end Go.Proofs.YtmfbffhbgelnnaaGreatDoor
