/- The walk of impl.MsgsOk. -/
import Derived.Test.YtddgfbmollfmeaaDoorZSMsg
import Derived.Test.YtddgfbmollfmeaaDoorZB2
set_option linter.unusedSimpArgs false
set_option linter.unusedVariables false
namespace Go.Proofs.YtddgfbmollfmeaaDoor
open Go.RowKit

/-- The Seq of the message ahead of the k-th; 0 ahead of the first. -/
def lastM (l : List MsgM) (k : Nat) : Int := if h : 0 < k ∧ k ≤ l.length then (l[k - 1]'(by omega)).1 else 0

theorem nextM_last {l : List MsgM} {k : Nat} (h : k < l.length) : nextM l k h = (msgB l[k] && decide (lastM l k < l[k].1)) := by
  unfold nextM lastM
  by_cases h0 : k = 0
  · subst h0
    cases e : msgB l[0]
    · simp
    · have : 1 ≤ l[0].1 := by
        unfold msgB at e
        unfold inB at e
        simp only [Bool.and_eq_true, decide_eq_true_eq] at e
        exact e.1.1.1.1
      simp; omega
  · have h1 : 0 < k ∧ k ≤ l.length := by omega
    rw [dif_pos h1]
    simp [h0]

theorem lastM_next {l : List MsgM} {k : Nat} (h : k < l.length) : lastM l (k + 1) = l[k].1 := by
  unfold lastM
  rw [dif_pos (by omega)]
  simp

set_option maxRecDepth 100000 in
set_option maxHeartbeats 3200000 in
theorem implMsgsOk_any (v : Value) (l : List MsgM) (m : Int) (w : World) (hl : l.length ≤ 1048576) (hs : ∀ x ∈ l, x.2.2.1.size ≤ 1048576) (hv : MsgsAt w v l) (hm : w.cell? ⟨0, 0, none⟩ = some (.int .i64 m)) :
    Calls Tryd.prog 26 #[v] w fun e w' => e = .returned (.bool (msgsB l)) ∧ Below w.heap.size w w' := by
  obtain ⟨a, c, rfl, hc1, hc2, hc3⟩ := hv
  have HC := Lib.hid hc3
  have HS := Lib.hid hs
  have HM := Lib.hid hm
  clear hc3 hs hm
  go_enter Tryd.func26, Tryd.ntmps26
  go_wp2
  go_loopw [3, 9] (fun s i wr => ∃ (k : Nat) (y : Int), k ≤ l.length ∧ i = .int .i64 k ∧ s = .int .i64 y ∧ Hid (lastM l k = y) ∧ Hid (msgsTo l k = true) ∧ Hid (Below w.heap.size w wr)) (fun _ i _ => l.length - (intOf i).toNat)
  case atStart => exact ⟨0, 0, Nat.zero_le _, rfl, rfl, rfl, rfl, Below.refl _ _⟩
  case round =>
    obtain ⟨k, y, hk, rfl, rfl, HY, HT, HB⟩ := hrel
    by_cases hlt : k < l.length
    · obtain ⟨b, o, rfl, hin⟩ : ∃ b o, a = some ⟨b, o, none⟩ ∧ MsgsIn w b o l := by
        rcases HC.out with h | h
        · subst h; simp at hlt
        · exact h
      obtain ⟨p0, p1, p2, p3⟩ := (hin.below HB.out) k hlt
      have C1 := Lib.hid (fun wx => messageOf_any l[k] wx)
      have C2 := Lib.hid (fun wx hm => isRight_any l[k] m wx (HS.out _ (List.getElem_mem hlt)) hm)
      have HNX : Hid (nextM l k hlt = (msgB l[k] && decide (y < l[k].1))) := Lib.hid (by rw [nextM_last hlt, HY.out])
      have HBAD := Lib.hid (fun h => msgsTo_bad hlt h)
      have HGO : Hid (nextM l k hlt = true → msgsTo l (k + 1) = true) := Lib.hid (fun h => by rw [msgsTo_succ l k hlt, HT.out, h]; rfl)
      have HLN := Lib.hid (lastM_next hlt)
      have HMr := Lib.hid ((HB.out.cell (World.block_lt_of_cell? _ _ HM.out)).trans HM.out)
      generalize nextM l k hlt = nx at HNX HBAD HGO
      generalize msgB l[k] = mb at C2 HNX
      generalize l[k] = x at p0 p1 p2 p3 C1 C2 HNX HLN
      obtain ⟨q, f, p, d⟩ := x
      clear hin HT HY
      go_wp2_with fail
      refine (C1.out _).mono ?_
      rintro e w1 ⟨rfl, hb1⟩
      have HB1 := Lib.hid (HB.out.trans ((((Below.refl wr.heap.size wr).alloc (Nat.le_refl _) _).trans (hb1.mono (by simp))).mono HB.out.size))
      clear hb1 p0 p1 p2 p3
      go_wp2_with fail
      have b0 : Below w1.heap.size w1 (w1.alloc (.cells #[.int .i64 q, .int .i64 f, .string p, .int .i64 d] 67)) := (Below.refl _ _).alloc (Nat.le_refl _) _
      have s0 : w1.heap.size < (w1.alloc (.cells #[.int .i64 q, .int .i64 f, .string p, .int .i64 d] 67)).heap.size := by simp
      have c0 : (w1.alloc (.cells #[.int .i64 q, .int .i64 f, .string p, .int .i64 d] 67)).cell? ⟨w1.heap.size, 0, none⟩ = some (.int .i64 q) := by rw [World.cell?_alloc_at _ _ _ _ rfl]; rfl
      have HB2 := Lib.hid (HB1.out.trans (b0.mono HB1.out.size))
      have HM2 := Lib.hid ((HB2.out.cell (World.block_lt_of_cell? _ _ HM.out)).trans HM.out)
      clear b0
      generalize w1.alloc (.cells #[.int .i64 q, .int .i64 f, .string p, .int .i64 d] 67) = w2 at s0 c0 HB2 HM2 ⊢
      refine (C2.out _ HM2.out).mono ?_
      rintro e w3 ⟨rfl, hb3⟩
      have c3 := (below_cell hb3 s0).trans c0
      have HB3 := Lib.hid (HB2.out.trans (hb3.mono HB2.out.size))
      clear hb3 c0 s0
      cases mb
      · have HE := Lib.hid (HBAD.out (by rw [HNX.out]; rfl))
        go_wp2
        go_ret
        exact ⟨ret_bool HE.out.symm, HB3.out⟩
      · by_cases hyq : y < q
        · have g1 : decide (q ≤ y) = false := decide_eq_false (by omega)
          have HN := Lib.hid (HGO.out (by rw [HNX.out, decide_eq_true hyq]; rfl))
          go_wp2
          go_roundw
          case rel => exact ⟨k + 1, q, by omega, by go_num, rfl, HLN, HN, HB3⟩
          case measure => simp [intOf]; omega
        · have g1 : decide (q ≤ y) = true := decide_eq_true (by omega)
          have HE := Lib.hid (HBAD.out (by rw [HNX.out, decide_eq_false hyq]; rfl))
          go_wp2
          go_ret
          exact ⟨ret_bool HE.out.symm, HB3.out⟩
    · obtain rfl : k = l.length := by omega
      have HE : Hid (msgsB l = true) := Lib.hid HT.out
      go_wp2
      go_ret
      exact ⟨ret_bool HE.out.symm, HB.out⟩

end Go.Proofs.YtddgfbmollfmeaaDoor
