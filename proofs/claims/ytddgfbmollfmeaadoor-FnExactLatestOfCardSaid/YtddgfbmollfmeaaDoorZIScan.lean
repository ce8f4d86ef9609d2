/- The walks of impl.partAt, impl.partCovers, impl.sideBySide and its iterator, and impl.coversByParts: two lists of parts side by side. -/
import Derived.RangeFuncNested
import Derived.RangeFuncBound
import Derived.RangeFuncCalls
import Derived.RangeFuncLeaves
import Derived.Shelf.Abstract
import Derived.Stop.RegionWithIn
import Derived.WalkKit
import Derived.OwnWalkIn
import Derived.TacticsInMore
import Derived.LoopNIn
import Derived.LoopIn
import Derived.Test.YtddgfbmollfmeaaDoorZB2
set_option linter.unusedSimpArgs false
set_option linter.unusedVariables false
namespace Go.Proofs.YtddgfbmollfmeaaDoor
open Go.RowKit Go.Shelf

attribute [local go_sem] Oper.semAt_some

theorem partAt_any (L : List ByteArray) (g cap k : Nat) (w : World) (_hL : L.length ≤ 1048577) (_hk : k ≤ 1048577) (hc : ∀ j (hj : j < L.length), w.cell? ⟨g, j, none⟩ = some (.string L[j])) :
    Calls Tryd.prog 62 #[.slice (some ⟨g, 0, none⟩) L.length cap, .int .i64 k] w fun e w' => e = .returned (.string (partQ L k)) ∧ w' = w := by
  by_cases h : k < L.length
  · have hcx := hc k h
    obtain ⟨p, hp⟩ : ∃ p, L[k] = p := ⟨_, rfl⟩
    have hq : partQ L k = p := by rw [← hp]; simp [partQ, h]
    rw [hp] at hcx
    rw [hq]
    clear hc hp hq
    go_enter Tryd.func62, Tryd.ntmps62
    go_wp2
    go_ret
    exact ⟨rfl, rfl⟩
  · have hq : partQ L k = ⟨#[]⟩ := by simp [partQ, Nat.le_of_not_lt h]
    rw [hq]
    go_enter Tryd.func62, Tryd.ntmps62
    go_wp2
    go_ret
    exact ⟨rfl, rfl⟩

theorem keepsFrom_below {W W' : World} (h : Below W.heap.size W W') (B : Nat) : KeepsFrom B W W' :=
  ⟨h.size, fun k _ _ hk _ => (h.block k (Array.getElem?_eq_some_iff.1 hk).1).trans hk⟩

theorem below_drew {B : Nat} {a b : World} (h : Below B a b) : Below B a b.drew := ⟨h.os, h.tape, h.output, h.size, h.block⟩

theorem grown_drew (w : World) : w.grownBy w.drew none := ⟨rfl, rfl, rfl, Nat.le_refl _, fun _ _ _ => rfl⟩

set_option maxRecDepth 100000 in
set_option maxHeartbeats 2000000 in
/-- The iterator's body: for every loop that keeps what lay below n₀. -/
theorem pairs_in (n : Nat) (hn : 1 ≤ n) (l Ba Bb n₀ ga gb ca cb : Nat) (F T : List ByteArray) (hF : F.length ≤ 1048577) (hT : T.length ≤ 1048577) (hga : ga < n₀) (hgb : gb < n₀) (hBa : Ba < n₀) (hBb : Bb < n₀)
    (J Jx : List (ByteArray × ByteArray) → World → Prop)
    (hY : ∀ pre x W, J pre W → pre.length < max F.length T.length → YieldAt Fence.wide (n - 1) Tryd.prog l #[.string x.1, .string x.2] W fun e W' =>
      (e = .returned (.bool true) ∧ J (pre ++ [x]) W' ∧ Below n₀ W W') ∨ (e = .returned (.bool false) ∧ Jx (pre ++ [x]) W'))
    (W : World) (hJ : AbidesFrom W.heap.size J) (ha : W.cell? ⟨Ba, 0, none⟩ = some (.slice (some ⟨ga, 0, none⟩) F.length ca)) (hb : W.cell? ⟨Bb, 0, none⟩ = some (.slice (some ⟨gb, 0, none⟩) T.length cb))
    (hcF : ∀ j (hj : j < F.length), W.cell? ⟨ga, j, none⟩ = some (.string F[j])) (hcT : ∀ j (hj : j < T.length), W.cell? ⟨gb, j, none⟩ = some (.string T[j])) (h0 : J [] W) :
    CallsIn Fence.wide n Tryd.prog 61 #[.func (.yield l) #[] #[], .pointer (some ⟨Ba, 0, none⟩), .pointer (some ⟨Bb, 0, none⟩)] W fun e W' => (∃ v, e = .returned v) ∧
      ((∃ ys, ys = uptoP F T (max F.length T.length) ∧ J ys W') ∨ (∃ pre, (∃ k, k ≤ max F.length T.length ∧ pre = uptoP F T k) ∧ Jx pre W')) := by
  refine callsIn_of_wp Tryd.func61 rfl trivial ?_ rfl
  simp only [Tryd.ntmps61, List.size_toArray, List.length_cons, List.length_nil, Nat.reduceAdd, Nat.reduceSub, Array.replicate_succ, Array.replicate_zero, List.push_toArray, List.append_toArray, List.nil_append, List.cons_append]
  have HY := Lib.hid hY
  have HA := Lib.hid ha
  have HB := Lib.hid hb
  have hcF' := Lib.hid hcF
  have hcT' := Lib.hid hcT
  clear hY hcF hcT
  obtain ⟨N, hN⟩ : ∃ N, max F.length T.length = N := ⟨_, rfl⟩
  rw [hN] at HY ⊢
  gi_wp2
  clear ha hb
  gi_loopw [10] (fun i wr => ∃ k : Nat, k ≤ N ∧ i = .int .i64 k ∧ Hid (J (uptoP F T k) wr) ∧ Hid (Below n₀ W wr)) (fun i _ => N - (intOf i).toNat)
  case atStart => exact ⟨0, Nat.zero_le _, rfl, h0, Below.refl _ _⟩
  case round =>
    obtain ⟨k, hk, rfl, HJ, HW⟩ := hrel
    by_cases hlt : k < N
    · have hJd : J (uptoP F T k) wr.drew := hJ _ _ _ none HJ.out (grown_drew wr) (fun r e => by cases e)
      have HWd : Hid (Below n₀ W wr.drew) := Lib.hid (below_drew HW.out)
      obtain ⟨fn, tmps, assign, body, hy, hR⟩ := HY.out _ (partQ F k, partQ T k) wr.drew hJd (by rw [uptoP_len]; exact hlt)
      dsimp only at hy
      have hR' := Lib.hid hR
      have ha' := (below_cell HW.out hBa).trans HA.out
      have hb' := (below_cell HW.out hBb).trans HB.out
      have cF := Lib.hid (callsIn_wide (n := n - 1) |>.2 (partAt_any F ga ca k wr.drew hF (by omega) (fun j hj => (below_cell HWd.out hga).trans (hcF'.out j hj))))
      have cT := Lib.hid (callsIn_wide (n := n - 1) |>.2 (partAt_any T gb cb k wr.drew hT (by omega) (fun j hj => (below_cell HWd.out hgb).trans (hcT'.out j hj))))
      clear hJd hR
      gi_wp2
      refine wpIn_region_any (by kernel_rfl) ?_
      change wpAnyIn _ _ _ _ _ _ 9 #[false, false, false, false, false, false, false, false, false] _ (World.drew _)
      refine wpAnyIn_take (i := 0) (v := ?_) rfl rfl (by kernel_rfl) (by kernel_rfl) (by kernel_rfl) (fun _ _ _ h => h) ⟨Or.inl ⟨by rfl, ?_⟩, fun _ => rfl⟩ ?_
      rotate_left
      · intro w; go_simp; try with_reducible rfl
      try simp only [Act.put, List.getElem_toArray, List.getElem_cons_succ, List.getElem_cons_zero, List.setIfInBounds_toArray, List.set_cons_zero, List.set_cons_succ]
      refine wpAnyIn_take (i := 2) (v := ?_) rfl rfl (by kernel_rfl) (by kernel_rfl) (by kernel_rfl) (fun _ _ _ h => h) ⟨Or.inl ⟨by rfl, ?_⟩, fun _ => rfl⟩ ?_
      rotate_left
      · intro w; go_simp; try with_reducible rfl
      try simp only [Act.put, List.getElem_toArray, List.getElem_cons_succ, List.getElem_cons_zero, List.setIfInBounds_toArray, List.set_cons_zero, List.set_cons_succ]
      refine wpAnyIn_take (i := 5) (v := ?_) rfl rfl (by kernel_rfl) (by kernel_rfl) (by kernel_rfl) (fun _ _ _ h => h) ⟨Or.inl ⟨by rfl, ?_⟩, fun _ => rfl⟩ ?_
      rotate_left
      · intro w; go_simp; try with_reducible rfl
      try simp only [Act.put, List.getElem_toArray, List.getElem_cons_succ, List.getElem_cons_zero, List.setIfInBounds_toArray, List.set_cons_zero, List.set_cons_succ]
      refine wpAnyIn_ready (rs := [1, 4]) (by kernel_rfl) (by simp) (AllReadyIn.cons rfl (fun K hK => ?_) (AllReadyIn.cons rfl (fun K hK => ?_) AllReadyIn.nil))
      go_simp
      refine hK _ _ ?_
      clear hK K
      try simp only [Act.put, List.getElem_toArray, List.getElem_cons_succ, List.getElem_cons_zero, List.setIfInBounds_toArray, List.set_cons_zero, List.set_cons_succ]
      refine wpAnyIn_ready (rs := [3, 4]) (by kernel_rfl) (by simp) (AllReadyIn.cons rfl (fun K hK => ?_) (AllReadyIn.cons rfl (fun K hK => ?_) AllReadyIn.nil))
      go_simp
      focus (gi_wp2_with (refine ⟨trivial, ?_⟩; gi_at_call 62; refine cF.out.mono ?_; rintro e w' ⟨rfl, rfl⟩))
      try simp only [Act.put, List.getElem_toArray, List.getElem_cons_succ, List.getElem_cons_zero, List.setIfInBounds_toArray, List.set_cons_zero, List.set_cons_succ]
      refine wpAnyIn_ready (rs := [4]) (by kernel_rfl) (by simp) (AllReadyIn.cons rfl (fun K hK => ?_) AllReadyIn.nil)
      go_simp
      refine hK _ _ ?_
      clear hK K
      try simp only [Act.put, List.getElem_toArray, List.getElem_cons_succ, List.getElem_cons_zero, List.setIfInBounds_toArray, List.set_cons_zero, List.set_cons_succ]
      rotate_left
      go_simp
      refine hK _ _ ?_
      clear hK K
      try simp only [Act.put, List.getElem_toArray, List.getElem_cons_succ, List.getElem_cons_zero, List.setIfInBounds_toArray, List.set_cons_zero, List.set_cons_succ]
      refine wpAnyIn_ready (rs := [3]) (by kernel_rfl) (by simp) (AllReadyIn.cons rfl (fun K hK => ?_) AllReadyIn.nil)
      go_simp
      focus (gi_wp2_with (refine ⟨trivial, ?_⟩; gi_at_call 62; refine cF.out.mono ?_; rintro e w' ⟨rfl, rfl⟩))
      try simp only [Act.put, List.getElem_toArray, List.getElem_cons_succ, List.getElem_cons_zero, List.setIfInBounds_toArray, List.set_cons_zero, List.set_cons_succ]
      rotate_left
      go_simp
      refine hK _ _ ?_
      clear hK K
      try simp only [Act.put, List.getElem_toArray, List.getElem_cons_succ, List.getElem_cons_zero, List.setIfInBounds_toArray, List.set_cons_zero, List.set_cons_succ]
      refine wpAnyIn_ready (rs := [1]) (by kernel_rfl) (by simp) (AllReadyIn.cons rfl (fun K hK => ?_) AllReadyIn.nil)
      go_simp
      refine hK _ _ ?_
      clear hK K
      try simp only [Act.put, List.getElem_toArray, List.getElem_cons_succ, List.getElem_cons_zero, List.setIfInBounds_toArray, List.set_cons_zero, List.set_cons_succ]
      refine wpAnyIn_ready (rs := [3]) (by kernel_rfl) (by simp) (AllReadyIn.cons rfl (fun K hK => ?_) AllReadyIn.nil)
      go_simp
      focus (gi_wp2_with (refine ⟨trivial, ?_⟩; gi_at_call 62; refine cF.out.mono ?_; rintro e w' ⟨rfl, rfl⟩))
      try simp only [Act.put, List.getElem_toArray, List.getElem_cons_succ, List.getElem_cons_zero, List.setIfInBounds_toArray, List.set_cons_zero, List.set_cons_succ]
      all_goals
        refine wpAnyIn_ready (rs := [6]) (by kernel_rfl) (by simp) (AllReadyIn.cons rfl (fun K hK => ?_) AllReadyIn.nil)
        go_simp
        focus (gi_wp2_with (refine ⟨trivial, ?_⟩; gi_at_call 62; refine cT.out.mono ?_; rintro e w' ⟨rfl, rfl⟩))
        try simp only [Act.put, List.getElem_toArray, List.getElem_cons_succ, List.getElem_cons_zero, List.setIfInBounds_toArray, List.set_cons_zero, List.set_cons_succ]
        refine wpAnyIn_ready (rs := [7]) (by kernel_rfl) (by simp) (AllReadyIn.cons rfl (fun K hK => ?_) AllReadyIn.nil)
        go_simp
        refine hR'.out.mono ?_
        rintro e W3 (⟨rfl, hJ3, hk3⟩ | ⟨rfl, hJx3⟩)
      all_goals
        refine hK _ _ ?_
        clear hK K
        refine wpAnyIn_ready (rs := [8]) (by kernel_rfl) (by simp) (AllReadyIn.cons rfl (fun K hK => ?_) AllReadyIn.nil)
        go_simp
        refine hK _ _ ?_
        clear hK K
        try simp only [Act.put, List.getElem_toArray, List.getElem_cons_succ, List.getElem_cons_zero, List.setIfInBounds_toArray, List.set_cons_zero, List.set_cons_succ]
        refine wpAnyIn_done (by kernel_rfl) ?_ _
        gi_wp2
        first
          | (go_roundw
             case rel => exact ⟨k + 1, by omega, by go_num, Lib.hid (by rw [uptoP_succ]; exact hJ3), Lib.hid (HWd.out.trans hk3)⟩
             case measure => simp [intOf]; omega)
          | (refine bodyPost_ret (results_none rfl _ _ _) rfl ?_
             exact ⟨⟨_, rfl⟩, .inr ⟨_, ⟨k + 1, by omega, (uptoP_succ _ _ _).symm⟩, hJx3⟩⟩)
    · obtain rfl : k = N := by omega
      gi_wp2
      go_end0
      exact ⟨⟨_, rfl⟩, .inl ⟨_, rfl, HJ.out⟩⟩

/-- sideBySide hands back the iterator, which holds both lists. -/
theorem sides_in (n : Nat) (a b : Value) (w : World) (ha : ∃ p l c, a = .slice p l c) (hb : ∃ p l c, b = .slice p l c) :
    CallsIn Fence.wide n Tryd.prog 57 #[a, b] w fun e w' => e = .returned (.func (.func 61) #[] #[.pointer (some ⟨w.heap.size, 0, none⟩), .pointer (some ⟨w.heap.size + 1, 0, none⟩)]) ∧
      w' = (w.alloc (.cells #[a] 72)).alloc (.cells #[b] 72) := by
  obtain ⟨pa, la, ca, rfl⟩ := ha
  obtain ⟨pb, lb, cb, rfl⟩ := hb
  refine callsIn_of_wp Tryd.func57 rfl trivial ?_ rfl
  simp only [Tryd.ntmps57, List.size_toArray, List.length_cons, List.length_nil, Nat.reduceAdd, Nat.reduceSub, Array.replicate_succ, Array.replicate_zero, List.push_toArray, List.append_toArray, List.nil_append, List.cons_append]
  gi_wp2
  go_ret
  exact ⟨rfl, rfl⟩

/-- The iterator goes by the pairs, in order. -/
theorem scan_stops (n : Nat) (hn : 1 ≤ n) (Ba Bb n₀ ga gb ca cb : Nat) (F T : List ByteArray) (hF : F.length ≤ 1048577) (hT : T.length ≤ 1048577) (hga : ga < n₀) (hgb : gb < n₀) (hBa : Ba < n₀) (hBb : Bb < n₀) (w : World) (hn₀ : n₀ ≤ w.heap.size)
    (ha : w.cell? ⟨Ba, 0, none⟩ = some (.slice (some ⟨ga, 0, none⟩) F.length ca)) (hb : w.cell? ⟨Bb, 0, none⟩ = some (.slice (some ⟨gb, 0, none⟩) T.length cb))
    (hcF : ∀ j (hj : j < F.length), w.cell? ⟨ga, j, none⟩ = some (.string F[j])) (hcT : ∀ j (hj : j < T.length), w.cell? ⟨gb, j, none⟩ = some (.string T[j])) :
    SeqStopsK Fence.wide n Tryd.prog 61 #[.pointer (some ⟨Ba, 0, none⟩), .pointer (some ⟨Bb, 0, none⟩)] (fun x : ByteArray × ByteArray => #[Value.string x.1, Value.string x.2]) (Below n₀)
      (fun ys => ys = uptoP F T (max F.length T.length)) (fun pre => ∃ k, k ≤ max F.length T.length ∧ pre = uptoP F T k) (max F.length T.length) w := fun l J Jx W hW hJ _ hY h0 => by
  have hW' := hW.mono hn₀
  exact pairs_in n hn l Ba Bb n₀ ga gb ca cb F T hF hT hga hgb hBa hBb J Jx hY W hJ ((below_cell hW' hBa).trans ha) ((below_cell hW' hBb).trans hb)
    (fun j hj => (below_cell hW' hga).trans (hcF j hj)) (fun j hj => (below_cell hW' hgb).trans (hcT j hj)) h0

end Go.Proofs.YtddgfbmollfmeaaDoor
