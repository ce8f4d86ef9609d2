/- The walk of the program's queue when it is full. -/
import Derived.Test.YtgmbjnobpkdjkaaDoorZB3
import Derived.Test.YtgmbjnobpkdjkaaDoorZB2
import Derived.Test.YtgmbjnobpkdjkaaDoorZOffM
import Derived.Test.YtgmbjnobpkdjkaaDoorZB1
import Derived.Lib.Hide
import Derived.Deep.Cut
import Derived.Deep.CutBlock
set_option linter.unusedSimpArgs false
set_option linter.unusedVariables false
namespace Go.Proofs.YtgmbjnobpkdjkaaDoor
open Go.RowKit

theorem assert11 (w : World) : Sem.run Tryd.prog (Instr.typeAssert (.iface 88 (.agg #[])) 70 88 true) w = .ok (.tuple #[.agg #[], .bool true]) w := by kernel_rfl
theorem assert21 (w : World) : Sem.run Tryd.prog (Instr.typeAssert (.iface 89 (.agg #[])) 70 88 true) w = .ok (.tuple #[.agg #[], .bool false]) w := by kernel_rfl
theorem assert23 (w : World) : Sem.run Tryd.prog (Instr.typeAssert (.iface 89 (.agg #[])) 70 90 true) w = .ok (.tuple #[.agg #[], .bool false]) w := by kernel_rfl
theorem assert31 (w : World) : Sem.run Tryd.prog (Instr.typeAssert (.iface 90 (.agg #[])) 70 88 true) w = .ok (.tuple #[.agg #[], .bool false]) w := by kernel_rfl
theorem assert33 (w : World) : Sem.run Tryd.prog (Instr.typeAssert (.iface 90 (.agg #[])) 70 90 true) w = .ok (.tuple #[.agg #[], .bool true]) w := by kernel_rfl
theorem assert41 (w : World) : Sem.run Tryd.prog (Instr.typeAssert (.iface 91 (.agg #[])) 70 88 true) w = .ok (.tuple #[.agg #[], .bool false]) w := by kernel_rfl
theorem assert43 (w : World) : Sem.run Tryd.prog (Instr.typeAssert (.iface 91 (.agg #[])) 70 90 true) w = .ok (.tuple #[.agg #[], .bool false]) w := by kernel_rfl

set_option maxRecDepth 100000 in
set_option maxHeartbeats 3200000 in
theorem fullKeep_any (p : Int) (c : Int) (v : Value) (n : Nat) (x : MsgM) (w : World) (hp : (p = 1 ∧ c = 3) ∨ (p = 3 ∧ c = 4)) (ua : Option Addr) (uc : Nat) (hv : v = .slice ua n uc) :
    Calls Tryd.prog 37 #[polV p, v, magg x] w fun e w' => e = .returned (.tuple #[v, .int .i64 c]) ∧ Below w.heap.size w w' := by
  subst hv
  have b1 : Below w.heap.size w (w.alloc (.cells #[.int .i64 x.1, .int .i64 x.2.1, .string x.2.2.1, .int .i64 x.2.2.2] 35)) := (Below.refl _ _).alloc (Nat.le_refl _) _
  rcases hp with ⟨rfl, rfl⟩ | ⟨rfl, rfl⟩
  · rw [show polV 1 = .iface 88 (.agg #[]) from rfl]
    have a1 := assert11
    go_enter Tryd.func37, Tryd.ntmps37
    go_wp2
    go_ret2
    exact ⟨rfl, b1⟩
  · rw [show polV 3 = .iface 90 (.agg #[]) from rfl]
    have a1 := assert31
    have a2 := assert33
    go_enter Tryd.func37, Tryd.ntmps37
    go_wp2
    go_ret2
    exact ⟨rfl, b1⟩

theorem cell_stays {w w' : World} {R b o : Nat} {v : Value} (hg : w.grownBy w' (some R)) (hne : b ≠ R) (h : w.cell? ⟨b, o, none⟩ = some v) : w'.cell? ⟨b, o, none⟩ = some v :=
  (World.cell?_of_block (hg.block b (World.block_lt_of_cell? _ _ h) (fun e => hne (by cases e; rfl)))).trans h

theorem grown_drewA (w : World) (row : Option Nat) : w.grownBy w.drew row := ⟨rfl, rfl, rfl, Nat.le_refl _, fun _ _ _ => rfl⟩
theorem grown_of_below {w w' : World} (h : Below w.heap.size w w') (row : Option Nat) : w.grownBy w' row := ⟨h.os, h.tape, h.output, h.size, fun k hk _ => h.block k hk⟩

theorem own_block {w : World} {B n c g : Nat} {l : List MsgM} (h : MOwn w B (.slice (some ⟨g, 0, none⟩) n c) l) :
    ∃ cur : List Value, B ≤ g ∧ w.heap[g]? = some (.cells cur.toArray 35 (0, 0)) ∧ l.length ≤ c ∧ c ≤ maxLen ∧ cur.length = c * 4 ∧ cur.take (l.length * 4) = mcells l := by
  rcases h.2 with ⟨e, _⟩ | ⟨g2, cap, cur, e, h1, h2, h3, h4, h5, h6⟩
  · cases e
  · cases e
    exact ⟨cur.toList, h1, by simpa using h2, h3, h4, by simpa using h5, h6⟩

/-- What an append to all but the first leaves. -/
theorem full_end {w2 w3 : World} {B g off uc : Nat} {l : List MsgM} {x : MsgM} {cur : List Value} {u : Value} (hB : B ≤ g) (hcap : uc ≤ maxLen) (hsz : cur.length = uc * 4) (htake : cur.take (l.length * 4) = mcells l) (h0 : 0 < l.length) (hoff : off = 4 ∨ uc = 1) (hw2 : B ≤ w2.heap.size)
    (hu : (l.length - 1 + 1 ≤ uc - 1 ∧ u = .slice (some ⟨g, off, none⟩) (l.length - 1 + 1) (uc - 1) ∧ w3.heap[g]? = some (.cells (layAt cur (off + (l.length - 1) * 4) (mcells [x])).toArray 35 (0, 0)) ∧ w2.grownBy w3 (some g)) ∨
      (uc - 1 < l.length - 1 + 1 ∧ w3.ownsRow w2.heap.size 35 4 u (l.length - 1 + 1) (mcells (l.drop 1) ++ mcells [x]) ∧ w2.grownBy w3 none)) :
    (∃ V pre, MOwn w3 B V (pre ++ (l.drop 1 ++ [x]) ++ []) ∧ PartOf V pre.length (l.drop 1 ++ [x]).length u) ∧ w2.grownBy w3 (some g) := by
  have hll : (l.drop 1 ++ [x]).length = l.length - 1 + 1 := by simp
  rcases hu with ⟨h1, rfl, h3, h4⟩ | ⟨h1, h2, h3⟩
  · refine ⟨⟨.slice (some ⟨g, 0, none⟩) (l.length + 1) uc, l.take 1, ?_, ?_⟩, h4⟩
    · have e1 : l.take 1 ++ (l.drop 1 ++ [x]) ++ [] = l ++ [x] := by rw [List.append_nil, ← List.append_assoc, List.take_append_drop]
      rw [e1]
      unfold MOwn
      have e2 : off + (l.length - 1) * 4 = l.length * 4 := by rcases hoff with h | h <;> omega
      rw [e2] at h3
      have e3 : (mcells [x]).length = 4 := by rw [mcells_length]; rfl
      have e4 : (l ++ [x]).length = l.length + 1 := by simp
      rw [e4]
      refine ⟨by rw [mcells_length, e4], .inr ⟨g, uc, _, rfl, hB, h3, by omega, hcap, ?_, ?_⟩⟩
      · rw [List.size_toArray, layAt_length (by rw [e3]; omega), hsz]
      · show (layAt cur (l.length * 4) (mcells [x])).take ((l.length + 1) * 4) = mcells (l ++ [x])
        unfold layAt
        rw [htake, mcells_app, List.take_left' (by rw [List.length_append, mcells_length, e3]; omega)]
    · rw [hll, List.length_take, Nat.min_eq_left (by omega)]
      exact .inr ⟨g, off, uc - 1, uc, l.length + 1, rfl, rfl, by omega, by omega, .inr (by rcases hoff with h | h <;> omega)⟩
  · have ho : MOwn w3 B u (l.drop 1 ++ [x]) := by
      unfold MOwn
      rw [hll, mcells_app]
      exact own_mono h2 hw2
    refine ⟨⟨u, [], by rw [List.nil_append, List.append_nil]; exact ho, PartOf.whole ho⟩, ⟨h3.os, h3.tape, h3.output, h3.size, fun k hk _ => h3.block k hk (by simp)⟩⟩

def FullP (B : Nat) (v : Value) (l : List MsgM) (x : MsgM) (w : World) (e : Ending) (w' : World) : Prop :=
  ∃ V u pre, e = .returned (.tuple #[u, .int .i64 5]) ∧ MOwn w' B V (pre ++ (l.drop 1 ++ [x]) ++ []) ∧ PartOf V pre.length (l.drop 1 ++ [x]).length u ∧ w.grownBy w' v.ownBlock

set_option maxRecDepth 100000 in
set_option maxHeartbeats 3200000 in
theorem fullOld_any (p : Int) (v : Value) (l : List MsgM) (x : MsgM) (B : Nat) (w : World) (hp : p = 2 ∨ p = 4) (hl : l.length ≤ 1048576) (h0 : 0 < l.length) (ho : MOwn w B v l) (hB : B ≤ w.heap.size) :
    Calls Tryd.prog 37 #[polV p, v, magg x] w fun e w' => FullP B v l x w e w' := by
  obtain ⟨i, hi, hz0, hz1, hz2⟩ := msg_info
  obtain ⟨g, uc, rfl⟩ := Joins.ownsRow_form ho h0
  obtain ⟨q, f, s, d⟩ := x
  have hs1 : (w.alloc (.cells #[.int .i64 q, .int .i64 f, .string s, .int .i64 d] 35)).heap.size = w.heap.size + 1 := by simp
  have b1 : Below B w (w.alloc (.cells #[.int .i64 q, .int .i64 f, .string s, .int .i64 d] 35)) := (Below.refl _ _).alloc hB _
  have o1 := row_below ho ((Below.refl _ _).alloc (Nat.le_refl _) (.cells #[.int .i64 q, .int .i64 f, .string s, .int .i64 d] 35))
  have hg1 : w.grownBy (w.alloc (.cells #[.int .i64 q, .int .i64 f, .string s, .int .i64 d] 35)) (some g) := World.grownBy_alloc _ _ _
  have i1 : (w.alloc (.cells #[.int .i64 q, .int .i64 f, .string s, .int .i64 d] 35)).heap[w.heap.size]? = _ := heap_alloc_new _ _
  have d0 : (w.alloc (.cells #[.int .i64 q, .int .i64 f, .string s, .int .i64 d] 35)).cell? ⟨w.heap.size, 0, none⟩ = some (.int .i64 q) := cell_of_heap i1 0
  have d1 : (w.alloc (.cells #[.int .i64 q, .int .i64 f, .string s, .int .i64 d] 35)).cell? ⟨w.heap.size, 1, none⟩ = some (.int .i64 f) := cell_of_heap i1 1
  have d2 : (w.alloc (.cells #[.int .i64 q, .int .i64 f, .string s, .int .i64 d] 35)).cell? ⟨w.heap.size, 2, none⟩ = some (.string s) := cell_of_heap i1 2
  have d3 : (w.alloc (.cells #[.int .i64 q, .int .i64 f, .string s, .int .i64 d] 35)).cell? ⟨w.heap.size, 3, none⟩ = some (.int .i64 d) := cell_of_heap i1 3
  clear i1
  rcases hp with rfl | rfl
  · rw [show polV 2 = .iface 89 (.agg #[]) from rfl]
    have a1 := assert21
    have a2 := assert23
    go_enter Tryd.func37, Tryd.ntmps37
    go_upto_region 2 with (fail)
    clear a1 a2
    generalize w.alloc (.cells #[.int .i64 q, .int .i64 f, .string s, .int .i64 d] 35) = w1 at hs1 b1 o1 hg1 d0 d1 d2 d3 ⊢
    have e1 : w1.drew.heap.size = w.heap.size + 1 := hs1
    obtain ⟨cur, c1, c2, c3, c4, c5, c6⟩ := own_block o1
    have hA2 : Below w1.drew.heap.size w1.drew (w1.drew.alloc (.cells #[.int .i64 q, .int .i64 f, .string s, .int .i64 d] 35)) := (Below.refl _ _).alloc (Nat.le_refl _) _
    have CUR : Hid ((w1.drew.alloc (.cells #[.int .i64 q, .int .i64 f, .string s, .int .i64 d] 35)).heap[g]? = some (.cells cur.toArray 35 (0, 0))) := Lib.hid ((hA2.block _ (Array.getElem?_eq_some_iff.1 c2).1).trans c2)
    have HSR := Lib.hid (show SrcAt (w1.drew.alloc (.cells #[.int .i64 q, .int .i64 f, .string s, .int .i64 d] 35)) (.slice (some ⟨w.heap.size + 1, 0, none⟩) 1 1) 1 (mcells [(q, f, s, d)]) from ⟨_, _, rfl, .inr ⟨_, rfl, by have h := msg_new w1.drew (q, f, s, d) 35; rw [e1] at h; exact h⟩⟩)
    have HB2 : Hid (Below B w (w1.drew.alloc (.cells #[.int .i64 q, .int .i64 f, .string s, .int .i64 d] 35)) ∧ B ≤ (w1.drew.alloc (.cells #[.int .i64 q, .int .i64 f, .string s, .int .i64 d] 35)).heap.size) := Lib.hid ⟨b1.drew.alloc (by rw [e1]; omega) _, Nat.le_trans (by omega) hA2.size⟩
    have HFE := Lib.hid (fun (off : Nat) (w3 : World) (u : Value) ho hu => full_end (w2 := w1.drew.alloc (.cells #[.int .i64 q, .int .i64 f, .string s, .int .i64 d] 35)) (w3 := w3) (x := (q, f, s, d)) (u := u) (off := off) c1 c4 c5 c6 h0 ho HB2.out.2 hu)
    have HOL : Hid ((mcells (l.drop 1)).length = (l.length - 1) * 4 ∧ (∀ j u, (mcells (l.drop 1))[j]? = some u → cur[4 + j]? = some u)) := Lib.hid ⟨by rw [mcells_length, List.length_drop], fun j u hj => by
      have e2 : mcells l = mcells (l.take 1) ++ mcells (l.drop 1) := by rw [← mcells_app, List.take_append_drop]
      have e3 : (mcells (l.take 1)).length = 4 := by rw [mcells_length, List.length_take, Nat.min_eq_left (by omega)]
      have h2 : (cur.take (l.length * 4))[4 + j]? = some u := by rw [c6, e2, List.getElem?_append_right (by omega), e3, Nat.add_sub_cancel_left]; exact hj
      rw [List.getElem?_take] at h2
      split at h2
      · exact h2
      · cases h2⟩
    have HNW := Lib.hid (show ∀ j u, (mcells [(q, f, s, d)])[j]? = some u → (w1.drew.alloc (.cells #[.int .i64 q, .int .i64 f, .string s, .int .i64 d] 35)).cell? ((⟨w.heap.size + 1, 0, none⟩ : Addr).add j) = some u by have h := msg_new w1.drew (q, f, s, d) 35; rw [e1] at h; exact h)
    have HNE : w.heap.size ≠ g := Nat.ne_of_gt (ho.lt g rfl).2
    have hq2 : (1 : Int) ≤ (l.length : Int) := by omega
    clear c2 hA2 b1 o1 HSR
    by_cases hyc : uc = 1
    · subst hyc
      refine wp_region_held_drew (S := fun wx => wx.cell? ⟨w.heap.size, 0, none⟩ = some (.int .i64 q) ∧ wx.cell? ⟨w.heap.size, 1, none⟩ = some (.int .i64 f) ∧ wx.cell? ⟨w.heap.size, 2, none⟩ = some (.string s) ∧ wx.cell? ⟨w.heap.size, 3, none⟩ = some (.int .i64 d)) (by kernel_rfl) ?_ (fun hHeld => ?_)
      · exact ⟨d0, d1, d2, d3⟩
      change wpAnyH _ _ _ _ _ 7 #[false, false, false, false, false, false, false] _ _
      refine wpAnyH_take (i := 0) (v := ?_) rfl (by kernel_rfl) (by kernel_rfl) (by kernel_rfl) (fun _ _ _ h => h) (Or.inl ⟨by rfl, ?_⟩) (by assumption) ?_
      rotate_left
      · intro w hSw; (try dsimp only at hSw); go_simp; try with_reducible rfl
      try simp only [Act.put, List.getElem_toArray, List.getElem_cons_succ, List.getElem_cons_zero, List.setIfInBounds_toArray, List.set_cons_zero, List.set_cons_succ]
      refine wpAnyH_take (i := 1) (v := ?_) rfl (by kernel_rfl) (by kernel_rfl) (by kernel_rfl) (fun _ _ _ h => h) (Or.inl ⟨by rfl, ?_⟩) (by assumption) ?_
      rotate_left
      · intro w hSw; (try dsimp only at hSw); go_simp; try with_reducible rfl
      try simp only [Act.put, List.getElem_toArray, List.getElem_cons_succ, List.getElem_cons_zero, List.setIfInBounds_toArray, List.set_cons_zero, List.set_cons_succ]
      refine wpAnyH_take (i := 2) (v := ?_) rfl (by kernel_rfl) (by kernel_rfl) (by kernel_rfl) (fun _ _ _ h => h) (Or.inl ⟨by rfl, ?_⟩) (by assumption) ?_
      rotate_left
      · intro w hSw; (try dsimp only at hSw); go_simp; try with_reducible rfl
      try simp only [Act.put, List.getElem_toArray, List.getElem_cons_succ, List.getElem_cons_zero, List.setIfInBounds_toArray, List.set_cons_zero, List.set_cons_succ]
      refine wpAnyH_ready (rs := [3]) (by kernel_rfl) (by simp) (AllReadyH.cons rfl (fun K hK => ?_) AllReadyH.nil)
      rw [if_pos (by rfl)]
      go_simp
      refine hK.out _ _ ?_ (fun hHeld => ?_)
      · exact ⟨Lib.cell?_alloc_some _ hHeld.1, Lib.cell?_alloc_some _ hHeld.2.1, Lib.cell?_alloc_some _ hHeld.2.2.1, Lib.cell?_alloc_some _ hHeld.2.2.2⟩
      clear hK K
      try simp only [Act.put, List.getElem_toArray, List.getElem_cons_succ, List.getElem_cons_zero, List.setIfInBounds_toArray, List.set_cons_zero, List.set_cons_succ]
      refine wpAnyH_ready (rs := [4]) (by kernel_rfl) (by simp) (AllReadyH.cons rfl (fun K hK => ?_) AllReadyH.nil)
      rw [if_pos (by rfl)]
      refine wp_append_part (.tmp 10) (.tmp 12) 28 rfl 35 i (.agg #[.int .i64 0, .int .i64 0, .string ⟨#[]⟩, .int .i64 0]) 4 40 Tryd.underlying28 hi hz0 hz1 hz2 rfl (by decide) g 0 (l.length - 1) (1 - 1) cur (mcells (l.drop 1)) (by simp [Act.eval]; omega) CUR.out HOL.out.1 (fun j u hj => by rw [List.drop_eq_nil_of_le (by omega)] at hj; simp [mcells] at hj) (by omega) ⟨w.heap.size + 1, 0, none⟩ 1 1 (mcells [(q, f, s, d)]) (by simp [Act.eval]) rfl HNW.out (mcells_one _) (by unfold maxLen; omega) (by omega) ?_; intro u w3 hu; obtain ⟨⟨V, pre, hO, hP⟩, hG0⟩ := HFE.out 0 w3 u (.inr rfl) hu; obtain ⟨N, hN⟩ : ∃ N, (l.drop 1 ++ [(q, f, s, d)]).length = N := ⟨_, rfl⟩; rw [hN] at hP; have HN := Lib.hid hN; clear hN; obtain ⟨xa, xc, hxu⟩ := hP.slice; subst hxu; have hG := Lib.hid hG0; have H3 := Lib.hid hO; have P3 := Lib.hid hP; have B3 := Lib.hid (grown_trans (grown_trans (grown_trans hg1 (grown_drewA w1 (some g))) (World.grownBy_alloc _ _ _)) hG.out); clear hO hP hu hG0
      refine hK.out _ _ ?_ (fun hHeld => ?_)
      · exact ⟨cell_stays hG.out HNE hHeld.1, cell_stays hG.out HNE hHeld.2.1, cell_stays hG.out HNE hHeld.2.2.1, cell_stays hG.out HNE hHeld.2.2.2⟩
      clear hK K
      try simp only [Act.put, List.getElem_toArray, List.getElem_cons_succ, List.getElem_cons_zero, List.setIfInBounds_toArray, List.set_cons_zero, List.set_cons_succ]
      refine wpAnyH_take (i := 5) (v := ?_) rfl (by kernel_rfl) (by kernel_rfl) (by kernel_rfl) (fun _ _ _ h => h) (Or.inl ⟨by rfl, ?_⟩) (by assumption) ?_
      rotate_left
      · intro w hSw; (try dsimp only at hSw); go_simp; try with_reducible rfl
      try simp only [Act.put, List.getElem_toArray, List.getElem_cons_succ, List.getElem_cons_zero, List.setIfInBounds_toArray, List.set_cons_zero, List.set_cons_succ]
      refine wpAnyH_take (i := 6) (v := ?_) rfl (by kernel_rfl) (by kernel_rfl) (by kernel_rfl) (fun _ _ _ h => h) (Or.inl ⟨by rfl, ?_⟩) (by assumption) ?_
      rotate_left
      · intro w hSw; (try dsimp only at hSw); go_simp; try with_reducible rfl
      try simp only [Act.put, List.getElem_toArray, List.getElem_cons_succ, List.getElem_cons_zero, List.setIfInBounds_toArray, List.set_cons_zero, List.set_cons_succ]
      refine wpAnyH_done (by kernel_rfl) ?_ _
      clear hHeld
      go_wp2
      go_ret2
      exact ⟨V, _, pre, rfl, H3.out, by rw [HN.out]; exact P3.out, B3.out⟩
    · skip
      refine wp_region_held_drew (S := fun wx => wx.cell? ⟨w.heap.size, 0, none⟩ = some (.int .i64 q) ∧ wx.cell? ⟨w.heap.size, 1, none⟩ = some (.int .i64 f) ∧ wx.cell? ⟨w.heap.size, 2, none⟩ = some (.string s) ∧ wx.cell? ⟨w.heap.size, 3, none⟩ = some (.int .i64 d)) (by kernel_rfl) ?_ (fun hHeld => ?_)
      · exact ⟨d0, d1, d2, d3⟩
      change wpAnyH _ _ _ _ _ 7 #[false, false, false, false, false, false, false] _ _
      refine wpAnyH_take (i := 0) (v := ?_) rfl (by kernel_rfl) (by kernel_rfl) (by kernel_rfl) (fun _ _ _ h => h) (Or.inl ⟨by rfl, ?_⟩) (by assumption) ?_
      rotate_left
      · intro w hSw; (try dsimp only at hSw); go_simp; try with_reducible rfl
      try simp only [Act.put, List.getElem_toArray, List.getElem_cons_succ, List.getElem_cons_zero, List.setIfInBounds_toArray, List.set_cons_zero, List.set_cons_succ]
      refine wpAnyH_take (i := 1) (v := ?_) rfl (by kernel_rfl) (by kernel_rfl) (by kernel_rfl) (fun _ _ _ h => h) (Or.inl ⟨by rfl, ?_⟩) (by assumption) ?_
      rotate_left
      · intro w hSw; (try dsimp only at hSw); go_simp; try with_reducible rfl
      try simp only [Act.put, List.getElem_toArray, List.getElem_cons_succ, List.getElem_cons_zero, List.setIfInBounds_toArray, List.set_cons_zero, List.set_cons_succ]
      refine wpAnyH_take (i := 2) (v := ?_) rfl (by kernel_rfl) (by kernel_rfl) (by kernel_rfl) (fun _ _ _ h => h) (Or.inl ⟨by rfl, ?_⟩) (by assumption) ?_
      rotate_left
      · intro w hSw; (try dsimp only at hSw); go_simp; try with_reducible rfl
      try simp only [Act.put, List.getElem_toArray, List.getElem_cons_succ, List.getElem_cons_zero, List.setIfInBounds_toArray, List.set_cons_zero, List.set_cons_succ]
      refine wpAnyH_ready (rs := [3]) (by kernel_rfl) (by simp) (AllReadyH.cons rfl (fun K hK => ?_) AllReadyH.nil)
      rw [if_pos (by rfl)]
      go_simp
      refine hK.out _ _ ?_ (fun hHeld => ?_)
      · exact ⟨Lib.cell?_alloc_some _ hHeld.1, Lib.cell?_alloc_some _ hHeld.2.1, Lib.cell?_alloc_some _ hHeld.2.2.1, Lib.cell?_alloc_some _ hHeld.2.2.2⟩
      clear hK K
      try simp only [Act.put, List.getElem_toArray, List.getElem_cons_succ, List.getElem_cons_zero, List.setIfInBounds_toArray, List.set_cons_zero, List.set_cons_succ]
      refine wpAnyH_ready (rs := [4]) (by kernel_rfl) (by simp) (AllReadyH.cons rfl (fun K hK => ?_) AllReadyH.nil)
      rw [if_pos (by rfl)]
      refine wp_append_part (.tmp 10) (.tmp 12) 28 rfl 35 i (.agg #[.int .i64 0, .int .i64 0, .string ⟨#[]⟩, .int .i64 0]) 4 40 Tryd.underlying28 hi hz0 hz1 hz2 rfl (by decide) g 4 (l.length - 1) (uc - 1) cur (mcells (l.drop 1)) (by simp [Act.eval]) CUR.out HOL.out.1 HOL.out.2 (by omega) ⟨w.heap.size + 1, 0, none⟩ 1 1 (mcells [(q, f, s, d)]) (by simp [Act.eval]) rfl HNW.out (mcells_one _) (by unfold maxLen; omega) (by omega) ?_; intro u w3 hu; obtain ⟨⟨V, pre, hO, hP⟩, hG0⟩ := HFE.out 4 w3 u (.inl rfl) hu; obtain ⟨N, hN⟩ : ∃ N, (l.drop 1 ++ [(q, f, s, d)]).length = N := ⟨_, rfl⟩; rw [hN] at hP; have HN := Lib.hid hN; clear hN; obtain ⟨xa, xc, hxu⟩ := hP.slice; subst hxu; have hG := Lib.hid hG0; have H3 := Lib.hid hO; have P3 := Lib.hid hP; have B3 := Lib.hid (grown_trans (grown_trans (grown_trans hg1 (grown_drewA w1 (some g))) (World.grownBy_alloc _ _ _)) hG.out); clear hO hP hu hG0
      refine hK.out _ _ ?_ (fun hHeld => ?_)
      · exact ⟨cell_stays hG.out HNE hHeld.1, cell_stays hG.out HNE hHeld.2.1, cell_stays hG.out HNE hHeld.2.2.1, cell_stays hG.out HNE hHeld.2.2.2⟩
      clear hK K
      try simp only [Act.put, List.getElem_toArray, List.getElem_cons_succ, List.getElem_cons_zero, List.setIfInBounds_toArray, List.set_cons_zero, List.set_cons_succ]
      refine wpAnyH_take (i := 5) (v := ?_) rfl (by kernel_rfl) (by kernel_rfl) (by kernel_rfl) (fun _ _ _ h => h) (Or.inl ⟨by rfl, ?_⟩) (by assumption) ?_
      rotate_left
      · intro w hSw; (try dsimp only at hSw); go_simp; try with_reducible rfl
      try simp only [Act.put, List.getElem_toArray, List.getElem_cons_succ, List.getElem_cons_zero, List.setIfInBounds_toArray, List.set_cons_zero, List.set_cons_succ]
      refine wpAnyH_take (i := 6) (v := ?_) rfl (by kernel_rfl) (by kernel_rfl) (by kernel_rfl) (fun _ _ _ h => h) (Or.inl ⟨by rfl, ?_⟩) (by assumption) ?_
      rotate_left
      · intro w hSw; (try dsimp only at hSw); go_simp; try with_reducible rfl
      try simp only [Act.put, List.getElem_toArray, List.getElem_cons_succ, List.getElem_cons_zero, List.setIfInBounds_toArray, List.set_cons_zero, List.set_cons_succ]
      refine wpAnyH_done (by kernel_rfl) ?_ _
      clear hHeld
      go_wp2
      go_ret2
      exact ⟨V, _, pre, rfl, H3.out, by rw [HN.out]; exact P3.out, B3.out⟩
  · rw [show polV 4 = .iface 91 (.agg #[]) from rfl]
    have a1 := assert41
    have a2 := assert43
    go_enter Tryd.func37, Tryd.ntmps37
    go_upto_region 2 with (fail)
    clear a1 a2
    generalize w.alloc (.cells #[.int .i64 q, .int .i64 f, .string s, .int .i64 d] 35) = w1 at hs1 b1 o1 hg1 d0 d1 d2 d3 ⊢
    have e1 : w1.drew.heap.size = w.heap.size + 1 := hs1
    obtain ⟨cur, c1, c2, c3, c4, c5, c6⟩ := own_block o1
    have hA2 : Below w1.drew.heap.size w1.drew (w1.drew.alloc (.cells #[.int .i64 q, .int .i64 f, .string s, .int .i64 d] 35)) := (Below.refl _ _).alloc (Nat.le_refl _) _
    have CUR : Hid ((w1.drew.alloc (.cells #[.int .i64 q, .int .i64 f, .string s, .int .i64 d] 35)).heap[g]? = some (.cells cur.toArray 35 (0, 0))) := Lib.hid ((hA2.block _ (Array.getElem?_eq_some_iff.1 c2).1).trans c2)
    have HSR := Lib.hid (show SrcAt (w1.drew.alloc (.cells #[.int .i64 q, .int .i64 f, .string s, .int .i64 d] 35)) (.slice (some ⟨w.heap.size + 1, 0, none⟩) 1 1) 1 (mcells [(q, f, s, d)]) from ⟨_, _, rfl, .inr ⟨_, rfl, by have h := msg_new w1.drew (q, f, s, d) 35; rw [e1] at h; exact h⟩⟩)
    have HB2 : Hid (Below B w (w1.drew.alloc (.cells #[.int .i64 q, .int .i64 f, .string s, .int .i64 d] 35)) ∧ B ≤ (w1.drew.alloc (.cells #[.int .i64 q, .int .i64 f, .string s, .int .i64 d] 35)).heap.size) := Lib.hid ⟨b1.drew.alloc (by rw [e1]; omega) _, Nat.le_trans (by omega) hA2.size⟩
    have HFE := Lib.hid (fun (off : Nat) (w3 : World) (u : Value) ho hu => full_end (w2 := w1.drew.alloc (.cells #[.int .i64 q, .int .i64 f, .string s, .int .i64 d] 35)) (w3 := w3) (x := (q, f, s, d)) (u := u) (off := off) c1 c4 c5 c6 h0 ho HB2.out.2 hu)
    have HOL : Hid ((mcells (l.drop 1)).length = (l.length - 1) * 4 ∧ (∀ j u, (mcells (l.drop 1))[j]? = some u → cur[4 + j]? = some u)) := Lib.hid ⟨by rw [mcells_length, List.length_drop], fun j u hj => by
      have e2 : mcells l = mcells (l.take 1) ++ mcells (l.drop 1) := by rw [← mcells_app, List.take_append_drop]
      have e3 : (mcells (l.take 1)).length = 4 := by rw [mcells_length, List.length_take, Nat.min_eq_left (by omega)]
      have h2 : (cur.take (l.length * 4))[4 + j]? = some u := by rw [c6, e2, List.getElem?_append_right (by omega), e3, Nat.add_sub_cancel_left]; exact hj
      rw [List.getElem?_take] at h2
      split at h2
      · exact h2
      · cases h2⟩
    have HNW := Lib.hid (show ∀ j u, (mcells [(q, f, s, d)])[j]? = some u → (w1.drew.alloc (.cells #[.int .i64 q, .int .i64 f, .string s, .int .i64 d] 35)).cell? ((⟨w.heap.size + 1, 0, none⟩ : Addr).add j) = some u by have h := msg_new w1.drew (q, f, s, d) 35; rw [e1] at h; exact h)
    have HNE : w.heap.size ≠ g := Nat.ne_of_gt (ho.lt g rfl).2
    have hq2 : (1 : Int) ≤ (l.length : Int) := by omega
    clear c2 hA2 b1 o1 HSR
    by_cases hyc : uc = 1
    · subst hyc
      refine wp_region_held_drew (S := fun wx => wx.cell? ⟨w.heap.size, 0, none⟩ = some (.int .i64 q) ∧ wx.cell? ⟨w.heap.size, 1, none⟩ = some (.int .i64 f) ∧ wx.cell? ⟨w.heap.size, 2, none⟩ = some (.string s) ∧ wx.cell? ⟨w.heap.size, 3, none⟩ = some (.int .i64 d)) (by kernel_rfl) ?_ (fun hHeld => ?_)
      · exact ⟨d0, d1, d2, d3⟩
      change wpAnyH _ _ _ _ _ 7 #[false, false, false, false, false, false, false] _ _
      refine wpAnyH_take (i := 0) (v := ?_) rfl (by kernel_rfl) (by kernel_rfl) (by kernel_rfl) (fun _ _ _ h => h) (Or.inl ⟨by rfl, ?_⟩) (by assumption) ?_
      rotate_left
      · intro w hSw; (try dsimp only at hSw); go_simp; try with_reducible rfl
      try simp only [Act.put, List.getElem_toArray, List.getElem_cons_succ, List.getElem_cons_zero, List.setIfInBounds_toArray, List.set_cons_zero, List.set_cons_succ]
      refine wpAnyH_take (i := 1) (v := ?_) rfl (by kernel_rfl) (by kernel_rfl) (by kernel_rfl) (fun _ _ _ h => h) (Or.inl ⟨by rfl, ?_⟩) (by assumption) ?_
      rotate_left
      · intro w hSw; (try dsimp only at hSw); go_simp; try with_reducible rfl
      try simp only [Act.put, List.getElem_toArray, List.getElem_cons_succ, List.getElem_cons_zero, List.setIfInBounds_toArray, List.set_cons_zero, List.set_cons_succ]
      refine wpAnyH_take (i := 2) (v := ?_) rfl (by kernel_rfl) (by kernel_rfl) (by kernel_rfl) (fun _ _ _ h => h) (Or.inl ⟨by rfl, ?_⟩) (by assumption) ?_
      rotate_left
      · intro w hSw; (try dsimp only at hSw); go_simp; try with_reducible rfl
      try simp only [Act.put, List.getElem_toArray, List.getElem_cons_succ, List.getElem_cons_zero, List.setIfInBounds_toArray, List.set_cons_zero, List.set_cons_succ]
      refine wpAnyH_ready (rs := [3]) (by kernel_rfl) (by simp) (AllReadyH.cons rfl (fun K hK => ?_) AllReadyH.nil)
      rw [if_pos (by rfl)]
      go_simp
      refine hK.out _ _ ?_ (fun hHeld => ?_)
      · exact ⟨Lib.cell?_alloc_some _ hHeld.1, Lib.cell?_alloc_some _ hHeld.2.1, Lib.cell?_alloc_some _ hHeld.2.2.1, Lib.cell?_alloc_some _ hHeld.2.2.2⟩
      clear hK K
      try simp only [Act.put, List.getElem_toArray, List.getElem_cons_succ, List.getElem_cons_zero, List.setIfInBounds_toArray, List.set_cons_zero, List.set_cons_succ]
      refine wpAnyH_ready (rs := [4]) (by kernel_rfl) (by simp) (AllReadyH.cons rfl (fun K hK => ?_) AllReadyH.nil)
      rw [if_pos (by rfl)]
      refine wp_append_part (.tmp 10) (.tmp 12) 28 rfl 35 i (.agg #[.int .i64 0, .int .i64 0, .string ⟨#[]⟩, .int .i64 0]) 4 40 Tryd.underlying28 hi hz0 hz1 hz2 rfl (by decide) g 0 (l.length - 1) (1 - 1) cur (mcells (l.drop 1)) (by simp [Act.eval]; omega) CUR.out HOL.out.1 (fun j u hj => by rw [List.drop_eq_nil_of_le (by omega)] at hj; simp [mcells] at hj) (by omega) ⟨w.heap.size + 1, 0, none⟩ 1 1 (mcells [(q, f, s, d)]) (by simp [Act.eval]) rfl HNW.out (mcells_one _) (by unfold maxLen; omega) (by omega) ?_; intro u w3 hu; obtain ⟨⟨V, pre, hO, hP⟩, hG0⟩ := HFE.out 0 w3 u (.inr rfl) hu; obtain ⟨N, hN⟩ : ∃ N, (l.drop 1 ++ [(q, f, s, d)]).length = N := ⟨_, rfl⟩; rw [hN] at hP; have HN := Lib.hid hN; clear hN; obtain ⟨xa, xc, hxu⟩ := hP.slice; subst hxu; have hG := Lib.hid hG0; have H3 := Lib.hid hO; have P3 := Lib.hid hP; have B3 := Lib.hid (grown_trans (grown_trans (grown_trans hg1 (grown_drewA w1 (some g))) (World.grownBy_alloc _ _ _)) hG.out); clear hO hP hu hG0
      refine hK.out _ _ ?_ (fun hHeld => ?_)
      · exact ⟨cell_stays hG.out HNE hHeld.1, cell_stays hG.out HNE hHeld.2.1, cell_stays hG.out HNE hHeld.2.2.1, cell_stays hG.out HNE hHeld.2.2.2⟩
      clear hK K
      try simp only [Act.put, List.getElem_toArray, List.getElem_cons_succ, List.getElem_cons_zero, List.setIfInBounds_toArray, List.set_cons_zero, List.set_cons_succ]
      refine wpAnyH_take (i := 5) (v := ?_) rfl (by kernel_rfl) (by kernel_rfl) (by kernel_rfl) (fun _ _ _ h => h) (Or.inl ⟨by rfl, ?_⟩) (by assumption) ?_
      rotate_left
      · intro w hSw; (try dsimp only at hSw); go_simp; try with_reducible rfl
      try simp only [Act.put, List.getElem_toArray, List.getElem_cons_succ, List.getElem_cons_zero, List.setIfInBounds_toArray, List.set_cons_zero, List.set_cons_succ]
      refine wpAnyH_take (i := 6) (v := ?_) rfl (by kernel_rfl) (by kernel_rfl) (by kernel_rfl) (fun _ _ _ h => h) (Or.inl ⟨by rfl, ?_⟩) (by assumption) ?_
      rotate_left
      · intro w hSw; (try dsimp only at hSw); go_simp; try with_reducible rfl
      try simp only [Act.put, List.getElem_toArray, List.getElem_cons_succ, List.getElem_cons_zero, List.setIfInBounds_toArray, List.set_cons_zero, List.set_cons_succ]
      refine wpAnyH_done (by kernel_rfl) ?_ _
      clear hHeld
      go_wp2
      go_ret2
      exact ⟨V, _, pre, rfl, H3.out, by rw [HN.out]; exact P3.out, B3.out⟩
    · skip
      refine wp_region_held_drew (S := fun wx => wx.cell? ⟨w.heap.size, 0, none⟩ = some (.int .i64 q) ∧ wx.cell? ⟨w.heap.size, 1, none⟩ = some (.int .i64 f) ∧ wx.cell? ⟨w.heap.size, 2, none⟩ = some (.string s) ∧ wx.cell? ⟨w.heap.size, 3, none⟩ = some (.int .i64 d)) (by kernel_rfl) ?_ (fun hHeld => ?_)
      · exact ⟨d0, d1, d2, d3⟩
      change wpAnyH _ _ _ _ _ 7 #[false, false, false, false, false, false, false] _ _
      refine wpAnyH_take (i := 0) (v := ?_) rfl (by kernel_rfl) (by kernel_rfl) (by kernel_rfl) (fun _ _ _ h => h) (Or.inl ⟨by rfl, ?_⟩) (by assumption) ?_
      rotate_left
      · intro w hSw; (try dsimp only at hSw); go_simp; try with_reducible rfl
      try simp only [Act.put, List.getElem_toArray, List.getElem_cons_succ, List.getElem_cons_zero, List.setIfInBounds_toArray, List.set_cons_zero, List.set_cons_succ]
      refine wpAnyH_take (i := 1) (v := ?_) rfl (by kernel_rfl) (by kernel_rfl) (by kernel_rfl) (fun _ _ _ h => h) (Or.inl ⟨by rfl, ?_⟩) (by assumption) ?_
      rotate_left
      · intro w hSw; (try dsimp only at hSw); go_simp; try with_reducible rfl
      try simp only [Act.put, List.getElem_toArray, List.getElem_cons_succ, List.getElem_cons_zero, List.setIfInBounds_toArray, List.set_cons_zero, List.set_cons_succ]
      refine wpAnyH_take (i := 2) (v := ?_) rfl (by kernel_rfl) (by kernel_rfl) (by kernel_rfl) (fun _ _ _ h => h) (Or.inl ⟨by rfl, ?_⟩) (by assumption) ?_
      rotate_left
      · intro w hSw; (try dsimp only at hSw); go_simp; try with_reducible rfl
      try simp only [Act.put, List.getElem_toArray, List.getElem_cons_succ, List.getElem_cons_zero, List.setIfInBounds_toArray, List.set_cons_zero, List.set_cons_succ]
      refine wpAnyH_ready (rs := [3]) (by kernel_rfl) (by simp) (AllReadyH.cons rfl (fun K hK => ?_) AllReadyH.nil)
      rw [if_pos (by rfl)]
      go_simp
      refine hK.out _ _ ?_ (fun hHeld => ?_)
      · exact ⟨Lib.cell?_alloc_some _ hHeld.1, Lib.cell?_alloc_some _ hHeld.2.1, Lib.cell?_alloc_some _ hHeld.2.2.1, Lib.cell?_alloc_some _ hHeld.2.2.2⟩
      clear hK K
      try simp only [Act.put, List.getElem_toArray, List.getElem_cons_succ, List.getElem_cons_zero, List.setIfInBounds_toArray, List.set_cons_zero, List.set_cons_succ]
      refine wpAnyH_ready (rs := [4]) (by kernel_rfl) (by simp) (AllReadyH.cons rfl (fun K hK => ?_) AllReadyH.nil)
      rw [if_pos (by rfl)]
      refine wp_append_part (.tmp 10) (.tmp 12) 28 rfl 35 i (.agg #[.int .i64 0, .int .i64 0, .string ⟨#[]⟩, .int .i64 0]) 4 40 Tryd.underlying28 hi hz0 hz1 hz2 rfl (by decide) g 4 (l.length - 1) (uc - 1) cur (mcells (l.drop 1)) (by simp [Act.eval]) CUR.out HOL.out.1 HOL.out.2 (by omega) ⟨w.heap.size + 1, 0, none⟩ 1 1 (mcells [(q, f, s, d)]) (by simp [Act.eval]) rfl HNW.out (mcells_one _) (by unfold maxLen; omega) (by omega) ?_; intro u w3 hu; obtain ⟨⟨V, pre, hO, hP⟩, hG0⟩ := HFE.out 4 w3 u (.inl rfl) hu; obtain ⟨N, hN⟩ : ∃ N, (l.drop 1 ++ [(q, f, s, d)]).length = N := ⟨_, rfl⟩; rw [hN] at hP; have HN := Lib.hid hN; clear hN; obtain ⟨xa, xc, hxu⟩ := hP.slice; subst hxu; have hG := Lib.hid hG0; have H3 := Lib.hid hO; have P3 := Lib.hid hP; have B3 := Lib.hid (grown_trans (grown_trans (grown_trans hg1 (grown_drewA w1 (some g))) (World.grownBy_alloc _ _ _)) hG.out); clear hO hP hu hG0
      refine hK.out _ _ ?_ (fun hHeld => ?_)
      · exact ⟨cell_stays hG.out HNE hHeld.1, cell_stays hG.out HNE hHeld.2.1, cell_stays hG.out HNE hHeld.2.2.1, cell_stays hG.out HNE hHeld.2.2.2⟩
      clear hK K
      try simp only [Act.put, List.getElem_toArray, List.getElem_cons_succ, List.getElem_cons_zero, List.setIfInBounds_toArray, List.set_cons_zero, List.set_cons_succ]
      refine wpAnyH_take (i := 5) (v := ?_) rfl (by kernel_rfl) (by kernel_rfl) (by kernel_rfl) (fun _ _ _ h => h) (Or.inl ⟨by rfl, ?_⟩) (by assumption) ?_
      rotate_left
      · intro w hSw; (try dsimp only at hSw); go_simp; try with_reducible rfl
      try simp only [Act.put, List.getElem_toArray, List.getElem_cons_succ, List.getElem_cons_zero, List.setIfInBounds_toArray, List.set_cons_zero, List.set_cons_succ]
      refine wpAnyH_take (i := 6) (v := ?_) rfl (by kernel_rfl) (by kernel_rfl) (by kernel_rfl) (fun _ _ _ h => h) (Or.inl ⟨by rfl, ?_⟩) (by assumption) ?_
      rotate_left
      · intro w hSw; (try dsimp only at hSw); go_simp; try with_reducible rfl
      try simp only [Act.put, List.getElem_toArray, List.getElem_cons_succ, List.getElem_cons_zero, List.setIfInBounds_toArray, List.set_cons_zero, List.set_cons_succ]
      refine wpAnyH_done (by kernel_rfl) ?_ _
      clear hHeld
      go_wp2
      go_ret2
      exact ⟨V, _, pre, rfl, H3.out, by rw [HN.out]; exact P3.out, B3.out⟩

end Go.Proofs.YtgmbjnobpkdjkaaDoor
