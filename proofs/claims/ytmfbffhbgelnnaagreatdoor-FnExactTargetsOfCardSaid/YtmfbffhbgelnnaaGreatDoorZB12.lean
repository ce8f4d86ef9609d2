/- Small texts, laid together. -/
import Derived.Test.YtmfbffhbgelnnaaGreatDoorZPlaceM
import Derived.Test.YtmfbffhbgelnnaaGreatDoorZB1
import Derived.Test.YtmfbffhbgelnnaaGreatDoorZB3
import Derived.Deep.RegionHeld
import Derived.Deep.RegionHeld3
import Derived.Laws.StructEq
import Derived.Deep.Cut
import Derived.Deep.Draws
import Derived.BigQuiet
import Derived.Deep.QuietTactic
import Derived.Lib.Hide
import Derived.Test.YtmfbffhbgelnnaaGreatDoorZSTrie2
import Derived.Shelf.SlSortCmp.NoneTotal
import Derived.Test.YtmfbffhbgelnnaaGreatDoorZB7
set_option linter.unusedSimpArgs false
set_option linter.unusedVariables false
/- Rows of places that a call owns. -/
namespace Go.Proofs.YtmfbffhbgelnnaaGreatDoor
open Go.RowKit

def pval (x : PlaceM) : List Value := [.string x.1, .int .i64 x.2]
def pcells (l : List PlaceM) : List Value := l.flatMap pval
abbrev pagg (x : PlaceM) : Value := .agg #[.string x.1, .int .i64 x.2]
theorem pcells_app (a b : List PlaceM) : pcells (a ++ b) = pcells a ++ pcells b := by simp [pcells]
theorem pcells_length : ∀ l : List PlaceM, (pcells l).length = l.length * 2
  | [] => rfl
  | x :: l => by
    have := pcells_length l
    unfold pcells at *
    rw [List.flatMap_cons, List.length_append, this]
    simp [pval]; omega
theorem pcells_at : ∀ (l : List PlaceM) (j : Nat) (h : j < l.length), (pcells l)[j * 2]? = some (.string l[j].1) ∧ (pcells l)[j * 2 + 1]? = some (.int .i64 l[j].2)
  | x :: l, 0, _ => ⟨rfl, rfl⟩
  | x :: l, j + 1, h => by
    have ih := pcells_at l j (by simpa using h)
    have e : pcells (x :: l) = .string x.1 :: .int .i64 x.2 :: pcells l := rfl
    rw [e, show (j + 1) * 2 = j * 2 + 1 + 1 by omega, show j * 2 + 1 + 1 + 1 = (j * 2 + 1) + 1 + 1 by omega]
    exact ih
theorem pcells_one (l : List PlaceM) : ∀ u ∈ pcells l, u.oneCell' = true := by
  intro u hu
  obtain ⟨x, _, hx⟩ := List.mem_flatMap.1 hu
  simp only [pval, List.mem_cons, List.not_mem_nil, or_false] at hx
  rcases hx with rfl | rfl <;> rfl

/-- v is an own row of places. -/
def POwn (w : World) (B : Nat) (v : Value) (l : List PlaceM) : Prop := w.ownsRow B 115 2 v l.length (pcells l)
theorem place_info : ∃ i, Tryz.prog.info? 115 = some i ∧ i.zero = some (.agg #[.string ⟨#[]⟩, .int .i64 0]) ∧ i.size = 2 ∧ i.bytes = 24 := info_parts (by kernel_rfl)
theorem src_place (w : World) (p : ByteArray) (n : Int) : SrcAt (w.alloc (.cells #[.string p, .int .i64 n] 115)) (.slice (some ⟨w.heap.size, 0, none⟩) 1 1) 1 [.string p, .int .i64 n] :=
  ⟨_, _, rfl, .inr ⟨_, rfl, fun j v hv => by
    rw [Addr.add_lit, Nat.zero_add]
    exact (cell_of_heap (heap_alloc_new w _) j).trans (by rw [← hv]; simp)⟩⟩
theorem place_one (p : ByteArray) (n : Int) : ∀ u ∈ [Value.string p, .int .i64 n], u.oneCell' = true := fun u hu => by
  rcases List.mem_cons.1 hu with rfl | hu
  · rfl
  · rw [List.mem_singleton.1 hu]; rfl
theorem POwn.push {w : World} {B n : Nat} {v : Value} {l : List PlaceM} {p : ByteArray} {i : Int} (h : w.ownsRow B 115 2 v (n + 1) (pcells l ++ [.string p, .int .i64 i])) (hn : n = l.length) : POwn w B v (l ++ [(p, i)]) := by
  unfold POwn
  rw [pcells_app, List.length_append, ← hn]
  exact h

end Go.Proofs.YtmfbffhbgelnnaaGreatDoor

/- The walk of the program's order of places. -/
namespace Go.Proofs.YtmfbffhbgelnnaaGreatDoor
open Go.RowKit Go.Sort

set_option maxRecDepth 100000 in
set_option maxHeartbeats 1600000 in
theorem byPlace_any (a b : PlaceM) (w : World) :
    Calls Tryz.prog 104 #[pagg a, pagg b] w fun e w' => e = .returned (.int .i64 (placeC a b)) ∧ ∃ n os, w' = grow (w.drewN n) os := by
  have CI := Lib.hid (fun w' => compareI_any a.2 b.2 w')
  have CT := Lib.hid (fun w' => compareS_any a.1 b.1 w')
  have HE : Hid (placeC a b = if cmpT a.1 b.1 = 0 then cmpI a.2 b.2 else cmpT a.1 b.1) := rfl
  generalize placeC a b = c at HE ⊢
  obtain ⟨ci, hci⟩ : ∃ ci, cmpI a.2 b.2 = ci := ⟨_, rfl⟩
  obtain ⟨ct, hct⟩ : ∃ ct, cmpT a.1 b.1 = ct := ⟨_, rfl⟩
  rw [hci, hct] at HE
  rw [hci] at CI
  rw [hct] at CT
  have CO := Lib.hid (fun g cp w' h0 h1 => or_any ct ci g cp w' h0 h1)
  rw [← HE.out] at CO
  clear hci hct HE
  obtain ⟨p, d⟩ := a
  obtain ⟨p2, d2⟩ := b
  go_enter Tryz.func104, Tryz.ntmps104
  go_wp2_with fail
  have d0 : ((w.alloc (.cells #[.string p, .int .i64 d] 115)).alloc (.cells #[.string p2, .int .i64 d2] 115)).heap[w.heap.size]? = some (.cells #[.string p, .int .i64 d] 115 (0, 0)) := by
    rw [Below.heap_alloc _ _ _ (by simp)]; exact heap_alloc_new _ _
  have d1 : ((w.alloc (.cells #[.string p, .int .i64 d] 115)).alloc (.cells #[.string p2, .int .i64 d2] 115)).heap[w.heap.size + 1]? = some (.cells #[.string p2, .int .i64 d2] 115 (0, 0)) := by
    have e1 : (w.alloc (.cells #[.string p, .int .i64 d] 115)).heap.size = w.heap.size + 1 := by simp
    rw [← e1]; exact heap_alloc_new _ _
  have hg : After w ((w.alloc (.cells #[.string p, .int .i64 d] 115)).alloc (.cells #[.string p2, .int .i64 d2] 115)) := ⟨0, _, by rw [alloc_eq_grow, alloc_eq_grow, grow_grow]; rfl⟩
  generalize (w.alloc (.cells #[.string p, .int .i64 d] 115)).alloc (.cells #[.string p2, .int .i64 d2] 115) = w0 at d0 d1 hg ⊢
  have a0 : w0.cell? ⟨w.heap.size, 0, none⟩ = some (.string p) := cell_of_heap d0 0
  have a1 : w0.cell? ⟨w.heap.size, 1, none⟩ = some (.int .i64 d) := cell_of_heap d0 1
  have b0 : w0.cell? ⟨w.heap.size + 1, 0, none⟩ = some (.string p2) := cell_of_heap d1 0
  have b1 : w0.cell? ⟨w.heap.size + 1, 1, none⟩ = some (.int .i64 d2) := cell_of_heap d1 1
  have HA := Lib.hid hg.drew
  clear d0 d1 hg
  refine wp_region_held_drew (S := fun wx => wx.cell? ⟨w.heap.size, 0, none⟩ = some (.string p) ∧ wx.cell? ⟨w.heap.size, 1, none⟩ = some (.int .i64 d) ∧ wx.cell? ⟨w.heap.size + 1, 0, none⟩ = some (.string p2) ∧ wx.cell? ⟨w.heap.size + 1, 1, none⟩ = some (.int .i64 d2) ∧ Hid (After w wx)) (by kernel_rfl) ?_ (fun hHeld => ?_)
  · exact ⟨a0, a1, b0, b1, HA⟩
  change wpAnyH _ _ _ _ _ 13 #[false, false, false, false, false, false, false, false, false, false, false, false, false] _ _
  clear a0 a1 b0 b1 HA
  refine wpAnyH_take (i := 0) (v := ?_) rfl (by kernel_rfl) (by kernel_rfl) (by kernel_rfl) (fun _ _ _ h => h) (Or.inl ⟨by rfl, ?_⟩) (by assumption) ?_
  rotate_left
  · intro w hSw; (try dsimp only at hSw); go_simp; try with_reducible rfl
  try simp only [Act.put, List.getElem_toArray, List.getElem_cons_succ, List.getElem_cons_zero, List.setIfInBounds_toArray, List.set_cons_zero, List.set_cons_succ]
  refine wpAnyH_take (i := 1) (v := ?_) rfl (by kernel_rfl) (by kernel_rfl) (by kernel_rfl) (fun _ _ _ h => h) (Or.inl ⟨by rfl, ?_⟩) (by assumption) ?_
  rotate_left
  · intro w hSw; (try dsimp only at hSw); go_simp; try with_reducible rfl
  try simp only [Act.put, List.getElem_toArray, List.getElem_cons_succ, List.getElem_cons_zero, List.setIfInBounds_toArray, List.set_cons_zero, List.set_cons_succ]
  refine wpAnyH_take (i := 2) (v := ?_) rfl (by kernel_rfl) (by kernel_rfl) (by kernel_rfl) (fun _ _ _ h => h) (Or.inl ⟨by rfl, ?_⟩) (by assumption) ?_
  rotate_left
  · intro w hSw; (try dsimp only at hSw); go_simp; try with_reducible rfl
  try simp only [Act.put, List.getElem_toArray, List.getElem_cons_succ, List.getElem_cons_zero, List.setIfInBounds_toArray, List.set_cons_zero, List.set_cons_succ]
  refine wpAnyH_take (i := 3) (v := ?_) rfl (by kernel_rfl) (by kernel_rfl) (by kernel_rfl) (fun _ _ _ h => h) (Or.inl ⟨by rfl, ?_⟩) (by assumption) ?_
  rotate_left
  · intro w hSw; (try dsimp only at hSw); go_simp; try with_reducible rfl
  try simp only [Act.put, List.getElem_toArray, List.getElem_cons_succ, List.getElem_cons_zero, List.setIfInBounds_toArray, List.set_cons_zero, List.set_cons_succ]
  refine wpAnyH_take (i := 5) (v := ?_) rfl (by kernel_rfl) (by kernel_rfl) (by kernel_rfl) (fun _ _ _ h => h) (Or.inl ⟨by rfl, ?_⟩) (by assumption) ?_
  rotate_left
  · intro w hSw; (try dsimp only at hSw); go_simp; try with_reducible rfl
  try simp only [Act.put, List.getElem_toArray, List.getElem_cons_succ, List.getElem_cons_zero, List.setIfInBounds_toArray, List.set_cons_zero, List.set_cons_succ]
  refine wpAnyH_take (i := 6) (v := ?_) rfl (by kernel_rfl) (by kernel_rfl) (by kernel_rfl) (fun _ _ _ h => h) (Or.inl ⟨by rfl, ?_⟩) (by assumption) ?_
  rotate_left
  · intro w hSw; (try dsimp only at hSw); go_simp; try with_reducible rfl
  try simp only [Act.put, List.getElem_toArray, List.getElem_cons_succ, List.getElem_cons_zero, List.setIfInBounds_toArray, List.set_cons_zero, List.set_cons_succ]
  refine wpAnyH_take (i := 7) (v := ?_) rfl (by kernel_rfl) (by kernel_rfl) (by kernel_rfl) (fun _ _ _ h => h) (Or.inl ⟨by rfl, ?_⟩) (by assumption) ?_
  rotate_left
  · intro w hSw; (try dsimp only at hSw); go_simp; try with_reducible rfl
  try simp only [Act.put, List.getElem_toArray, List.getElem_cons_succ, List.getElem_cons_zero, List.setIfInBounds_toArray, List.set_cons_zero, List.set_cons_succ]
  refine wpAnyH_take (i := 8) (v := ?_) rfl (by kernel_rfl) (by kernel_rfl) (by kernel_rfl) (fun _ _ _ h => h) (Or.inl ⟨by rfl, ?_⟩) (by assumption) ?_
  rotate_left
  · intro w hSw; (try dsimp only at hSw); go_simp; try with_reducible rfl
  try simp only [Act.put, List.getElem_toArray, List.getElem_cons_succ, List.getElem_cons_zero, List.setIfInBounds_toArray, List.set_cons_zero, List.set_cons_succ]
  refine wpAnyH_ready (rs := [4]) (by kernel_rfl) (by simp) (AllReadyH.cons rfl (fun K hK => ?_) AllReadyH.nil)
  rw [if_pos (by rfl)]
  go_simp; go_at_call 131; refine (CT.out _).mono ?_; rintro e wa ⟨rfl, rfl⟩; go_wp2_with fail
  refine hK.out _ _ ?_ (fun hHeld => ?_)
  · exact hHeld
  clear hK K
  try simp only [Act.put, List.getElem_toArray, List.getElem_cons_succ, List.getElem_cons_zero, List.setIfInBounds_toArray, List.set_cons_zero, List.set_cons_succ]
  refine wpAnyH_ready (rs := [9]) (by kernel_rfl) (by simp) (AllReadyH.cons rfl (fun K hK => ?_) AllReadyH.nil)
  rw [if_pos (by rfl)]
  go_simp; go_at_call 132; refine (CI.out _).mono ?_; rintro e wa ⟨rfl, rfl⟩; go_wp2_with fail
  refine hK.out _ _ ?_ (fun hHeld => ?_)
  · exact hHeld
  clear hK K
  try simp only [Act.put, List.getElem_toArray, List.getElem_cons_succ, List.getElem_cons_zero, List.setIfInBounds_toArray, List.set_cons_zero, List.set_cons_succ]
  refine wpAnyH_ready (rs := [10]) (by kernel_rfl) (by simp) (AllReadyH.cons rfl (fun K hK => ?_) AllReadyH.nil)
  rw [if_pos (by rfl)]
  go_simp
  refine hK.out _ _ ?_ (fun hHeld => ?_)
  · obtain ⟨h0, h1, h4, h5, h8⟩ := hHeld; rw [alloc_eq_grow]; exact ⟨cell_after h0, cell_after h1, cell_after h4, cell_after h5, Lib.hid (h8.out.grow _)⟩
  clear hK K
  try simp only [Act.put, List.getElem_toArray, List.getElem_cons_succ, List.getElem_cons_zero, List.setIfInBounds_toArray, List.set_cons_zero, List.set_cons_succ]
  refine wpAnyH_ready (rs := [11]) (by kernel_rfl) (by simp) (AllReadyH.cons rfl (fun K hK => ?_) AllReadyH.nil)
  rw [if_pos (by rfl)]
  go_simp; go_at_call 130; refine (CO.out _ _ _ (by rw [World.cell?_drew, World.cell?_alloc_at _ _ _ _ (by first | rfl | simp)]; rfl) (by rw [World.cell?_drew, World.cell?_alloc_at _ _ _ _ (by first | rfl | simp)]; rfl)).mono ?_; rintro e wa ⟨rfl, rfl⟩; go_wp2_with fail
  refine hK.out _ _ ?_ (fun hHeld => ?_)
  · exact hHeld
  clear hK K
  try simp only [Act.put, List.getElem_toArray, List.getElem_cons_succ, List.getElem_cons_zero, List.setIfInBounds_toArray, List.set_cons_zero, List.set_cons_succ]
  refine wpAnyH_take (i := 12) (v := ?_) rfl (by kernel_rfl) (by kernel_rfl) (by kernel_rfl) (fun _ _ _ h => h) (Or.inl ⟨by rfl, ?_⟩) (by assumption) ?_
  rotate_left
  · intro w hSw; (try dsimp only at hSw); go_simp; try with_reducible rfl
  try simp only [Act.put, List.getElem_toArray, List.getElem_cons_succ, List.getElem_cons_zero, List.setIfInBounds_toArray, List.set_cons_zero, List.set_cons_succ]
  refine wpAnyH_done (by kernel_rfl) ?_ _
  have HF := hHeld.2.2.2.2
  clear hHeld
  go_wp2
  go_ret
  exact ⟨rfl, HF.out⟩

end Go.Proofs.YtmfbffhbgelnnaaGreatDoor

/- slices.Equal at places. -/
namespace Go.Proofs.YtmfbffhbgelnnaaGreatDoor
open Go.RowKit

def placeEq (x y : PlaceM) : Bool := (x.1.toList == y.1.toList) && x.2 == y.2
theorem placeEq_iff {x y : PlaceM} : placeEq x y = true ↔ x = y := by
  unfold placeEq
  rw [Bool.and_eq_true, beq_iff_eq (a := x.2)]
  constructor
  · rintro ⟨h1, h2⟩; exact Prod.ext (bytes_same h1) h2
  · rintro rfl; exact ⟨bytes_self _, rfl⟩

set_option maxRecDepth 100000 in
theorem neq_place (p q : ByteArray) (d f : Int) (w : World) : Sem.run Tryz.prog (binOp .neq 115 (.agg #[.string p, .int .i64 d]) (.agg #[.string q, .int .i64 f])) w = .ok (.bool (!((p.toList == q.toList) && d == f))) w := by
  have u1 := Tryz.underlying9
  have u2 := Tryz.underlying2
  have a1 := Tryz.isAgg9
  have a2 := Tryz.isAgg2
  have z1 := Tryz.sizeOf9
  have z2 := Tryz.sizeOf2
  have hS : Tryz.prog.underlying 115 = some (.struct (Tryz.prog.fieldsOf 115)) := by kernel_rfl
  have hp : Tryz.prog.stoodInHeld 115 = false := by kernel_rfl
  rw [run_neq_struct, show (10000 : Nat) = 9999 + 1 from rfl, run_equalIn_agg w 9999 115 _ _ hS hp]
  simp only [Program.fieldsOf, Tryz.underlying115]
  go_simp
  by_cases h1 : p.toList = q.toList <;> by_cases h2 : d = f <;> simp [h1, h2]

set_option maxRecDepth 100000 in
theorem guard_place (op : BinOp) (a b : Operand) (p q : ByteArray) (d f : Int) (w : World) : Sem.run Tryz.prog (eqGuard op 115 a b (.agg #[.string p, .int .i64 d]) (.agg #[.string q, .int .i64 f])) w = .ok () w :=
  run_eqGuard_agg w op _ a b _ _ (by kernel_rfl)

theorem own_place_at {w : World} {B n : Nat} {a : Option Addr} {c : Nat} {l : List PlaceM} (h : POwn w B (.slice a n c) l) {k : Nat} (hk : k < l.length) :
    ∃ g, a = some ⟨g, 0, none⟩ ∧ w.cell? ⟨g, k * 2, none⟩ = some (.string l[k].1) ∧ w.cell? ⟨g, k * 2 + 1, none⟩ = some (.int .i64 l[k].2) := by
  rcases h.2 with ⟨e, h0⟩ | ⟨g, cap, cur, e, _⟩
  · rw [h0] at hk; omega
  · cases e
    have hp := pcells_at l k hk
    exact ⟨g, rfl, by rw [World.ownsRow.cellAt h _ (by omega)]; exact hp.1, by rw [World.ownsRow.cellAt h _ (by omega)]; exact hp.2⟩

set_option maxRecDepth 100000 in
set_option maxHeartbeats 3200000 in
theorem equalP_any (u v : Value) (la lb : List PlaceM) (B C : Nat) (w : World) (hl : la.length ≤ 1048576000) (hl2 : lb.length ≤ 1048576000) (ha : POwn w B u la) (hb : POwn w C v lb) :
    Calls Tryz.prog 90 #[u, v] w fun e w' => e = .returned (.bool (decide (la = lb))) ∧ Below w.heap.size w w' := by
  obtain ⟨a, c, rfl⟩ := own_slice ha
  obtain ⟨a2, c2, rfl⟩ := own_slice hb
  have HA := Lib.hid ha
  have HB := Lib.hid hb
  clear ha hb
  by_cases hlen : ¬ la.length = lb.length
  · have g1 : ((la.length : Int) != (lb.length : Int)) = true := by simp; omega
    have HE : Hid (decide (la = lb) = false) := Lib.hid (by rw [decide_eq_false]; intro e; exact hlen (by rw [e]))
    clear hlen
    go_enter Tryz.func90, Tryz.ntmps90
    go_wp2
    go_ret
    exact ⟨ret_bool HE.out.symm, Below.refl _ _⟩
  have hlen : la.length = lb.length := by omega
  have g1 : ((la.length : Int) != (lb.length : Int)) = false := by simp [hlen]
  have HL := Lib.hid hlen
  clear hlen
  go_enter Tryz.func90, Tryz.ntmps90
  go_wp2
  go_loopw [13] (fun i wr => ∃ k : Nat, k ≤ la.length ∧ i = .int .i64 k ∧ Hid (la.take k = lb.take k) ∧ Hid (∃ m, wr = w.drewN m)) (fun i _ => la.length - (intOf i).toNat)
  case atStart => exact ⟨0, Nat.zero_le _, rfl, Lib.hid (by simp), Lib.hid ⟨0, rfl⟩⟩
  case round =>
    obtain ⟨k, hk, rfl, HT, HW⟩ := hrel
    obtain ⟨m0, hm0⟩ := HW.out
    by_cases hlt : k < la.length
    · have hlt2 : k < lb.length := by rw [← HL.out]; exact hlt
      obtain ⟨g, rfl, p0, p1⟩ := own_place_at HA.out hlt
      obtain ⟨g2, rfl, q0, q1⟩ := own_place_at HB.out hlt2
      replace p0 : wr.cell? ⟨g, k * 2, none⟩ = some (.string la[k].1) := by rw [hm0, World.cell?_drewN]; exact p0
      replace p1 : wr.cell? ⟨g, k * 2 + 1, none⟩ = some (.int .i64 la[k].2) := by rw [hm0, World.cell?_drewN]; exact p1
      replace q0 : wr.cell? ⟨g2, k * 2, none⟩ = some (.string lb[k].1) := by rw [hm0, World.cell?_drewN]; exact q0
      replace q1 : wr.cell? ⟨g2, k * 2 + 1, none⟩ = some (.int .i64 lb[k].2) := by rw [hm0, World.cell?_drewN]; exact q1
      have HX : Hid (la[k] = lb[k] → la.take (k + 1) = lb.take (k + 1)) := Lib.hid (fun h => take_more hlt hlt2 HT.out h)
      have HY : Hid (la[k] ≠ lb[k] → decide (la = lb) = false) := Lib.hid (fun h => by rw [decide_eq_false]; intro e; subst e; exact h rfl)
      generalize la[k] = x at p0 p1 HX HY
      generalize lb[k] = y at q0 q1 HX HY
      obtain ⟨p, d⟩ := x
      obtain ⟨q, f⟩ := y
      have hne := fun w => neq_place p q d f w
      have hgd := fun op a b w => guard_place op a b p q d f w
      obtain ⟨e, he⟩ : ∃ e, ((p.toList == q.toList) && d == f) = e := ⟨_, rfl⟩
      rw [he] at hne
      have HEQ : Hid (e = placeEq (p, d) (q, f)) := Lib.hid he.symm
      have HM : Hid (wr = w.drewN m0) := Lib.hid hm0
      clear he hm0 HW
      cases e
      · have HE := Lib.hid (HY.out (fun h => by have := placeEq_iff.2 h; rw [← HEQ.out] at this; cases this))
        go_wp2_with fail
        go_quiet (fail)
        go_wp2
        go_ret
        exact ⟨ret_bool HE.out.symm, by rw [HM.out]; exact below_drewN (below_drewN (Below.refl _ _) _) _⟩
      · have HE := Lib.hid (HX.out (placeEq_iff.1 HEQ.out.symm))
        go_wp2_with fail
        go_quiet (fail)
        go_wp2
        go_roundw
        case rel => exact ⟨k + 1, by omega, by go_num, HE, Lib.hid ⟨_, by rw [HM.out, World.drewN_drewN]⟩⟩
        case measure => simp [intOf]; omega
    · obtain rfl : k = la.length := by omega
      have HE : Hid (decide (la = lb) = true) := Lib.hid (by
        have h := HT.out
        rw [List.take_length, HL.out, List.take_length] at h
        exact decide_eq_true h)
      go_wp2
      go_ret
      exact ⟨ret_bool HE.out.symm, below_drewN (Below.refl _ _) _⟩

end Go.Proofs.YtmfbffhbgelnnaaGreatDoor

/- The walk of the program's places of a trie. -/
namespace Go.Proofs.YtmfbffhbgelnnaaGreatDoor
open Go.RowKit

theorem placesT_next {T : List KnotM} {k : Nat} (h : k < T.length) : placesT (T.take (k + 1)) = placesT (T.take k) ++ T[k].2.map (fun i => (T[k].1, i)) := by
  unfold placesT
  rw [List.take_succ_eq_append_getElem h, List.flatMap_append]
  simp
theorem map_next {x : KnotM} {q : Nat} (h : q < x.2.length) : (x.2.take (q + 1)).map (fun i => (x.1, i)) = (x.2.take q).map (fun i => (x.1, i)) ++ [(x.1, x.2[q])] := by
  rw [List.take_succ_eq_append_getElem h, List.map_append]; rfl
theorem placesT_len {T : List KnotM} (h : ∀ x ∈ T, x.2.length ≤ 100) : ∀ k, (placesT (T.take k)).length ≤ k * 100
  | 0 => by simp [placesT]
  | k + 1 => by
    have ih := placesT_len h k
    by_cases hk : k < T.length
    · rw [placesT_next hk, List.length_append, List.length_map]
      have := h T[k] (List.getElem_mem hk)
      omega
    · rw [List.take_of_length_le (by omega)] at ih ⊢
      omega

/-- In the round of one knot: its block, its numbers, the row. -/
structure PlR (w wx : World) (G : Nat) (x : KnotM) (u s : Value) (L : List PlaceM) : Prop where
  box : wx.heap[G]? = some (.cells #[.string x.1, u] 98 (0, 0))
  row : POwn wx w.heap.size s L
  since : Below w.heap.size w wx

set_option maxRecDepth 100000 in
set_option maxHeartbeats 3200000 in
theorem placesIn_any (v : Value) (T : List KnotM) (w : World) (hl : T.length ≤ 1048576) (hs : ∀ x ∈ T, x.2.length ≤ 100) (hv : KnotsAt w v T) :
    Calls Tryz.prog 91 #[v] w fun e w' => ∃ u, e = .returned u ∧ POwn w' w.heap.size u (placesT T) ∧ Below w.heap.size w w' := by
  have HV := Lib.hid hv
  obtain ⟨a, c, rfl, hc1, hc2, hc3⟩ := hv
  have HLN := Lib.hid (placesT_len hs)
  obtain ⟨i0, hi, hz0, hz1, hz2⟩ := place_info
  clear hc3
  go_enter Tryz.func91, Tryz.ntmps91
  go_wp2
  go_loopw [3, 10] (fun s i wr => ∃ k : Nat, k ≤ T.length ∧ i = .int .i64 k ∧ Hid (POwn wr w.heap.size s (placesT (T.take k))) ∧ Hid (Below w.heap.size w wr)) (fun _ i _ => T.length - (intOf i).toNat)
  case atStart => exact ⟨0, Nat.zero_le _, rfl, Lib.hid (World.ownsRow_nil _ _ _ _), Lib.hid (Below.refl _ _)⟩
  case round =>
    obtain ⟨k, hk, rfl, HO, HB⟩ := hrel
    by_cases hlt : k < T.length
    · obtain ⟨bb, oo, ua, n2, c2, rfl, q0, q1, hn2, hints⟩ := knots_at HV.out hlt
      replace q0 := (HB.out.cell (World.block_lt_of_cell? _ _ q0)).trans q0
      replace q1 := (HB.out.cell (World.block_lt_of_cell? _ _ q1)).trans q1
      have HNX := Lib.hid (placesT_next hlt)
      have hxl := hs T[k] (List.getElem_mem hlt)
      have hll := HLN.out k
      generalize T[k] = x at q0 q1 hn2 hints HNX hxl
      subst hn2
      have HI := Lib.hid hints
      clear hints
      generalize placesT (T.take k) = L0 at HO HNX hll
      go_upto_region 5 with (fail)
      have ha := (Below.refl wr.heap.size wr).alloc (Nat.le_refl _) (.cells #[.string x.1, .slice ua x.2.length c2] 98)
      have R0 : PlR w (wr.alloc (.cells #[.string x.1, .slice ua x.2.length c2] 98)) wr.heap.size x (.slice ua x.2.length c2) u3 L0 := ⟨heap_alloc_new _ _, row_below HO.out ha, below_end HB.out ha⟩
      generalize wr.alloc (.cells #[.string x.1, .slice ua x.2.length c2] 98) = w1 at R0 ⊢
      obtain ⟨G, hG⟩ : ∃ G, wr.heap.size = G := ⟨_, rfl⟩
      have hGw : w.heap.size ≤ G := by rw [← hG]; exact HB.out.size
      rw [hG] at R0 ⊢
      have x1 : w1.cell? ⟨G, 1, none⟩ = some (.slice ua x.2.length c2) := cell_of_heap R0.box 1
      have R0 := Lib.hid R0
      clear ha HO q0 q1 hG
      go_wp2
      go_loopw [3, 17] (fun s j wx => ∃ q : Nat, q ≤ x.2.length ∧ j = .int .i64 q ∧ Hid (PlR w wx G x (.slice ua x.2.length c2) s (L0 ++ (x.2.take q).map (fun i => (x.1, i))))) (fun _ j _ => x.2.length - (intOf j).toNat)
      case atStart => exact ⟨0, Nat.zero_le _, rfl, Lib.hid (by simpa using R0.out)⟩
      case round =>
        obtain ⟨q, hq, rfl, HR⟩ := hrel
        clear R0 x1
        by_cases hqt : q < x.2.length
        · obtain ⟨b3, o3, rfl, hin⟩ : ∃ b3 o3, ua = some ⟨b3, o3, none⟩ ∧ IntsIn w b3 o3 x.2 := by
            rcases HI.out with h | h
            · rw [h] at hqt; simp at hqt
            · exact h
          have z0 := (hin.below HR.out.since) q hqt
          have HM := Lib.hid (map_next hqt)
          have x0 : wr.cell? ⟨G, 0, none⟩ = some (.string x.1) := cell_of_heap HR.out.box 0
          have hl1 : (L0 ++ (x.2.take q).map (fun i => (x.1, i))).length ≤ 104857700 := by
            rw [List.length_append, List.length_map, List.length_take]
            have : k * 100 ≤ 1048576 * 100 := Nat.mul_le_mul_right _ (by omega)
            omega
          have HM2 : Hid (L0 ++ (x.2.take (q + 1)).map (fun i => (x.1, i)) = L0 ++ (x.2.take q).map (fun i => (x.1, i)) ++ [(x.1, x.2[q])]) := Lib.hid (by rw [HM.out, List.append_assoc])
          generalize x.2[q] = z at z0 HM2
          clear HM
          generalize L0 ++ (x.2.take q).map (fun i => (x.1, i)) = L1 at HR hl1 HM2
          have HL := Lib.hid hl1
          obtain ⟨sa, sc, rfl⟩ := own_slice HR.out.row
          go_wp2_with (at_builtin; go_must (refine wpList_append_src rfl (.tmp 21) (.tmp 26) 83 rfl w.heap.size 115 i0 (.agg #[.string ⟨#[]⟩, .int .i64 0]) 2 24 Tryz.underlying83 hi hz0 hz1 hz2 rfl (by decide) _ _ L1.length 1 (pcells L1) [.string x.1, .int .i64 z] rfl (row_below HR.out.row ((Below.refl _ _).alloc (Nat.le_refl _) _)) rfl (src_place wr x.1 z) rfl (place_one _ _) (by unfold maxLen; omega) (by omega) (by have := HR.out.since.size; simp; omega) ?_))
          intro v' w' hr1 hg1 _
          have ha := (Below.refl wr.heap.size wr).alloc (Nat.le_refl _) (.cells #[.string x.1, .int .i64 z] 115)
          have HP : Hid (PlR w w' G x (.slice (some ⟨b3, o3, none⟩) x.2.length c2) v' (L1 ++ [(x.1, z)])) := Lib.hid ⟨
            type_kept (row_below HR.out.row ha) hg1 ((ha.block _ (Array.getElem?_eq_some_iff.1 HR.out.box).1).trans HR.out.box) (by decide),
            POwn.push hr1 rfl,
            (below_end HR.out.since ha).grown hg1 (by have := HR.out.since.size; simp; omega) (fun j h => (HR.out.row.lt j h).1)⟩
          rw [← HM2.out] at HP
          clear hr1 hg1 ha HR x0 z0 HM2 hl1
          go_wp2
          go_roundw
          case rel => exact ⟨q + 1, by omega, by go_num, HP⟩
          case measure => simp [intOf]; omega
        · obtain rfl : q = x.2.length := by omega
          have HL2 : Hid (POwn wr w.heap.size u3 (placesT (T.take (k + 1)))) := Lib.hid (by
            have h := HR.out.row
            rw [List.take_length] at h
            rw [HNX.out]; exact h)
          go_wp2
          go_roundw
          case rel => exact ⟨k + 1, by omega, by go_num, HL2, Lib.hid HR.out.since⟩
          case measure => simp [intOf]; omega
    · obtain rfl : k = T.length := by omega
      have HO2 : Hid (POwn wr w.heap.size u3 (placesT T)) := Lib.hid (by have h := HO.out; rwa [List.take_length] at h)
      go_wp2
      go_ret
      exact ⟨_, rfl, HO2.out, HB.out⟩

end Go.Proofs.YtmfbffhbgelnnaaGreatDoor

/- slices.SortFunc of an own row of places: the contract of the kit, at own rows. -/
namespace Go.Proofs.YtmfbffhbgelnnaaGreatDoor
open Go.RowKit Go.Sort Go.Lib

theorem flat_pcells (l : List PlaceM) : flatK pval 2 l.toArray = (pcells l).toArray := by
  refine ext_get! (by rw [size_flatK, List.size_toArray, List.size_toArray, pcells_length]) fun t ht => ?_
  have ht2 : t < l.length * 2 := by simpa using ht
  rw [get_flatK _ _ _ _ (by simpa using ht2)]
  obtain ⟨j, r, hr, rfl⟩ : ∃ j r, r < 2 ∧ t = j * 2 + r := ⟨t / 2, t % 2, Nat.mod_lt _ (by omega), by omega⟩
  rw [show (j * 2 + r) / 2 = j by omega, show (j * 2 + r) % 2 = r by omega]
  have hj : j < l.length := by omega
  have e := pcells_at l j hj
  have hd : l.toArray[j]! = l[j] := by rw [getElem!_pos l.toArray j (by simpa using hj)]; simp
  have hlt : j * 2 + r < (pcells l).length := by rw [pcells_length]; exact ht2
  have hg : some ((pcells l).toArray[j * 2 + r]!) = (pcells l)[j * 2 + r]? := by
    rw [getElem!_pos (pcells l).toArray _ (by simpa using hlt)]
    simp [hlt]
  rw [hd]
  refine Option.some.inj (Eq.trans ?_ hg.symm)
  rcases (show r = 0 ∨ r = 1 by omega) with h | h
  · subst h; rw [Nat.add_zero, e.1]; rfl
  · subst h; rw [e.2]; rfl

theorem toList_flatP {l : List PlaceM} {cur : Array Value} (h : cur.toList.take (l.length * 2) = pcells l) (d : List PlaceM) (hd : d.length = l.length) :
    (putCells id 0 (flatK pval 2 d.toArray) cur).toList.take (d.length * 2) = pcells d := by
  rw [flat_pcells]
  have hlen : l.length * 2 ≤ cur.size := by
    have := congrArg List.length h
    rw [List.length_take, pcells_length] at this
    simp at this; omega
  refine List.ext_getElem? fun t => ?_
  rw [List.getElem?_take]
  split
  · rename_i ht
    have h1 : t < cur.size := by omega
    have h2 : t < (pcells d).length := by rw [pcells_length]; exact ht
    rw [Array.getElem?_toList, putCells, Array.getElem?_mapIdx, Array.getElem?_eq_getElem h1]
    simp only [Option.map_some, Nat.zero_le, true_and, Nat.zero_add, Nat.sub_zero, List.size_toArray, id]
    rw [if_pos h2, getElem!_pos _ t (by simpa using h2)]
    simp [h2]
  · rename_i ht
    rw [List.getElem?_eq_none (by rw [pcells_length]; omega)]

/-- The row behind the sort. -/
theorem own_sortedP {w : World} {B g c : Nat} {l d : List PlaceM} {n : Nat} {os : Array Obj} (h : POwn w B (.slice (some ⟨g, 0, none⟩) l.length c) l) (hd : d.length = l.length) :
    POwn (sortWorldK pval 2 w g 0 n d.toArray os) B (.slice (some ⟨g, 0, none⟩) l.length c) d ∧ w.grownBy (sortWorldK pval 2 w g 0 n d.toArray os) (some g) := by
  rcases h.2 with ⟨e, _⟩ | ⟨g2, cap, cur, e, hB, hh, h4, h5, h6, h7⟩
  · cases e
  · cases e
    have hlt := (Array.getElem?_eq_some_iff.1 hh).1
    have hg : (sortWorldK pval 2 w g 0 n d.toArray os).heap[g]? = some (.cells (putCells id 0 (flatK pval 2 d.toArray) cur) 115 (0, 0)) := by
      unfold sortWorldK
      rw [heap_grow_old _ _ (by rw [size_putRowK]; exact hlt)]
      show (w.heap.modify g (onCells _))[g]? = _
      rw [Array.getElem?_modify, if_pos rfl, hh]; rfl
    refine ⟨⟨by rw [pcells_length], .inr ⟨g, c, _, by rw [hd], hB, hg, by rw [hd]; exact h4, h5, ?_, ?_⟩⟩, ?_⟩
    · rw [← h6]; unfold putCells; simp
    · exact toList_flatP h7 d hd
    · refine ⟨rfl, rfl, rfl, ?_, fun i hi hne => ?_⟩
      · unfold sortWorldK; rw [size_grow, size_putRowK]; exact Nat.le_add_right _ _
      · unfold sortWorldK
        rw [heap_grow_old _ _ (by rw [size_putRowK]; exact hi)]
        show (w.heap.modify g (onCells _))[i]? = _
        rw [Array.getElem?_modify, if_neg (fun e => hne (by rw [e]))]

theorem holds_ownP {w : World} {B g c : Nat} {l : List PlaceM} (h : POwn w B (.slice (some ⟨g, 0, none⟩) l.length c) l) : HoldsK pval 2 w g 0 l.toArray := by
  unfold HoldsK
  rw [flat_pcells]
  intro j hj
  have hj2 : j < l.length * 2 := by rw [← pcells_length]; simpa using hj
  rw [Nat.zero_add]
  refine ⟨?_, h.frozenAt j⟩
  rw [h.cellAt j hj2, getElem!_pos _ j hj]
  simp [show j < (pcells l).length by rw [pcells_length]; exact hj2]

theorem perm_listP {l : List PlaceM} {d : Array PlaceM} (h : PermIn 0 l.toArray.size l.toArray d) : d.toList.Perm l := by
  obtain ⟨h1, _, h3⟩ := h
  have e1 : (d.extract 0 l.toArray.size).toList = d.toList := by rw [← h1]; simp
  have e2 : (l.toArray.extract 0 l.toArray.size).toList = l := by simp
  rw [e1, e2] at h3; exact h3

theorem sorted_listP {lt : PlaceM → PlaceM → Bool} {d : Array PlaceM} {n : Nat} (hn : d.size = n) (h : SortedIn lt 0 n d) : d.toList.Pairwise fun x y => lt y x = false := by
  rw [List.pairwise_iff_getElem]
  intro i j hi hj hij
  have := h i j (Nat.zero_le _) hij (by rw [← hn]; simpa using hj)
  rw [getElem!_pos d i (by simpa using hi), getElem!_pos d j (by simpa using hj)] at this
  simpa using this

/-- slices.SortFunc of an own row. -/
theorem sortFuncP_any (cf : PlaceM → PlaceM → Int) (hO : SWO (ltOf cf)) (g : Nat) (eg : ∀ args w, (callFunc g args).run Tryz.prog w = .ok (.enter g args) w)
    (hcmp : ∀ a b W, Calls Tryz.prog g #[pagg a, pagg b] W fun e w' => e = .returned (.int .i64 (cf a b)) ∧ ∃ q os, w' = grow (W.drewN q) os)
    (B : Nat) (v : Value) (l : List PlaceM) (w : World) (hl : l.length ≤ 1048576) (ho : POwn w B v l) :
    Calls Tryz.prog 103 #[v, .func (.func g) #[] #[]] w fun e w' => e = .returned (.tuple #[]) ∧
      ∃ d, POwn w' B v d ∧ d.Perm l ∧ (d.Pairwise fun x y => ltOf cf y x = false) ∧ w.grownBy w' v.ownBlock := by
  rcases ho.2 with ⟨hv, h0⟩ | ⟨g2, cap, cur, hv, _, hh, _⟩
  · have hn : l = [] := List.length_eq_zero_iff.1 h0
    subst hn
    subst hv
    refine (AnyF.slices_SortFunc_none Tryz.sortP none 0 _ w).mono ?_
    rintro e w' ⟨rfl, rfl⟩
    exact ⟨rfl, [], ho, List.Perm.refl _, List.Pairwise.nil, ⟨rfl, rfl, rfl, Nat.le_refl _, fun _ _ _ => rfl⟩⟩
  · subst hv
    have hlt := (Array.getElem?_eq_some_iff.1 hh).1
    have H := AnyQ.slices_SortFunc Tryz.sortP 2 Tryz.isAgg115 Tryz.sizeOf115 pval (fun _ => rfl) (fun x u hu => by simp [pval] at hu; rcases hu with rfl | rfl <;> rfl) cf hO g #[] g2 0 cap l.toArray w eg
      (fun _ _ _ _ x y => hcmp x y _) (holds_ownP ho) hlt (by simp; omega)
    rw [show l.toArray.size = l.length by simp] at H
    refine H.mono ?_
    rintro e w' ⟨rfl, d', n, os, hp, hs, rfl⟩
    have hsz : d'.size = l.length := by have := hp.1; simpa using this
    have hd : d'.toList.length = l.length := by simpa using hsz
    have hr := own_sortedP (d := d'.toList) (n := n) (os := os) ho hd
    simp only [Array.toArray_toList] at hr
    exact ⟨rfl, d'.toList, by rw [← show l.length = l.length from rfl]; exact hr.1, perm_listP (by simpa using hp), sorted_listP hsz hs, hr.2⟩

end Go.Proofs.YtmfbffhbgelnnaaGreatDoor

/- The walk of the program's places of who is live. -/
namespace Go.Proofs.YtmfbffhbgelnnaaGreatDoor
open Go.RowKit Go.Sort

/-- What is handed back: the live ones' places, sorted. -/
def LivP (w : World) (l : List SubM) (e : Ending) (w' : World) : Prop :=
  ∃ u S, e = .returned u ∧ POwn w' w.heap.size u S ∧ S.Perm (livesTo l l.length) ∧ (S.Pairwise fun x y => ltOf placeC y x = false) ∧ Below w.heap.size w w'

set_option maxRecDepth 100000 in
set_option maxHeartbeats 3200000 in
theorem lives_any (v : Value) (l : List SubM) (w : World) (hl : l.length ≤ 1048576) (hv : SubsAt w v l) :
    Calls Tryz.prog 62 #[v] w (LivP w l) := by
  have HV := Lib.hid hv
  obtain ⟨a, c, rfl, hc1, hc2, hc3⟩ := hv
  have HLN := Lib.hid (livesTo_len (l := l))
  have CS := Lib.hid (fun B v l w hl ho => sortFuncP_any placeC placeC_swo 104 (enters_of Tryz.func104 (by kernel_rfl) rfl) (fun a b W => byPlace_any a b W) B v l w hl ho)
  obtain ⟨i0, hi, hz0, hz1, hz2⟩ := place_info
  clear hc3
  go_enter Tryz.func62, Tryz.ntmps62
  go_wp2
  go_loopw [3, 8] (fun s i wr => ∃ k : Nat, k ≤ l.length ∧ i = .int .i64 k ∧ Hid (POwn wr w.heap.size s (livesTo l k)) ∧ Hid (Below w.heap.size w wr)) (fun _ i _ => l.length - (intOf i).toNat)
  case atStart => exact ⟨0, Nat.zero_le _, rfl, Lib.hid (World.ownsRow_nil _ _ _ _), Lib.hid (Below.refl _ _)⟩
  case round =>
    obtain ⟨k, hk, rfl, HO, HB⟩ := hrel
    by_cases hlt : k < l.length
    · obtain ⟨bb, oo, rfl, hin⟩ : ∃ bb oo, a = some ⟨bb, oo, none⟩ ∧ ∀ (j : Nat) (hj : j < l.length), SubIn wr bb (oo + j * 10) l[j] := by
        obtain ⟨a', c', he, _, _, h3⟩ := HV.out.below HB.out
        cases he
        rcases h3 with h | h
        · rw [h] at hlt; simp at hlt
        · exact h
      obtain ⟨us, hq, hra⟩ := hin k hlt
      have HL1 := Lib.hid (fun h => livesTo_live hlt h)
      have HL2 := Lib.hid (fun h => livesTo_dead hlt h)
      have hll := HLN.out k
      generalize l[k] = S at hq hra HL1 HL2
      obtain ⟨qa, qc, rfl, _, _, _⟩ := hq
      have p0 : wr.cell? ⟨bb, oo + k * 10, none⟩ = some (.string S.fil) := hra 0 _ rfl
      have p1 : wr.cell? ⟨bb, oo + k * 10 + 1, none⟩ = some (.int .i64 S.box.cap) := hra 1 _ rfl
      have p2 : wr.cell? ⟨bb, oo + k * 10 + 2, none⟩ = some (.int .i64 S.box.pol) := hra 2 _ rfl
      have p3 : wr.cell? ⟨bb, oo + k * 10 + 3, none⟩ = some (.slice qa S.box.q.length qc) := hra 3 _ rfl
      have p4 : wr.cell? ⟨bb, oo + k * 10 + 4, none⟩ = some (.int .i64 S.box.ofr) := hra 4 _ rfl
      have p5 : wr.cell? ⟨bb, oo + k * 10 + 5, none⟩ = some (.int .i64 S.box.rcv) := hra 5 _ rfl
      have p6 : wr.cell? ⟨bb, oo + k * 10 + 6, none⟩ = some (.int .i64 S.box.drp) := hra 6 _ rfl
      have p7 : wr.cell? ⟨bb, oo + k * 10 + 7, none⟩ = some (.int .i64 S.box.mrg) := hra 7 _ rfl
      have p8 : wr.cell? ⟨bb, oo + k * 10 + 8, none⟩ = some (.bool S.box.shut) := hra 8 _ rfl
      have p9 : wr.cell? ⟨bb, oo + k * 10 + 9, none⟩ = some (.bool S.live) := hra 9 _ rfl
      clear hin hra
      generalize livesTo l k = L0 at HO HL1 HL2 hll
      go_upto_region 5 with (fail)
      have ha := (Below.refl wr.heap.size wr).alloc (Nat.le_refl _) (.cells #[.string S.fil, .int .i64 S.box.cap, .int .i64 S.box.pol, .slice qa S.box.q.length qc, .int .i64 S.box.ofr, .int .i64 S.box.rcv, .int .i64 S.box.drp, .int .i64 S.box.mrg, .bool S.box.shut, .bool S.live] 64)
      have r0 := BSu.new wr S (.slice qa S.box.q.length qc)
      have o0 : POwn (wr.alloc (.cells #[.string S.fil, .int .i64 S.box.cap, .int .i64 S.box.pol, .slice qa S.box.q.length qc, .int .i64 S.box.ofr, .int .i64 S.box.rcv, .int .i64 S.box.drp, .int .i64 S.box.mrg, .bool S.box.shut, .bool S.live] 64)) w.heap.size u3 L0 := row_below HO.out ha
      have b0 := below_end HB.out ha
      generalize wr.alloc (.cells #[.string S.fil, .int .i64 S.box.cap, .int .i64 S.box.pol, .slice qa S.box.q.length qc, .int .i64 S.box.ofr, .int .i64 S.box.rcv, .int .i64 S.box.drp, .int .i64 S.box.mrg, .bool S.box.shut, .bool S.live] 64) = w1 at r0 o0 b0 ⊢
      obtain ⟨y0, _, _, _, _, _, _, _, _, y9⟩ := r0.cells
      have O0 := Lib.hid o0
      have B0 := Lib.hid b0
      clear ha r0 o0 b0 HO p0 p1 p2 p3 p4 p5 p6 p7 p8 p9
      obtain ⟨G, hG⟩ : ∃ G, wr.heap.size = G := ⟨_, rfl⟩
      rw [hG] at y0 y9 ⊢
      clear hG
      generalize S.live = lv at y9 HL1 HL2
      cases lv
      · have HE := Lib.hid (HL2.out rfl)
        go_wp2
        go_roundw
        case rel => exact ⟨k + 1, by omega, by go_num, Lib.hid (by rw [HE.out]; exact O0.out), B0⟩
        case measure => simp [intOf]; omega
      · have HE := Lib.hid (HL1.out rfl)
        obtain ⟨sa, sc, rfl⟩ := own_slice O0.out
        go_wp2_with (at_builtin; go_must (refine wpList_append_src rfl (.tmp 15) (.tmp 20) 83 rfl w.heap.size 115 i0 (.agg #[.string ⟨#[]⟩, .int .i64 0]) 2 24 Tryz.underlying83 hi hz0 hz1 hz2 rfl (by decide) _ _ L0.length 1 (pcells L0) [.string S.fil, .int .i64 k] rfl (row_below O0.out ((Below.refl _ _).alloc (Nat.le_refl _) _)) rfl (src_place w1 S.fil k) rfl (place_one _ _) (by unfold maxLen; omega) (by omega) (by have := B0.out.size; simp; omega) ?_))
        intro v' w' hr1 hg1 _
        have ha := (Below.refl w1.heap.size w1).alloc (Nat.le_refl _) (.cells #[.string S.fil, .int .i64 k] 115)
        have HP : Hid (POwn w' w.heap.size v' (livesTo l (k + 1))) := Lib.hid (by rw [HE.out]; exact POwn.push hr1 rfl)
        have HB2 : Hid (Below w.heap.size w w') := Lib.hid ((below_end B0.out ha).grown hg1 (by have := B0.out.size; simp; omega) (fun j h => (O0.out.lt j h).1))
        clear hr1 hg1 ha O0 B0 y0 y9 HE
        go_wp2
        go_roundw
        case rel => exact ⟨k + 1, by omega, by go_num, HP, HB2⟩
        case measure => simp [intOf]; omega
    · obtain rfl : k = l.length := by omega
      have hll := HLN.out l.length
      obtain ⟨sa, sc, rfl⟩ := own_slice HO.out
      go_wp2_with fail
      refine (CS.out _ _ _ _ (by omega) HO.out).mono ?_
      rintro e w2 ⟨rfl, d, ho, hp, hpw, hg⟩
      have HE := Lib.hid (⟨ho, hp, hpw, HB.out.grown hg HB.out.size (fun j h => (HO.out.lt j h).1)⟩ : POwn w2 w.heap.size _ d ∧ d.Perm (livesTo l l.length) ∧ (d.Pairwise fun x y => ltOf placeC y x = false) ∧ Below w.heap.size w w2)
      clear ho hp hpw hg CS
      go_wp2
      go_ret
      exact ⟨_, d, rfl, HE.out⟩

end Go.Proofs.YtmfbffhbgelnnaaGreatDoor
