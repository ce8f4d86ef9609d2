/- Small texts, laid together. -/
import Derived.Test.YtmfbffhbgelnnaaGreatDoorZB2
import Derived.Test.YtmfbffhbgelnnaaGreatDoorZSTrie2
import Derived.Test.YtmfbffhbgelnnaaGreatDoorZB3
import Derived.Test.YtmfbffhbgelnnaaGreatDoorZB4
set_option linter.unusedSimpArgs false
set_option linter.unusedVariables false
/- How big a broker may be. -/
namespace Go.Proofs.YtmfbffhbgelnnaaGreatDoor
open Go.RowKit

/-- What the walk wants of a broker's sizes. -/
structure BrSmall (b : BrokerM) : Prop where
  subs : b.subs.length ≤ 1048576
  fils : ∀ s ∈ b.subs, s.fil.size ≤ 1048576
  qs : ∀ s ∈ b.subs, s.box.q.length ≤ 1048576 ∧ ∀ x ∈ s.box.q, x.2.2.1.size ≤ 1048576
  trie : KSmall b.trie
  keep : b.keep.length ≤ 1048576
  keeps : ∀ x ∈ b.keep, x.2.2.1.size ≤ 1048576
  ring : b.ring.length ≤ 1048576
  rings : ∀ x ∈ b.ring, x.2.2.1.size ≤ 1048576

end Go.Proofs.YtmfbffhbgelnnaaGreatDoor

/- The walks of the program's looks at one sub, and at whether a message is later than a number. -/
namespace Go.Proofs.YtmfbffhbgelnnaaGreatDoor
open Go.RowKit

set_option maxRecDepth 100000 in
theorem laterC_any (x : MsgM) (n : Int) (F : Nat) (w : World) (hF : w.cell? ⟨F, 0, none⟩ = some (.int .i64 n)) :
    Calls Tryz.prog 120 #[magg x, .pointer (some ⟨F, 0, none⟩)] w fun e w' => e = .returned (.bool (decide (n < x.1))) ∧ Below w.heap.size w w' := by
  obtain ⟨q, f, p, d⟩ := x
  have ha : Below w.heap.size w (w.alloc (.cells #[.int .i64 q, .int .i64 f, .string p, .int .i64 d] 97)) := (Below.refl _ _).alloc (Nat.le_refl _) _
  have hF2 := (ha.cell (World.block_lt_of_cell? _ _ hF)).trans hF
  have d2 : (w.alloc (.cells #[.int .i64 q, .int .i64 f, .string p, .int .i64 d] 97)).cell? ⟨w.heap.size, 0, none⟩ = some (.int .i64 q) := by rw [World.cell?_alloc_at _ _ _ _ rfl]; rfl
  have HA := Lib.hid ha
  clear hF ha
  show Calls _ _ #[.agg #[.int .i64 q, .int .i64 f, .string p, .int .i64 d], _] _ _
  go_enter Tryz.func120, Tryz.ntmps120
  go_upto_region 1 with (fail)
  generalize w.alloc (.cells #[.int .i64 q, .int .i64 f, .string p, .int .i64 d] 97) = w1 at hF2 d2 HA ⊢
  go_wp2
  go_ret
  exact ⟨rfl, HA.out⟩

theorem upto_any (l : List MsgM) (n : Int) : (l.any fun x => decide (n < x.1)) = !uptoB l n := by
  unfold uptoB
  rw [List.not_all_eq_any_not]
  congr 1
  funext x
  by_cases h : n < x.1
  · rw [decide_eq_true h, decide_eq_false (by omega)]; rfl
  · rw [decide_eq_false h, decide_eq_true (by omega)]; rfl

set_option maxRecDepth 100000 in
set_option maxHeartbeats 800000 in
theorem later_any (v : Value) (l : List MsgM) (n : Int) (w : World) (hl : l.length ≤ 2000000) (hv : MsgsAt w v l) :
    Calls Tryz.prog 86 #[v, .int .i64 n] w fun e w' => e = .returned (.bool (!uptoB l n)) ∧ Below w.heap.size w w' := by
  have b1 : Below w.heap.size w (w.alloc (.cells #[.int .i64 n] 2)) := (Below.refl _ _).alloc (Nat.le_refl _) _
  have h1 : (w.alloc (.cells #[.int .i64 n] 2)).cell? ⟨w.heap.size, 0, none⟩ = some (.int .i64 n) := by rw [World.cell?_alloc_at _ _ _ _ rfl]; rfl
  have HV := Lib.hid hv
  have HU := Lib.hid (upto_any l n)
  obtain ⟨ua, uc, rfl, _, _, _⟩ := hv
  go_enter Tryz.func86, Tryz.ntmps86
  go_upto_region 1 with (fail)
  generalize (w.alloc (.cells #[.int .i64 n] 2)) = w1 at b1 h1 ⊢
  have CI := Lib.hid (containsG_any (.slice ua l.length uc) l (fun x => decide (n < x.1)) 120 #[.pointer (some ⟨w.heap.size, 0, none⟩)] (enters_of Tryz.func120 (by kernel_rfl) rfl) w1 hl (HV.out.below b1) (fun W x _ hb => laterC_any x n w.heap.size W ((hb.cell (World.block_lt_of_cell? _ _ h1)).trans h1)))
  have B1 := Lib.hid b1
  clear b1 h1
  go_wp2_with fail
  refine CI.out.mono ?_
  rintro e w2 ⟨rfl, hb⟩
  have HB := Lib.hid (below_end B1.out hb)
  rw [HU.out]
  clear hb CI B1
  go_wp2
  go_ret
  exact ⟨rfl, HB.out⟩

/-! ### looks at a sub -/

/-- A sub's block in a call. -/
def BSu (w : World) (G : Nat) (S : SubM) (u : Value) : Prop := w.heap[G]? = some (.cells #[.string S.fil, .int .i64 S.box.cap, .int .i64 S.box.pol, u, .int .i64 S.box.ofr, .int .i64 S.box.rcv, .int .i64 S.box.drp, .int .i64 S.box.mrg, .bool S.box.shut, .bool S.live] 64 (0, 0))
theorem BSu.new (w : World) (S : SubM) (u : Value) : BSu (w.alloc (.cells #[.string S.fil, .int .i64 S.box.cap, .int .i64 S.box.pol, u, .int .i64 S.box.ofr, .int .i64 S.box.rcv, .int .i64 S.box.drp, .int .i64 S.box.mrg, .bool S.box.shut, .bool S.live] 64)) w.heap.size S u := heap_alloc_new _ _
theorem BSu.below {w w' : World} {G : Nat} {S : SubM} {u : Value} (h : BSu w G S u) (hb : Below w.heap.size w w') : BSu w' G S u := (hb.block G (Array.getElem?_eq_some_iff.1 h).1).trans h
theorem BSu.cells {w : World} {G : Nat} {S : SubM} {u : Value} (h : BSu w G S u) :
    w.cell? ⟨G, 0, none⟩ = some (.string S.fil) ∧ w.cell? ⟨G, 1, none⟩ = some (.int .i64 S.box.cap) ∧ w.cell? ⟨G, 2, none⟩ = some (.int .i64 S.box.pol) ∧ w.cell? ⟨G, 3, none⟩ = some u ∧ w.cell? ⟨G, 4, none⟩ = some (.int .i64 S.box.ofr) ∧
    w.cell? ⟨G, 5, none⟩ = some (.int .i64 S.box.rcv) ∧ w.cell? ⟨G, 6, none⟩ = some (.int .i64 S.box.drp) ∧ w.cell? ⟨G, 7, none⟩ = some (.int .i64 S.box.mrg) ∧ w.cell? ⟨G, 8, none⟩ = some (.bool S.box.shut) ∧ w.cell? ⟨G, 9, none⟩ = some (.bool S.live) :=
  ⟨cell_of_heap h 0, cell_of_heap h 1, cell_of_heap h 2, cell_of_heap h 3, cell_of_heap h 4, cell_of_heap h 5, cell_of_heap h 6, cell_of_heap h 7, cell_of_heap h 8, cell_of_heap h 9⟩

/-- What the program asks of one sub. -/
def subP (S : SubM) : Bool := filterP (parts S.fil 47) && (boxB S.box && (S.live || S.box.shut))
theorem subP_eq (S : SubM) : subP S = (filterP (parts S.fil 47) && (boxB S.box && (S.live || S.box.shut))) := rfl

set_option maxRecDepth 100000 in
set_option maxHeartbeats 3200000 in
theorem subOk_any (S : SubM) (u : Value) (m : Int) (w : World) (hf : S.fil.size ≤ 1048576) (hq : S.box.q.length ≤ 1048576 ∧ ∀ x ∈ S.box.q, x.2.2.1.size ≤ 1048576) (hv : MsgsAt w u S.box.q) (hm : w.cell? ⟨0, 0, none⟩ = some (.int .i64 m)) :
    Calls Tryz.prog 83 #[sagg S u] w fun e w' => e = .returned (.bool (subP S)) ∧ Below w.heap.size w w' := by
  have C1 := Lib.hid (fun wx hm => implFilter_any S.fil m wx hf hm)
  have C2 := Lib.hid (fun wx h hm => implBoxOk_any S.box u m wx hq.1 hq.2 h hm)
  have HU := Lib.hid (subP_eq S)
  have HM := Lib.hid hm
  have HV := Lib.hid hv
  obtain ⟨ua, uc, rfl, _, _, _⟩ := hv
  clear hf hq hm
  generalize subP S = R at HU ⊢
  generalize filterP (parts S.fil 47) = f at C1 HU
  generalize boxB S.box = bx at C2 HU
  go_enter Tryz.func83, Tryz.ntmps83
  go_upto_region 1 with (fail)
  have b0 : Below w.heap.size w _ := (Below.refl _ _).alloc (Nat.le_refl _) (.cells #[.string S.fil, .int .i64 S.box.cap, .int .i64 S.box.pol, .slice ua S.box.q.length uc, .int .i64 S.box.ofr, .int .i64 S.box.rcv, .int .i64 S.box.drp, .int .i64 S.box.mrg, .bool S.box.shut, .bool S.live] 64)
  have r0 := BSu.new w S (.slice ua S.box.q.length uc)
  generalize w.alloc (.cells #[.string S.fil, .int .i64 S.box.cap, .int .i64 S.box.pol, .slice ua S.box.q.length uc, .int .i64 S.box.ofr, .int .i64 S.box.rcv, .int .i64 S.box.drp, .int .i64 S.box.mrg, .bool S.box.shut, .bool S.live] 64) = w0 at b0 r0 ⊢
  obtain ⟨x0, _⟩ := r0.cells
  go_wp2_with fail
  refine (C1.out _ ((b0.cell (World.block_lt_of_cell? _ _ HM.out)).trans HM.out)).mono ?_
  rintro e w1 ⟨rfl, hb⟩
  have b1 := below_end b0 hb
  have r1 := r0.below hb
  clear hb b0 r0 x0 C1
  cases f
  · have HE := Lib.hid (show R = false by rw [HU.out]; rfl)
    have B1 := Lib.hid b1
    clear b1 r1
    go_wp2
    go_ret
    exact ⟨ret_bool HE.out.symm, B1.out⟩
  obtain ⟨y0, y1, y2, y3, y4, y5, y6, y7, y8, y9⟩ := r1.cells
  go_wp2_with fail
  refine (C2.out _ (HV.out.below b1) ((b1.cell (World.block_lt_of_cell? _ _ HM.out)).trans HM.out)).mono ?_
  rintro e w2 ⟨rfl, hb⟩
  have b2 := below_end b1 hb
  have r2 := r1.below hb
  clear hb b1 r1 C2 y0 y1 y2 y3 y4 y5 y6 y7 y8 y9
  cases bx
  · have HE := Lib.hid (show R = false by rw [HU.out]; rfl)
    have B1 := Lib.hid b2
    clear b2 r2
    go_wp2
    go_ret
    exact ⟨ret_bool HE.out.symm, B1.out⟩
  obtain ⟨_, _, _, _, _, _, _, _, y8, y9⟩ := r2.cells
  have B2 := Lib.hid b2
  clear b2 r2
  generalize S.box.shut = sh at y8 HU ⊢
  generalize S.live = lv at y9 HU ⊢
  cases lv
  · have HE := Lib.hid (show R = sh by rw [HU.out]; rfl)
    cases sh
    · go_wp2
      go_ret
      exact ⟨ret_bool HE.out.symm, B2.out⟩
    · go_wp2
      go_ret
      exact ⟨ret_bool HE.out.symm, B2.out⟩
  · have HE := Lib.hid (show R = true by rw [HU.out]; rfl)
    go_wp2
    go_ret
    exact ⟨ret_bool HE.out.symm, B2.out⟩

set_option maxRecDepth 100000 in
set_option maxHeartbeats 1600000 in
theorem subC_any (S : SubM) (u : Value) (m : Int) (w : World) (hf : S.fil.size ≤ 1048576) (hq : S.box.q.length ≤ 1048576 ∧ ∀ x ∈ S.box.q, x.2.2.1.size ≤ 1048576) (hv : MsgsAt w u S.box.q) (hm : w.cell? ⟨0, 0, none⟩ = some (.int .i64 m)) :
    Calls Tryz.prog 82 #[sagg S u] w fun e w' => e = .returned (.bool (!subP S)) ∧ Below w.heap.size w w' := by
  have C1 := Lib.hid (fun wx h hm => subOk_any S u m wx hf hq h hm)
  have HM := Lib.hid hm
  have HV := Lib.hid hv
  clear hf hq hm hv
  generalize subP S = R at C1 ⊢
  go_enter Tryz.func82, Tryz.ntmps82
  go_upto_region 1 with (fail)
  have b0 : Below w.heap.size w _ := (Below.refl _ _).alloc (Nat.le_refl _) (.cells #[.string S.fil, .int .i64 S.box.cap, .int .i64 S.box.pol, u, .int .i64 S.box.ofr, .int .i64 S.box.rcv, .int .i64 S.box.drp, .int .i64 S.box.mrg, .bool S.box.shut, .bool S.live] 64)
  have r0 := BSu.new w S u
  generalize w.alloc (.cells #[.string S.fil, .int .i64 S.box.cap, .int .i64 S.box.pol, u, .int .i64 S.box.ofr, .int .i64 S.box.rcv, .int .i64 S.box.drp, .int .i64 S.box.mrg, .bool S.box.shut, .bool S.live] 64) = w0 at b0 r0 ⊢
  have r0 : w0.heap[w.heap.size]? = some (.cells #[.string S.fil, .int .i64 S.box.cap, .int .i64 S.box.pol, u, .int .i64 S.box.ofr, .int .i64 S.box.rcv, .int .i64 S.box.drp, .int .i64 S.box.mrg, .bool S.box.shut, .bool S.live] 64 (0, 0)) := r0
  go_wp2_with (first
    | refine wpList_load_row rfl 64 (.tmp 1) rfl w.heap.size rfl 64 _ (0, 0) _ r0 Tryz.underlying64 rfl (by kernel_rfl) ?_)
  refine (C1.out _ (HV.out.below b0) ((b0.cell (World.block_lt_of_cell? _ _ HM.out)).trans HM.out)).mono ?_
  rintro e w1 ⟨rfl, hb⟩
  have B1 := Lib.hid (below_end b0 hb)
  clear hb b0 r0 C1
  go_wp2
  go_ret
  exact ⟨rfl, B1.out⟩

set_option maxRecDepth 100000 in
set_option maxHeartbeats 1600000 in
theorem openC_any (S : SubM) (u : Value) (w : World) :
    Calls Tryz.prog 88 #[sagg S u] w fun e w' => e = .returned (.bool (!S.box.shut)) ∧ Below w.heap.size w w' := by
  go_enter Tryz.func88, Tryz.ntmps88
  go_upto_region 1 with (fail)
  have b0 : Below w.heap.size w _ := (Below.refl _ _).alloc (Nat.le_refl _) (.cells #[.string S.fil, .int .i64 S.box.cap, .int .i64 S.box.pol, u, .int .i64 S.box.ofr, .int .i64 S.box.rcv, .int .i64 S.box.drp, .int .i64 S.box.mrg, .bool S.box.shut, .bool S.live] 64)
  have r0 := BSu.new w S u
  generalize w.alloc (.cells #[.string S.fil, .int .i64 S.box.cap, .int .i64 S.box.pol, u, .int .i64 S.box.ofr, .int .i64 S.box.rcv, .int .i64 S.box.drp, .int .i64 S.box.mrg, .bool S.box.shut, .bool S.live] 64) = w0 at b0 r0 ⊢
  obtain ⟨_, _, _, _, _, _, _, _, y8, _⟩ := r0.cells
  have B0 := Lib.hid b0
  clear b0 r0
  go_wp2
  go_ret
  exact ⟨rfl, B0.out⟩

set_option maxRecDepth 100000 in
set_option maxHeartbeats 1600000 in
theorem seqC_any (S : SubM) (u : Value) (n : Int) (F : Nat) (w : World) (hq : S.box.q.length ≤ 2000000) (hv : MsgsAt w u S.box.q) (hF : w.cell? ⟨F, 6, none⟩ = some (.int .i64 n)) :
    Calls Tryz.prog 87 #[sagg S u, .pointer (some ⟨F, 0, none⟩)] w fun e w' => e = .returned (.bool (!uptoB S.box.q n)) ∧ Below w.heap.size w w' := by
  have C1 := Lib.hid (fun wx h => later_any u S.box.q n wx hq h)
  have HV := Lib.hid hv
  clear hq
  generalize uptoB S.box.q n = R at C1 ⊢
  go_enter Tryz.func87, Tryz.ntmps87
  go_upto_region 1 with (fail)
  have b0 : Below w.heap.size w _ := (Below.refl _ _).alloc (Nat.le_refl _) (.cells #[.string S.fil, .int .i64 S.box.cap, .int .i64 S.box.pol, u, .int .i64 S.box.ofr, .int .i64 S.box.rcv, .int .i64 S.box.drp, .int .i64 S.box.mrg, .bool S.box.shut, .bool S.live] 64)
  have r0 := BSu.new w S u
  have f0 := (b0.cell (World.block_lt_of_cell? _ _ hF)).trans hF
  have v0 := HV.out.below b0
  generalize w.alloc (.cells #[.string S.fil, .int .i64 S.box.cap, .int .i64 S.box.pol, u, .int .i64 S.box.ofr, .int .i64 S.box.rcv, .int .i64 S.box.drp, .int .i64 S.box.mrg, .bool S.box.shut, .bool S.live] 64) = w0 at b0 r0 f0 v0 ⊢
  obtain ⟨_, _, _, y3, _⟩ := r0.cells
  have B0 := Lib.hid b0
  have V0 := Lib.hid v0
  clear b0 r0 hF hv v0
  go_wp2_with fail
  refine (C1.out _ V0.out).mono ?_
  rintro e w1 ⟨rfl, hb⟩
  have B1 := Lib.hid (below_end B0.out hb)
  clear hb B0 V0 C1
  go_wp2
  go_ret
  exact ⟨rfl, B1.out⟩

end Go.Proofs.YtmfbffhbgelnnaaGreatDoor
