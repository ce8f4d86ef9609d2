/- The walk of the reference's Recorded. -/
import Derived.Test.YtiholijkijdlmaaDoorZB7
import Derived.Laws.ResultCell
set_option linter.unusedSimpArgs false
set_option linter.unusedVariables false
namespace Go.Proofs.YtiholijkijdlmaaDoor
open Go.RowKit

/-- Is x more than the last one's number? -/
def behindM (l : List MsgM) (x : Int) : Bool := decide (l.length = 0) || decide ((l.getD (l.length - 1) (0, 0, ⟨#[]⟩, 0)).1 < x)

/-- 'Recorded'. -/
def recM (cap : Int) (l : List MsgM) (m : MsgM) : Int × List MsgM × Bool :=
  if ringB cap l then (if msgB m && behindM l m.1 then (cap, if cap < (l.length : Int) + 1 then (l ++ [m]).drop 1 else l ++ [m], true) else (cap, l, false)) else (0, [], false)

theorem recM_len (cap : Int) (l : List MsgM) (m : MsgM) : (recM cap l m).2.1.length ≤ l.length + 1 := by
  unfold recM
  split
  · split
    · dsimp only; split <;> simp <;> omega
    · exact Nat.le_succ _
  · simp

theorem results_row_tmp {P : Program} {fn : Func} {p u : Tmp} {ty : TypeId} (h : fn.results = #[.cell p ty, .tmp u]) (tmps : Array Value) (w : World) (g : Nat) (t : TypeId) (cs : Array Value) (fr : Nat × Nat) (d : TypeDesc)
    (hp : tmps.getD p undef = .pointer (some ⟨g, 0, none⟩)) (hg : w.heap[g]? = some (.cells cs t fr))
    (hu : P.underlying ty = some d) (hd : (match d with | .struct _ | .array _ _ => true | _ => false) = true) (hi : (P.info? ty).map (·.size) = some cs.size) :
    (results fn tmps).run P w = .ok (.tuple #[.agg cs, tmps.getD u undef]) w := by
  rw [results_cell_tmp h, hp]
  simp [asAddr, run_loadVar_row w g t ty cs fr d hg hu hd hi, Result.andThen]

/-- The three boxes of the call: the ring, the message, the answer. -/
structure Rec3 (w : World) (B : Nat) (cap : Int) (s : Value) (x : MsgM) : Prop where
  ring : w.heap[B]? = some (.cells #[.int .i64 cap, s] 26 (0, 0))
  msg : w.heap[B + 1]? = some (.cells #[.int .i64 x.1, .int .i64 x.2.1, .string x.2.2.1, .int .i64 x.2.2.2] 28 (0, 0))
  res : w.heap[B + 1 + 1]? = some (.cells #[.int .i64 0, .slice none 0 0] 26 (0, 0))

theorem Rec3.below {w w' : World} {B : Nat} {cap : Int} {s : Value} {x : MsgM} (h : Rec3 w B cap s x) (hb : Below w.heap.size w w') : Rec3 w' B cap s x :=
  ⟨(hb.block _ (Array.getElem?_eq_some_iff.1 h.ring).1).trans h.ring, (hb.block _ (Array.getElem?_eq_some_iff.1 h.msg).1).trans h.msg, (hb.block _ (Array.getElem?_eq_some_iff.1 h.res).1).trans h.res⟩

/-- The answer laid: the boxed result is an own row. -/
theorem rec_end {w wx : World} {B : Nat} {cap : Int} {u : Value} (hb : Below B w wx) (hBw : w.heap.size = B) (hr : ∃ z0 z1, wx.heap[B + 1 + 1]? = some (.cells #[z0, z1] 26 (0, 0))) :
    ((wx.setCell ⟨B + 1 + 1, 0, none⟩ (.int .i64 cap)).setCell ⟨B + 1 + 1, 1, none⟩ u).heap[B + 1 + 1]? = some (.cells #[.int .i64 cap, u] 26 (0, 0)) ∧
      Below B w ((wx.setCell ⟨B + 1 + 1, 0, none⟩ (.int .i64 cap)).setCell ⟨B + 1 + 1, 1, none⟩ u) := by
  obtain ⟨z0, z1, hr⟩ := hr
  refine ⟨heap_setCell_same _ _ 1 _ _ u (heap_setCell_same _ _ 0 _ _ (.int .i64 cap) hr), ?_⟩
  exact (hb.grown (grown_setCell _ _ _ _) (by have := hb.size; omega) (fun k h => by cases h; omega)).grown (grown_setCell _ _ _ _) (by have := hb.size; simp; omega) (fun k h => by cases h; omega)

/-- What a refusal wants: the cells that it reads and writes, and what it leaves. -/
theorem rec_reject {w w3 wx : World} {G : Nat} {cap : Int} {ua xa : Option Addr} {n uc xc : Nat} {x : MsgM} {l : List MsgM} (h : Rec3 w3 w.heap.size cap (.slice ua n uc) x) (hb : Below w3.heap.size w3 wx) (hw : Below w.heap.size w w3)
    (ho : MOwn w3 (w.heap.size + 1 + 1 + 1) (.slice xa l.length xc) l) (hg : w3.heap[G]? = some (.cells #[.int .i64 cap, .slice xa l.length xc] 26 (0, 0))) (_hs3 : w3.heap.size = G + 1) (_hs2 : w.heap.size + 1 + 1 + 1 ≤ G) :
    wx.cell? ⟨G, 0, none⟩ = some (.int .i64 cap) ∧ wx.cell? ⟨G, 1, none⟩ = some (.slice xa l.length xc) ∧
    wx.cell? ⟨w.heap.size + 1 + 1, 0, none⟩ = some (.int .i64 0) ∧ wx.cell? ⟨w.heap.size + 1 + 1, 1, none⟩ = some (.slice none 0 0) ∧ wx.frozen? ⟨w.heap.size + 1 + 1, 0, none⟩ = false ∧ wx.frozen? ⟨w.heap.size + 1 + 1, 1, none⟩ = false ∧
    ((wx.setCell ⟨w.heap.size + 1 + 1, 0, none⟩ (.int .i64 cap)).setCell ⟨w.heap.size + 1 + 1, 1, none⟩ (.slice xa l.length xc)).heap[w.heap.size + 1 + 1]? = some (.cells #[.int .i64 cap, .slice xa l.length xc] 26 (0, 0)) ∧
    Below w.heap.size w ((wx.setCell ⟨w.heap.size + 1 + 1, 0, none⟩ (.int .i64 cap)).setCell ⟨w.heap.size + 1 + 1, 1, none⟩ (.slice xa l.length xc)) ∧
    MOwn ((wx.setCell ⟨w.heap.size + 1 + 1, 0, none⟩ (.int .i64 cap)).setCell ⟨w.heap.size + 1 + 1, 1, none⟩ (.slice xa l.length xc)) w.heap.size (.slice xa l.length xc) l := by
  have h2 := h.below hb
  have hgx := (hb.block _ (Array.getElem?_eq_some_iff.1 hg).1).trans hg
  have he := rec_end (cap := cap) (u := .slice xa l.length xc) (hw.trans (hb.mono hw.size)) rfl ⟨_, _, h2.res⟩
  refine ⟨cell_of_heap hgx 0, cell_of_heap hgx 1, cell_of_heap h2.res 0, cell_of_heap h2.res 1, frozen_of_row _ _ _ _ _ h2.res, frozen_of_row _ _ _ _ _ h2.res, he.1, he.2, ?_⟩
  exact own_mono (own_farR (own_farR (row_below ho hb) (by omega)) (by omega)) (by omega)

/-- What a taking-in wants ahead: the cells that it reads and writes. -/
theorem rec_take {w w3 wx : World} {G : Nat} {cap : Int} {ua xa : Option Addr} {n uc xc : Nat} {x : MsgM} {l : List MsgM} (h : Rec3 w3 w.heap.size cap (.slice ua n uc) x) (hb : Below w3.heap.size w3 wx) (hw : Below w.heap.size w w3)
    (ho : MOwn w3 (w.heap.size + 1 + 1 + 1) (.slice xa l.length xc) l) (hg : w3.heap[G]? = some (.cells #[.int .i64 cap, .slice xa l.length xc] 26 (0, 0))) (hs3 : w3.heap.size = G + 1) (hs2 : w.heap.size + 1 + 1 + 1 ≤ G) :
    wx.cell? ⟨G, 0, none⟩ = some (.int .i64 cap) ∧ wx.cell? ⟨G, 1, none⟩ = some (.slice xa l.length xc) ∧ wx.frozen? ⟨G, 1, none⟩ = false ∧
    wx.cell? ⟨w.heap.size + 1, 0, none⟩ = some (.int .i64 x.1) ∧ wx.cell? ⟨w.heap.size + 1, 1, none⟩ = some (.int .i64 x.2.1) ∧ wx.cell? ⟨w.heap.size + 1, 2, none⟩ = some (.string x.2.2.1) ∧ wx.cell? ⟨w.heap.size + 1, 3, none⟩ = some (.int .i64 x.2.2.2) ∧
    wx.cell? ⟨w.heap.size, 0, none⟩ = some (.int .i64 cap) ∧ w.heap.size + 1 + 1 + 1 < wx.heap.size ∧ G < wx.heap.size ∧
    MOwn wx (w.heap.size + 1 + 1 + 1) (.slice xa l.length xc) l ∧ wx.heap[G]? = some (.cells #[.int .i64 cap, .slice xa l.length xc] 26 (0, 0)) ∧ Rec3 wx w.heap.size cap (.slice ua n uc) x ∧ Below w.heap.size w wx := by
  have h2 := h.below hb
  have hgx := (hb.block _ (Array.getElem?_eq_some_iff.1 hg).1).trans hg
  have hsz := hb.size
  exact ⟨cell_of_heap hgx 0, cell_of_heap hgx 1, frozen_of_row _ _ _ _ _ hgx, cell_of_heap h2.msg 0, cell_of_heap h2.msg 1, cell_of_heap h2.msg 2, cell_of_heap h2.msg 3, cell_of_heap h2.ring 0, by omega, by omega, row_below ho hb, hgx, h2, hw.trans (hb.mono hw.size)⟩

/-- What an own row of one message more holds behind the first one. -/
theorem rec_src {A : World} {B g c : Nat} {l : List MsgM} {x : MsgM} (h : A.ownsRow B 28 4 (.slice (some ⟨g, 0, none⟩) (l.length + 1) c) (l.length + 1) (mcells l ++ mcells [x])) (o : Obj) :
    ∀ j u, (mcells ((l ++ [x]).drop 1))[j]? = some u → (A.alloc o).cell? ((⟨g, 4, none⟩ : Addr).add j) = some u := by
  have hm : MOwn A B (.slice (some ⟨g, 0, none⟩) (l.length + 1) c) (l ++ [x]) := by unfold MOwn; rw [List.length_append, mcells_app]; exact h
  obtain ⟨a, c', e, _, _, h3⟩ := own_msgs_at hm
  obtain ⟨b, o', e2, hin⟩ : ∃ b o', a = some ⟨b, o', none⟩ ∧ MsgsIn A b o' (l ++ [x]) := by
    rcases h3 with h3 | h3
    · simp at h3
    · exact h3
  subst e2
  injection e with e1
  injection e1 with e1
  injection e1 with e2 e3
  subst e2 e3
  have hi2 := hin.below ((Below.refl _ _).alloc (Nat.le_refl _) o)
  refine msgs_src (l := (l ++ [x]).drop 1) fun j hj => ?_
  have := hi2 (1 + j) (by rw [List.length_drop] at hj; omega)
  rw [List.getElem_drop]
  rw [show 4 + j * 4 = 0 + (1 + j) * 4 by omega]
  exact this

theorem rec_nil {l : List MsgM} {x : MsgM} (h : l.length + 1 ≤ 1) : (l ++ [x]).drop 1 = [] := by
  have : l = [] := List.length_eq_zero_iff.1 (by omega)
  subst this
  rfl

/-- Behind an append to an own row, and the store of what it gave into the box. -/
theorem rec_core {w wb w5 : World} {G n n0 : Nat} {cap : Int} {s s0 s1 u : Value} {x : MsgM} {xs0 ys : List Value} (hro : wb.ownsRow (w.heap.size + 1 + 1 + 1) 28 4 s0 n0 xs0)
    (hrg : wb.heap[G]? = some (.cells #[.int .i64 cap, s1] 26 (0, 0))) (h2 : Rec3 wb w.heap.size cap s x) (hrb : Below w.heap.size w wb)
    (hgr : wb.grownBy w5 s0.ownBlock) (hown : w5.ownsRow (w.heap.size + 1 + 1 + 1) 28 4 u n ys) (k4 : G < wb.heap.size) (hs2 : w.heap.size + 1 + 1 + 1 ≤ G) :
    w5.frozen? ⟨G, 1, none⟩ = false ∧ w5.cell? ⟨G, 1, none⟩ = some s1 ∧
    Rec3 (w5.setCell ⟨G, 1, none⟩ u) w.heap.size cap s x ∧ (w5.setCell ⟨G, 1, none⟩ u).ownsRow (w.heap.size + 1 + 1 + 1) 28 4 u n ys ∧
    Below w.heap.size w (w5.setCell ⟨G, 1, none⟩ u) ∧ (w5.setCell ⟨G, 1, none⟩ u).heap[G]? = some (.cells #[.int .i64 cap, u] 26 (0, 0)) ∧
    (w5.setCell ⟨G, 1, none⟩ u).cell? ⟨w.heap.size, 0, none⟩ = some (.int .i64 cap) ∧ (w5.setCell ⟨G, 1, none⟩ u).cell? ⟨G, 0, none⟩ = some (.int .i64 cap) ∧ (w5.setCell ⟨G, 1, none⟩ u).cell? ⟨G, 1, none⟩ = some u ∧
    (w5.setCell ⟨G, 1, none⟩ u).frozen? ⟨G, 1, none⟩ = false ∧
    (w5.setCell ⟨G, 1, none⟩ u).cell? ⟨w.heap.size + 1 + 1, 0, none⟩ = some (.int .i64 0) ∧ (w5.setCell ⟨G, 1, none⟩ u).cell? ⟨w.heap.size + 1 + 1, 1, none⟩ = some (.slice none 0 0) ∧
    (w5.setCell ⟨G, 1, none⟩ u).frozen? ⟨w.heap.size + 1 + 1, 0, none⟩ = false ∧ (w5.setCell ⟨G, 1, none⟩ u).frozen? ⟨w.heap.size + 1 + 1, 1, none⟩ = false ∧
    w.heap.size + 1 + 1 + 1 ≤ (w5.setCell ⟨G, 1, none⟩ u).heap.size ∧ G < (w5.setCell ⟨G, 1, none⟩ u).heap.size := by
  have hne : 28 ≠ 26 := by decide
  have hg5 := type_kept hro hgr hrg hne
  have h5 : Below (w.heap.size + 1 + 1 + 1) wb w5 := (Below.refl _ _).grown hgr (by omega) (fun j h => (hro.lt j h).1)
  have r5 : Rec3 w5 w.heap.size cap s x := ⟨(h5.block _ (by omega)).trans h2.ring, (h5.block _ (by omega)).trans h2.msg, (h5.block _ (by omega)).trans h2.res⟩
  have hsz := h5.size
  have r6 : Rec3 (w5.setCell ⟨G, 1, none⟩ u) w.heap.size cap s x := ⟨(heap_setCell_other _ _ _ _ (by simp; omega)).trans r5.ring, (heap_setCell_other _ _ _ _ (by simp; omega)).trans r5.msg, (heap_setCell_other _ _ _ _ (by simp; omega)).trans r5.res⟩
  have hg6 := heap_setCell_same _ _ 1 _ _ u hg5
  have ho6 := hown.kept (grown_setCell w5 G 1 u) (.inr (own_not_at hown hg5 hne))
  have hb6 : Below w.heap.size w (w5.setCell ⟨G, 1, none⟩ u) := (hrb.trans (h5.mono (by omega))).grown (grown_setCell _ _ _ _) (by have := hrb.size; omega) (fun k h => by cases h; omega)
  exact ⟨frozen_of_row _ _ _ _ _ hg5, cell_of_heap hg5 1, r6, ho6, hb6, hg6, cell_of_heap r6.ring 0, cell_of_heap hg6 0, cell_of_heap hg6 1, frozen_of_row _ _ _ _ _ hg6, cell_of_heap r6.res 0, cell_of_heap r6.res 1, frozen_of_row _ _ _ _ _ r6.res, frozen_of_row _ _ _ _ _ r6.res, by simp; omega, by simp; omega⟩

theorem rec_app {w wa w5 : World} {G n : Nat} {cap : Int} {s u : Value} {xa : Option Addr} {xc : Nat} {x : MsgM} {l : List MsgM} {ys : List Value} {o : Obj} (hro : MOwn wa (w.heap.size + 1 + 1 + 1) (.slice xa l.length xc) l)
    (hrg : wa.heap[G]? = some (.cells #[.int .i64 cap, .slice xa l.length xc] 26 (0, 0))) (h2 : Rec3 wa w.heap.size cap s x) (hrb : Below w.heap.size w wa)
    (hgr : (wa.alloc o).grownBy w5 (Value.slice xa l.length xc).ownBlock) (hown : w5.ownsRow (w.heap.size + 1 + 1 + 1) 28 4 u n ys) (k4 : G < wa.heap.size) (hs2 : w.heap.size + 1 + 1 + 1 ≤ G) :
    w5.frozen? ⟨G, 1, none⟩ = false ∧ w5.cell? ⟨G, 1, none⟩ = some (.slice xa l.length xc) ∧
    Rec3 (w5.setCell ⟨G, 1, none⟩ u) w.heap.size cap s x ∧ (w5.setCell ⟨G, 1, none⟩ u).ownsRow (w.heap.size + 1 + 1 + 1) 28 4 u n ys ∧
    Below w.heap.size w (w5.setCell ⟨G, 1, none⟩ u) ∧ (w5.setCell ⟨G, 1, none⟩ u).heap[G]? = some (.cells #[.int .i64 cap, u] 26 (0, 0)) ∧
    (w5.setCell ⟨G, 1, none⟩ u).cell? ⟨w.heap.size, 0, none⟩ = some (.int .i64 cap) ∧ (w5.setCell ⟨G, 1, none⟩ u).cell? ⟨G, 0, none⟩ = some (.int .i64 cap) ∧ (w5.setCell ⟨G, 1, none⟩ u).cell? ⟨G, 1, none⟩ = some u ∧
    (w5.setCell ⟨G, 1, none⟩ u).frozen? ⟨G, 1, none⟩ = false ∧
    (w5.setCell ⟨G, 1, none⟩ u).cell? ⟨w.heap.size + 1 + 1, 0, none⟩ = some (.int .i64 0) ∧ (w5.setCell ⟨G, 1, none⟩ u).cell? ⟨w.heap.size + 1 + 1, 1, none⟩ = some (.slice none 0 0) ∧
    (w5.setCell ⟨G, 1, none⟩ u).frozen? ⟨w.heap.size + 1 + 1, 0, none⟩ = false ∧ (w5.setCell ⟨G, 1, none⟩ u).frozen? ⟨w.heap.size + 1 + 1, 1, none⟩ = false ∧
    w.heap.size + 1 + 1 + 1 ≤ (w5.setCell ⟨G, 1, none⟩ u).heap.size ∧ G < (w5.setCell ⟨G, 1, none⟩ u).heap.size :=
  have hA : Below wa.heap.size wa (wa.alloc o) := (Below.refl _ _).alloc (Nat.le_refl _) _
  rec_core (row_below hro hA) ((hA.block _ k4).trans hrg) (h2.below hA) (hrb.trans (hA.mono hrb.size)) hgr hown (Nat.lt_of_lt_of_le k4 hA.size) hs2

set_option maxRecDepth 100000 in
set_option maxHeartbeats 3200000 in
theorem specRecorded_any (cap : Int) (v : Value) (l : List MsgM) (m : MsgM) (w : World) (hl : l.length ≤ 1048576) (hs : ∀ x ∈ l, x.2.2.1.size ≤ 1048576) (hm : m.2.2.1.size ≤ 1048576) (hv : MsgsAt w v l) :
    Calls Tryd.prog 7 #[.agg #[.int .i64 cap, v], magg m] w fun e w' =>
      ∃ u, e = .returned (.tuple #[.agg #[.int .i64 (recM cap l m).1, u], .bool (recM cap l m).2.2]) ∧ MOwn w' w.heap.size u (recM cap l m).2.1 ∧ Below w.heap.size w w' := by
  have CR := Lib.hid (fun w' (h : MsgsAt w' v l) => specRingOk_any cap v l w' hl hs h)
  have CC := Lib.hid (fun w' (h : MsgsAt w' v l) => specCopyR_any cap v l w' (by omega) h)
  have CM := Lib.hid (fun w' => specMsgOk_any m w' hm)
  have HR : Hid (recM cap l m = if ringB cap l then (if msgB m && behindM l m.1 then (cap, if cap < (l.length : Int) + 1 then (l ++ [m]).drop 1 else l ++ [m], true) else (cap, l, false)) else (0, [], false)) := rfl
  have HV := Lib.hid hv
  obtain ⟨ua, uc, rfl, huc1, huc2, h3⟩ := hv
  have HC := Lib.hid h3
  obtain ⟨b1, hb1⟩ : ∃ b, ringB cap l = b := ⟨_, rfl⟩
  obtain ⟨b2, hb2⟩ : ∃ b, msgB m = b := ⟨_, rfl⟩
  rw [hb1] at CR HR
  rw [hb2] at CM HR
  obtain ⟨R, hR⟩ : ∃ R, recM cap l m = R := ⟨_, rfl⟩
  rw [hR] at HR ⊢
  clear hb1 hb2 hs hm h3 hR
  obtain ⟨q, f, p, d⟩ := m
  unfold maxLen at huc2
  obtain ⟨ii, hi, hz0, hz1, hz2⟩ := msg_info
  go_enter Tryd.func7, Tryd.ntmps7
  go_wp2_with fail
  have hb0 : Below w.heap.size w (((w.alloc (.cells #[.int .i64 cap, .slice ua l.length uc] 26)).alloc (.cells #[.int .i64 q, .int .i64 f, .string p, .int .i64 d] 28)).alloc (.cells #[.int .i64 0, .slice none 0 0] 26)) :=
    (((Below.refl _ _).alloc (Nat.le_refl _) _).alloc (by simp) _).alloc (by simp; omega) _
  have hs0 : (((w.alloc (.cells #[.int .i64 cap, .slice ua l.length uc] 26)).alloc (.cells #[.int .i64 q, .int .i64 f, .string p, .int .i64 d] 28)).alloc (.cells #[.int .i64 0, .slice none 0 0] 26)).heap.size = w.heap.size + 1 + 1 + 1 := by simp
  have h3 : Rec3 (((w.alloc (.cells #[.int .i64 cap, .slice ua l.length uc] 26)).alloc (.cells #[.int .i64 q, .int .i64 f, .string p, .int .i64 d] 28)).alloc (.cells #[.int .i64 0, .slice none 0 0] 26)) w.heap.size cap (.slice ua l.length uc) (q, f, p, d) := by
    have e1 : (w.alloc (.cells #[.int .i64 cap, .slice ua l.length uc] 26)).heap.size = w.heap.size + 1 := by simp
    have e2 : ((w.alloc (.cells #[.int .i64 cap, .slice ua l.length uc] 26)).alloc (.cells #[.int .i64 q, .int .i64 f, .string p, .int .i64 d] 28)).heap.size = w.heap.size + 1 + 1 := by simp
    refine ⟨?_, ?_, ?_⟩
    · rw [Below.heap_alloc _ _ _ (by omega), Below.heap_alloc _ _ _ (by omega)]; exact heap_alloc_new _ _
    · rw [Below.heap_alloc _ _ _ (by omega), ← e1]; exact heap_alloc_new _ _
    · rw [← e2]; exact heap_alloc_new _ _
  generalize (((w.alloc (.cells #[.int .i64 cap, .slice ua l.length uc] 26)).alloc (.cells #[.int .i64 q, .int .i64 f, .string p, .int .i64 d] 28)).alloc (.cells #[.int .i64 0, .slice none 0 0] 26)) = w0 at hb0 hs0 h3 ⊢
  refine (CR.out _ (HV.out.below hb0)).mono ?_
  rintro e w1 ⟨rfl, hb⟩
  have H31 := Lib.hid (h3.below hb)
  have B1 := Lib.hid (hb0.trans (hb.mono hb0.size))
  have hs1 : w.heap.size + 1 + 1 + 1 ≤ w1.heap.size := by have := hb.size; omega
  clear hb0 hs0 h3 hb CR
  have d0 : w1.cell? ⟨w.heap.size, 0, none⟩ = some (.int .i64 cap) := cell_of_heap H31.out.ring 0
  have d1 : w1.cell? ⟨w.heap.size, 1, none⟩ = some (.slice ua l.length uc) := cell_of_heap H31.out.ring 1
  cases b1
  · have e0 : w1.cell? ⟨w.heap.size + 1 + 1, 0, none⟩ = some (.int .i64 0) := cell_of_heap H31.out.res 0
    have e1 : w1.cell? ⟨w.heap.size + 1 + 1, 1, none⟩ = some (.slice none 0 0) := cell_of_heap H31.out.res 1
    have e2 : w1.frozen? ⟨w.heap.size + 1 + 1, 0, none⟩ = false := frozen_of_row _ _ _ _ _ H31.out.res
    have e3 : w1.frozen? ⟨w.heap.size + 1 + 1, 1, none⟩ = false := frozen_of_row _ _ _ _ _ H31.out.res
    have HX := Lib.hid (rec_end (cap := 0) (u := .slice none 0 0) B1.out rfl ⟨_, _, H31.out.res⟩)
    have HE : Hid (R = (0, [], false)) := Lib.hid (by rw [HR.out]; rfl)
    go_wp2
    exact bodyPost_ret (results_row_tmp rfl _ _ _ _ _ _ _ rfl HX.out.1 Tryd.underlying26 rfl (by kernel_rfl)) rfl ⟨_, by rw [HE.out]; rfl, by rw [HE.out]; exact World.ownsRow_nil _ _ _ _, HX.out.2⟩
  go_wp2_with fail
  refine (CC.out _ (HV.out.below B1.out)).mono ?_
  rintro e w2 ⟨u, rfl, ho, hb⟩
  obtain ⟨xa, xc, hxu⟩ := own_slice ho
  subst hxu
  have H32 := Lib.hid (H31.out.below hb)
  have B2 := Lib.hid (B1.out.trans (hb.mono B1.out.size))
  have O2 := Lib.hid (show MOwn w2 (w.heap.size + 1 + 1 + 1) (.slice xa l.length xc) l from own_mono ho hs1)
  clear d0 d1
  have hs2 : w.heap.size + 1 + 1 + 1 ≤ w2.heap.size := Nat.le_trans hs1 hb.size
  have d1 : w2.cell? ⟨w.heap.size, 1, none⟩ = some (.slice ua l.length uc) := cell_of_heap H32.out.ring 1
  have d1b : (w2.alloc (.cells #[.int .i64 0, .slice none 0 0] 26)).cell? ⟨w.heap.size, 1, none⟩ = some (.slice ua l.length uc) := by rw [World.cell?_alloc_lt _ _ _ (show w.heap.size < w2.heap.size by omega)]; exact d1
  have d1c : (w2.alloc (.cells #[.int .i64 cap, .slice xa l.length xc] 26)).cell? ⟨w.heap.size, 1, none⟩ = some (.slice ua l.length uc) := by rw [World.cell?_alloc_lt _ _ _ (show w.heap.size < w2.heap.size by omega)]; exact d1
  clear ho hb CC H31 B1 hs1
  go_wp2_with fail
  have hs3 : (w2.alloc (.cells #[.int .i64 cap, .slice xa l.length xc] 26)).heap.size = w2.heap.size + 1 := by simp
  have H33 := Lib.hid (H32.out.below ((Below.refl _ _).alloc (Nat.le_refl _) (.cells #[.int .i64 cap, .slice xa l.length xc] 26)))
  have B3 := Lib.hid (B2.out.trans (((Below.refl _ _).alloc (Nat.le_refl _) (.cells #[.int .i64 cap, .slice xa l.length xc] 26)).mono B2.out.size))
  have O3 : Hid (MOwn (w2.alloc (.cells #[.int .i64 cap, .slice xa l.length xc] 26)) (w.heap.size + 1 + 1 + 1) (.slice xa l.length xc) l) := Lib.hid (row_below O2.out ((Below.refl _ _).alloc (Nat.le_refl _) _))
  have G3 : Hid ((w2.alloc (.cells #[.int .i64 cap, .slice xa l.length xc] 26)).heap[w2.heap.size]? = some (.cells #[.int .i64 cap, .slice xa l.length xc] 26 (0, 0))) := Lib.hid (heap_alloc_new _ _)
  clear d1 d1b d1c H32 B2 O2
  generalize w2.alloc (.cells #[.int .i64 cap, .slice xa l.length xc] 26) = w3 at hs3 H33 B3 O3 G3 ⊢
  obtain ⟨G, hG⟩ : ∃ G, w2.heap.size = G := ⟨_, rfl⟩
  rw [hG] at hs2 hs3 G3 ⊢
  clear hG
  have a0 : w3.cell? ⟨w.heap.size + 1, 0, none⟩ = some (.int .i64 q) := cell_of_heap H33.out.msg 0
  have a1 : w3.cell? ⟨w.heap.size + 1, 1, none⟩ = some (.int .i64 f) := cell_of_heap H33.out.msg 1
  have a2 : w3.cell? ⟨w.heap.size + 1, 2, none⟩ = some (.string p) := cell_of_heap H33.out.msg 2
  have a3 : w3.cell? ⟨w.heap.size + 1, 3, none⟩ = some (.int .i64 d) := cell_of_heap H33.out.msg 3
  have a4 : w3.cell? ⟨w.heap.size, 1, none⟩ = some (.slice ua l.length uc) := cell_of_heap H33.out.ring 1
  have HH : Hid (Below w3.heap.size w3 w3.drew) := Lib.hid (Below.refl _ _).drew
  cases b2
  · skip
    refine wp_region_held_drew (S := fun wx => wx.cell? ⟨w.heap.size + 1, 0, none⟩ = some (.int .i64 q) ∧ wx.cell? ⟨w.heap.size + 1, 1, none⟩ = some (.int .i64 f) ∧ wx.cell? ⟨w.heap.size + 1, 2, none⟩ = some (.string p) ∧ wx.cell? ⟨w.heap.size + 1, 3, none⟩ = some (.int .i64 d) ∧ wx.cell? ⟨w.heap.size, 1, none⟩ = some (.slice ua l.length uc) ∧ Hid (Below w3.heap.size w3 wx)) (by kernel_rfl) ?_ (fun hHeld => ?_)
    · exact ⟨a0, a1, a2, a3, a4, HH⟩
    change wpAnyH _ _ _ _ _ 19 #[false, false, false, false, false, false, false, false, false, false, false, false, false, false, false, false, false, false, false] _ _
    clear a0 a1 a2 a3 a4 HH
    refine wpAnyH_take (i := 0) (v := ?_) rfl (by kernel_rfl) (by kernel_rfl) (by kernel_rfl) (fun _ _ _ h => h) (Or.inl ⟨by rfl, ?_⟩) (by assumption) ?_
    rotate_left
    · intro w hSw; (try dsimp only at hSw); go_simp; try with_reducible rfl
    try simp only [Act.put, List.getElem_toArray, List.getElem_cons_succ, List.getElem_cons_zero, List.setIfInBounds_toArray, List.set_cons_zero, List.set_cons_succ]
    refine wpAnyH_ready (rs := [1]) (by kernel_rfl) (by simp) (AllReadyH.cons rfl (fun K hK => ?_) AllReadyH.nil)
    rw [if_pos (by rfl)]
    go_simp; go_at_call 29; refine (CM.out _).mono ?_; rintro e wa ⟨rfl, hb⟩; go_wp2_with fail
    refine hK.out _ _ ?_ (fun hHeld => ?_)
    · exact ⟨(below_cell hb (World.block_lt_of_cell? _ _ hHeld.1)).trans hHeld.1, (below_cell hb (World.block_lt_of_cell? _ _ hHeld.2.1)).trans hHeld.2.1, (below_cell hb (World.block_lt_of_cell? _ _ hHeld.2.2.1)).trans hHeld.2.2.1, (below_cell hb (World.block_lt_of_cell? _ _ hHeld.2.2.2.1)).trans hHeld.2.2.2.1, (below_cell hb (World.block_lt_of_cell? _ _ hHeld.2.2.2.2.1)).trans hHeld.2.2.2.2.1, Lib.hid (below_end hHeld.2.2.2.2.2.out hb)⟩
    clear hK K
    try simp only [Act.put, List.getElem_toArray, List.getElem_cons_succ, List.getElem_cons_zero, List.setIfInBounds_toArray, List.set_cons_zero, List.set_cons_succ]
    refine wpAnyH_take (i := 2) (v := ?_) rfl (by kernel_rfl) (by kernel_rfl) (by kernel_rfl) (fun _ _ _ h => h) (Or.inl ⟨by rfl, ?_⟩) (by assumption) ?_
    rotate_left
    · intro w hSw; (try dsimp only at hSw); go_simp; try with_reducible rfl
    try simp only [Act.put, List.getElem_toArray, List.getElem_cons_succ, List.getElem_cons_zero, List.setIfInBounds_toArray, List.set_cons_zero, List.set_cons_succ]
    refine wpAnyH_take (i := 3) (v := ?_) rfl (by kernel_rfl) (by kernel_rfl) (by kernel_rfl) (fun _ _ _ h => h) (Or.inl ⟨by rfl, ?_⟩) (by assumption) ?_
    rotate_left
    · intro w hSw; (try dsimp only at hSw); go_simp; try with_reducible rfl
    try simp only [Act.put, List.getElem_toArray, List.getElem_cons_succ, List.getElem_cons_zero, List.setIfInBounds_toArray, List.set_cons_zero, List.set_cons_succ]
    refine wpAnyH_take (i := 4) (v := undef) rfl (by kernel_rfl) (by kernel_rfl) (by kernel_rfl) (fun _ _ _ h => h) (Or.inr ⟨by rfl, rfl⟩) (by assumption) ?_
    try simp only [Act.put, List.getElem_toArray, List.getElem_cons_succ, List.getElem_cons_zero, List.setIfInBounds_toArray, List.set_cons_zero, List.set_cons_succ]
    refine wpAnyH_take (i := 5) (v := undef) rfl (by kernel_rfl) (by kernel_rfl) (by kernel_rfl) (fun _ _ _ h => h) (Or.inr ⟨by rfl, rfl⟩) (by assumption) ?_
    try simp only [Act.put, List.getElem_toArray, List.getElem_cons_succ, List.getElem_cons_zero, List.setIfInBounds_toArray, List.set_cons_zero, List.set_cons_succ]
    refine wpAnyH_take (i := 6) (v := undef) rfl (by kernel_rfl) (by kernel_rfl) (by kernel_rfl) (fun _ _ _ h => h) (Or.inr ⟨by rfl, rfl⟩) (by assumption) ?_
    try simp only [Act.put, List.getElem_toArray, List.getElem_cons_succ, List.getElem_cons_zero, List.setIfInBounds_toArray, List.set_cons_zero, List.set_cons_succ]
    refine wpAnyH_take (i := 7) (v := undef) rfl (by kernel_rfl) (by kernel_rfl) (by kernel_rfl) (fun _ _ _ h => h) (Or.inr ⟨by rfl, rfl⟩) (by assumption) ?_
    try simp only [Act.put, List.getElem_toArray, List.getElem_cons_succ, List.getElem_cons_zero, List.setIfInBounds_toArray, List.set_cons_zero, List.set_cons_succ]
    refine wpAnyH_take (i := 8) (v := undef) rfl (by kernel_rfl) (by kernel_rfl) (by kernel_rfl) (fun _ _ _ h => h) (Or.inr ⟨by rfl, rfl⟩) (by assumption) ?_
    try simp only [Act.put, List.getElem_toArray, List.getElem_cons_succ, List.getElem_cons_zero, List.setIfInBounds_toArray, List.set_cons_zero, List.set_cons_succ]
    refine wpAnyH_take (i := 9) (v := undef) rfl (by kernel_rfl) (by kernel_rfl) (by kernel_rfl) (fun _ _ _ h => h) (Or.inr ⟨by rfl, rfl⟩) (by assumption) ?_
    try simp only [Act.put, List.getElem_toArray, List.getElem_cons_succ, List.getElem_cons_zero, List.setIfInBounds_toArray, List.set_cons_zero, List.set_cons_succ]
    refine wpAnyH_take (i := 10) (v := undef) rfl (by kernel_rfl) (by kernel_rfl) (by kernel_rfl) (fun _ _ _ h => h) (Or.inr ⟨by rfl, rfl⟩) (by assumption) ?_
    try simp only [Act.put, List.getElem_toArray, List.getElem_cons_succ, List.getElem_cons_zero, List.setIfInBounds_toArray, List.set_cons_zero, List.set_cons_succ]
    refine wpAnyH_take (i := 11) (v := undef) rfl (by kernel_rfl) (by kernel_rfl) (by kernel_rfl) (fun _ _ _ h => h) (Or.inr ⟨by rfl, rfl⟩) (by assumption) ?_
    try simp only [Act.put, List.getElem_toArray, List.getElem_cons_succ, List.getElem_cons_zero, List.setIfInBounds_toArray, List.set_cons_zero, List.set_cons_succ]
    refine wpAnyH_take (i := 12) (v := undef) rfl (by kernel_rfl) (by kernel_rfl) (by kernel_rfl) (fun _ _ _ h => h) (Or.inr ⟨by rfl, rfl⟩) (by assumption) ?_
    try simp only [Act.put, List.getElem_toArray, List.getElem_cons_succ, List.getElem_cons_zero, List.setIfInBounds_toArray, List.set_cons_zero, List.set_cons_succ]
    refine wpAnyH_take (i := 13) (v := undef) rfl (by kernel_rfl) (by kernel_rfl) (by kernel_rfl) (fun _ _ _ h => h) (Or.inr ⟨by rfl, rfl⟩) (by assumption) ?_
    try simp only [Act.put, List.getElem_toArray, List.getElem_cons_succ, List.getElem_cons_zero, List.setIfInBounds_toArray, List.set_cons_zero, List.set_cons_succ]
    refine wpAnyH_take (i := 14) (v := undef) rfl (by kernel_rfl) (by kernel_rfl) (by kernel_rfl) (fun _ _ _ h => h) (Or.inr ⟨by rfl, rfl⟩) (by assumption) ?_
    try simp only [Act.put, List.getElem_toArray, List.getElem_cons_succ, List.getElem_cons_zero, List.setIfInBounds_toArray, List.set_cons_zero, List.set_cons_succ]
    refine wpAnyH_take (i := 15) (v := undef) rfl (by kernel_rfl) (by kernel_rfl) (by kernel_rfl) (fun _ _ _ h => h) (Or.inr ⟨by rfl, rfl⟩) (by assumption) ?_
    try simp only [Act.put, List.getElem_toArray, List.getElem_cons_succ, List.getElem_cons_zero, List.setIfInBounds_toArray, List.set_cons_zero, List.set_cons_succ]
    refine wpAnyH_take (i := 16) (v := undef) rfl (by kernel_rfl) (by kernel_rfl) (by kernel_rfl) (fun _ _ _ h => h) (Or.inr ⟨by rfl, rfl⟩) (by assumption) ?_
    try simp only [Act.put, List.getElem_toArray, List.getElem_cons_succ, List.getElem_cons_zero, List.setIfInBounds_toArray, List.set_cons_zero, List.set_cons_succ]
    refine wpAnyH_take (i := 17) (v := undef) rfl (by kernel_rfl) (by kernel_rfl) (by kernel_rfl) (fun _ _ _ h => h) (Or.inr ⟨by rfl, rfl⟩) (by assumption) ?_
    try simp only [Act.put, List.getElem_toArray, List.getElem_cons_succ, List.getElem_cons_zero, List.setIfInBounds_toArray, List.set_cons_zero, List.set_cons_succ]
    refine wpAnyH_take (i := 18) (v := ?_) rfl (by kernel_rfl) (by kernel_rfl) (by kernel_rfl) (fun _ _ _ h => h) (Or.inl ⟨by rfl, ?_⟩) (by assumption) ?_
    rotate_left
    · intro w hSw; (try dsimp only at hSw); go_simp; try with_reducible rfl
    try simp only [Act.put, List.getElem_toArray, List.getElem_cons_succ, List.getElem_cons_zero, List.setIfInBounds_toArray, List.set_cons_zero, List.set_cons_succ]
    refine wpAnyH_done (by kernel_rfl) ?_ _
    have HBX := Lib.hid (hHeld.2.2.2.2.2.out)
    clear hHeld
    have HE : Hid (R = (cap, l, false)) := Lib.hid (by rw [HR.out]; rfl)
    obtain hrj := rec_reject (x := (q, f, p, d)) H33.out HBX.out B3.out O3.out G3.out hs3 hs2
    obtain ⟨k0, k1, e0, e1, e2, e3, HX1, HX2, HX3⟩ := hrj
    go_wp2
    exact bodyPost_ret (results_row_tmp rfl _ _ _ _ _ _ _ rfl HX1 Tryd.underlying26 rfl (by kernel_rfl)) rfl ⟨_, by rw [HE.out]; rfl, by rw [HE.out]; exact HX3, HX2⟩
  have hbh : behindM l q = (decide (l.length = 0) || decide ((l.getD (l.length - 1) (0, 0, ⟨#[]⟩, 0)).1 < q)) := rfl
  by_cases hl0 : l.length = 0
  · have g1 : decide (0 < l.length) = false := decide_eq_false (by omega)
    have hbt : behindM l q = true := by rw [hbh, decide_eq_true hl0]; rfl
    have HL0 := Lib.hid hl0
    clear hl0 hbh
    refine wp_region_held_drew (S := fun wx => wx.cell? ⟨w.heap.size + 1, 0, none⟩ = some (.int .i64 q) ∧ wx.cell? ⟨w.heap.size + 1, 1, none⟩ = some (.int .i64 f) ∧ wx.cell? ⟨w.heap.size + 1, 2, none⟩ = some (.string p) ∧ wx.cell? ⟨w.heap.size + 1, 3, none⟩ = some (.int .i64 d) ∧ wx.cell? ⟨w.heap.size, 1, none⟩ = some (.slice ua l.length uc) ∧ Hid (Below w3.heap.size w3 wx)) (by kernel_rfl) ?_ (fun hHeld => ?_)
    · exact ⟨a0, a1, a2, a3, a4, HH⟩
    change wpAnyH _ _ _ _ _ 19 #[false, false, false, false, false, false, false, false, false, false, false, false, false, false, false, false, false, false, false] _ _
    clear a0 a1 a2 a3 a4 HH
    refine wpAnyH_take (i := 0) (v := ?_) rfl (by kernel_rfl) (by kernel_rfl) (by kernel_rfl) (fun _ _ _ h => h) (Or.inl ⟨by rfl, ?_⟩) (by assumption) ?_
    rotate_left
    · intro w hSw; (try dsimp only at hSw); go_simp; try with_reducible rfl
    try simp only [Act.put, List.getElem_toArray, List.getElem_cons_succ, List.getElem_cons_zero, List.setIfInBounds_toArray, List.set_cons_zero, List.set_cons_succ]
    refine wpAnyH_ready (rs := [1]) (by kernel_rfl) (by simp) (AllReadyH.cons rfl (fun K hK => ?_) AllReadyH.nil)
    rw [if_pos (by rfl)]
    go_simp; go_at_call 29; refine (CM.out _).mono ?_; rintro e wa ⟨rfl, hb⟩; go_wp2_with fail
    refine hK.out _ _ ?_ (fun hHeld => ?_)
    · exact ⟨(below_cell hb (World.block_lt_of_cell? _ _ hHeld.1)).trans hHeld.1, (below_cell hb (World.block_lt_of_cell? _ _ hHeld.2.1)).trans hHeld.2.1, (below_cell hb (World.block_lt_of_cell? _ _ hHeld.2.2.1)).trans hHeld.2.2.1, (below_cell hb (World.block_lt_of_cell? _ _ hHeld.2.2.2.1)).trans hHeld.2.2.2.1, (below_cell hb (World.block_lt_of_cell? _ _ hHeld.2.2.2.2.1)).trans hHeld.2.2.2.2.1, Lib.hid (below_end hHeld.2.2.2.2.2.out hb)⟩
    clear hK K
    try simp only [Act.put, List.getElem_toArray, List.getElem_cons_succ, List.getElem_cons_zero, List.setIfInBounds_toArray, List.set_cons_zero, List.set_cons_succ]
    refine wpAnyH_take (i := 2) (v := ?_) rfl (by kernel_rfl) (by kernel_rfl) (by kernel_rfl) (fun _ _ _ h => h) (Or.inl ⟨by rfl, ?_⟩) (by assumption) ?_
    rotate_left
    · intro w hSw; (try dsimp only at hSw); go_simp; try with_reducible rfl
    try simp only [Act.put, List.getElem_toArray, List.getElem_cons_succ, List.getElem_cons_zero, List.setIfInBounds_toArray, List.set_cons_zero, List.set_cons_succ]
    refine wpAnyH_take (i := 3) (v := ?_) rfl (by kernel_rfl) (by kernel_rfl) (by kernel_rfl) (fun _ _ _ h => h) (Or.inl ⟨by rfl, ?_⟩) (by assumption) ?_
    rotate_left
    · intro w hSw; (try dsimp only at hSw); go_simp; try with_reducible rfl
    try simp only [Act.put, List.getElem_toArray, List.getElem_cons_succ, List.getElem_cons_zero, List.setIfInBounds_toArray, List.set_cons_zero, List.set_cons_succ]
    refine wpAnyH_take (i := 4) (v := ?_) rfl (by kernel_rfl) (by kernel_rfl) (by kernel_rfl) (fun _ _ _ h => h) (Or.inl ⟨by rfl, ?_⟩) (by assumption) ?_
    rotate_left
    · intro w hSw; (try dsimp only at hSw); go_simp; try with_reducible rfl
    try simp only [Act.put, List.getElem_toArray, List.getElem_cons_succ, List.getElem_cons_zero, List.setIfInBounds_toArray, List.set_cons_zero, List.set_cons_succ]
    refine wpAnyH_take (i := 5) (v := ?_) rfl (by kernel_rfl) (by kernel_rfl) (by kernel_rfl) (fun _ _ _ h => h) (Or.inl ⟨by rfl, ?_⟩) (by assumption) ?_
    rotate_left
    · intro w hSw; (try dsimp only at hSw); go_simp; try with_reducible rfl
    try simp only [Act.put, List.getElem_toArray, List.getElem_cons_succ, List.getElem_cons_zero, List.setIfInBounds_toArray, List.set_cons_zero, List.set_cons_succ]
    refine wpAnyH_take (i := 6) (v := ?_) rfl (by kernel_rfl) (by kernel_rfl) (by kernel_rfl) (fun _ _ _ h => h) (Or.inl ⟨by rfl, ?_⟩) (by assumption) ?_
    rotate_left
    · intro w hSw; (try dsimp only at hSw); go_simp; try with_reducible rfl
    try simp only [Act.put, List.getElem_toArray, List.getElem_cons_succ, List.getElem_cons_zero, List.setIfInBounds_toArray, List.set_cons_zero, List.set_cons_succ]
    refine wpAnyH_take (i := 7) (v := undef) rfl (by kernel_rfl) (by kernel_rfl) (by kernel_rfl) (fun _ _ _ h => h) (Or.inr ⟨by rfl, rfl⟩) (by assumption) ?_
    try simp only [Act.put, List.getElem_toArray, List.getElem_cons_succ, List.getElem_cons_zero, List.setIfInBounds_toArray, List.set_cons_zero, List.set_cons_succ]
    refine wpAnyH_take (i := 8) (v := undef) rfl (by kernel_rfl) (by kernel_rfl) (by kernel_rfl) (fun _ _ _ h => h) (Or.inr ⟨by rfl, rfl⟩) (by assumption) ?_
    try simp only [Act.put, List.getElem_toArray, List.getElem_cons_succ, List.getElem_cons_zero, List.setIfInBounds_toArray, List.set_cons_zero, List.set_cons_succ]
    refine wpAnyH_take (i := 9) (v := undef) rfl (by kernel_rfl) (by kernel_rfl) (by kernel_rfl) (fun _ _ _ h => h) (Or.inr ⟨by rfl, rfl⟩) (by assumption) ?_
    try simp only [Act.put, List.getElem_toArray, List.getElem_cons_succ, List.getElem_cons_zero, List.setIfInBounds_toArray, List.set_cons_zero, List.set_cons_succ]
    refine wpAnyH_take (i := 10) (v := undef) rfl (by kernel_rfl) (by kernel_rfl) (by kernel_rfl) (fun _ _ _ h => h) (Or.inr ⟨by rfl, rfl⟩) (by assumption) ?_
    try simp only [Act.put, List.getElem_toArray, List.getElem_cons_succ, List.getElem_cons_zero, List.setIfInBounds_toArray, List.set_cons_zero, List.set_cons_succ]
    refine wpAnyH_take (i := 11) (v := undef) rfl (by kernel_rfl) (by kernel_rfl) (by kernel_rfl) (fun _ _ _ h => h) (Or.inr ⟨by rfl, rfl⟩) (by assumption) ?_
    try simp only [Act.put, List.getElem_toArray, List.getElem_cons_succ, List.getElem_cons_zero, List.setIfInBounds_toArray, List.set_cons_zero, List.set_cons_succ]
    refine wpAnyH_take (i := 12) (v := undef) rfl (by kernel_rfl) (by kernel_rfl) (by kernel_rfl) (fun _ _ _ h => h) (Or.inr ⟨by rfl, rfl⟩) (by assumption) ?_
    try simp only [Act.put, List.getElem_toArray, List.getElem_cons_succ, List.getElem_cons_zero, List.setIfInBounds_toArray, List.set_cons_zero, List.set_cons_succ]
    refine wpAnyH_take (i := 13) (v := undef) rfl (by kernel_rfl) (by kernel_rfl) (by kernel_rfl) (fun _ _ _ h => h) (Or.inr ⟨by rfl, rfl⟩) (by assumption) ?_
    try simp only [Act.put, List.getElem_toArray, List.getElem_cons_succ, List.getElem_cons_zero, List.setIfInBounds_toArray, List.set_cons_zero, List.set_cons_succ]
    refine wpAnyH_take (i := 14) (v := undef) rfl (by kernel_rfl) (by kernel_rfl) (by kernel_rfl) (fun _ _ _ h => h) (Or.inr ⟨by rfl, rfl⟩) (by assumption) ?_
    try simp only [Act.put, List.getElem_toArray, List.getElem_cons_succ, List.getElem_cons_zero, List.setIfInBounds_toArray, List.set_cons_zero, List.set_cons_succ]
    refine wpAnyH_take (i := 15) (v := undef) rfl (by kernel_rfl) (by kernel_rfl) (by kernel_rfl) (fun _ _ _ h => h) (Or.inr ⟨by rfl, rfl⟩) (by assumption) ?_
    try simp only [Act.put, List.getElem_toArray, List.getElem_cons_succ, List.getElem_cons_zero, List.setIfInBounds_toArray, List.set_cons_zero, List.set_cons_succ]
    refine wpAnyH_take (i := 16) (v := undef) rfl (by kernel_rfl) (by kernel_rfl) (by kernel_rfl) (fun _ _ _ h => h) (Or.inr ⟨by rfl, rfl⟩) (by assumption) ?_
    try simp only [Act.put, List.getElem_toArray, List.getElem_cons_succ, List.getElem_cons_zero, List.setIfInBounds_toArray, List.set_cons_zero, List.set_cons_succ]
    refine wpAnyH_take (i := 17) (v := ?_) rfl (by kernel_rfl) (by kernel_rfl) (by kernel_rfl) (fun _ _ _ h => h) (Or.inl ⟨by rfl, ?_⟩) (by assumption) ?_
    rotate_left
    · intro w hSw; (try dsimp only at hSw); go_simp; try with_reducible rfl
    try simp only [Act.put, List.getElem_toArray, List.getElem_cons_succ, List.getElem_cons_zero, List.setIfInBounds_toArray, List.set_cons_zero, List.set_cons_succ]
    refine wpAnyH_take (i := 18) (v := ?_) rfl (by kernel_rfl) (by kernel_rfl) (by kernel_rfl) (fun _ _ _ h => h) (Or.inl ⟨by rfl, ?_⟩) (by assumption) ?_
    rotate_left
    · intro w hSw; (try dsimp only at hSw); go_simp; try with_reducible rfl
    try simp only [Act.put, List.getElem_toArray, List.getElem_cons_succ, List.getElem_cons_zero, List.setIfInBounds_toArray, List.set_cons_zero, List.set_cons_succ]
    refine wpAnyH_done (by kernel_rfl) ?_ _
    have HBX := Lib.hid (hHeld.2.2.2.2.2.out)
    clear hHeld
    have HE : Hid (R = (cap, if cap < (l.length : Int) + 1 then (l ++ [(q, f, p, d)]).drop 1 else l ++ [(q, f, p, d)], true)) := Lib.hid (by rw [HR.out, hbt]; rfl)
    obtain ⟨k0, k1, k2, i0, i1, i2, i3, i4, k3, k4, hro, hrg, hr2, hrb⟩ := rec_take (x := (q, f, p, d)) H33.out HBX.out B3.out O3.out G3.out hs3 hs2
    by_cases hdr : cap < (l.length : Int) + 1
    · have g8 : decide (cap < (l.length : Int) + 1) = true := decide_eq_true hdr
      have HE2 : Hid (R = (cap, (l ++ [(q, f, p, d)]).drop 1, true)) := Lib.hid (by rw [HE.out, if_pos hdr])
      go_wp2_with (first | (at_builtin; refine wpList_append_own _ rfl _ _ 24 rfl (w.heap.size + 1 + 1 + 1) 28 ii (.agg #[.int .i64 0, .int .i64 0, .string ⟨#[]⟩, .int .i64 0]) 4 40 Tryd.underlying24 hi hz0 hz1 hz2 rfl (by decide) (.slice xa l.length xc) l.length (mcells l) rfl (row_below hro ((Below.refl _ _).alloc (Nat.le_refl _) _)) ⟨wa.heap.size, 0, none⟩ 1 1 (mcells [(q, f, p, d)]) rfl rfl (msg_new wa (q, f, p, d) _) (mcells_one _) (by unfold maxLen; omega) (by omega) (by simp; omega) ?_; intro v' w5 hown hgr _; obtain ⟨gy, yc, hyv⟩ := Joins.ownsRow_form hown (by omega); subst hyv; go_must (obtain ⟨hy1, hy2, hy3, hy4, hy5, hy6, z0, z1, z2, z3, z4, z5, z6, z7, z8, z9⟩ := rec_app hro hrg hr2 hrb hgr hown k4 hs2; have y0 : ((w5.setCell ⟨G, 1, none⟩ (.slice (some ⟨gy, 0, none⟩) (l.length + 1) yc)).alloc (.cells #[] 28)).cell? ⟨G, 1, none⟩ = some (.slice (some ⟨gy, 0, none⟩) (l.length + 1) yc) := (World.cell?_alloc_lt _ _ _ (show G < _ from z9)).trans z2; have y1 : l.length + 1 ≤ yc := own_cap hown; have y2 : (1 : Int) ≤ (l.length : Int) + 1 := (by omega); have hE0 : ((w5.setCell ⟨G, 1, none⟩ (.slice (some ⟨gy, 0, none⟩) (l.length + 1) yc)).alloc (.cells #[] 28)).ownsRow (w.heap.size + 1 + 1 + 1) 28 4 (.slice (some ⟨(w5.setCell ⟨G, 1, none⟩ (.slice (some ⟨gy, 0, none⟩) (l.length + 1) yc)).heap.size, 0, none⟩) 0 0) 0 [] := World.ownsRow_lit _ #[] 0 z8 (by unfold maxLen; omega) rfl; rw [World.size_setCell] at hE0 z8; have hAl : Below _ _ ((w5.setCell ⟨G, 1, none⟩ (.slice (some ⟨gy, 0, none⟩) (l.length + 1) yc)).alloc (.cells #[] 28)) := (Below.refl _ _).alloc (Nat.le_refl _) _; have hEg := (hAl.block _ z9).trans hy6; have hEr := hy3.below hAl; have hEb := hy5.trans (hAl.mono hy5.size); have hEs := Nat.lt_of_lt_of_le z9 hAl.size; clear hAl; have hSrc := rec_src (x := (q, f, p, d)) hy4 (.cells #[] 28); clear k0 k1 k2 i0 i1 i2 i3 i4; obtain rfl | hyc : yc = 1 ∨ ¬ yc = 1 := (by omega))) | (at_builtin; refine wpList_append_own _ rfl _ _ 24 rfl (w.heap.size + 1 + 1 + 1) 28 ii (.agg #[.int .i64 0, .int .i64 0, .string ⟨#[]⟩, .int .i64 0]) 4 40 Tryd.underlying24 hi hz0 hz1 hz2 rfl (by decide) (.slice (some ⟨w5.heap.size, 0, none⟩) 0 0) 0 [] rfl hE0 ⟨gy, 0, none⟩ 0 0 [] rfl rfl (by simp) (by simp) (by unfold maxLen; omega) (by omega) (by simp; omega) ?_; intro v' w7 hown7 hgr7 _; rw [Nat.zero_add, List.nil_append] at hown7; obtain ⟨ha7, hc7, hv7⟩ := own_slice hown7; subst hv7; go_must (obtain ⟨hx1, hx2, hx3, hx4, hx5, hx6, v0, v1, v2, v3, v4, v5, v6, v7, v8, v9⟩ := rec_core hE0 hEg hEr hEb hgr7 hown7 hEs hs2; clear hE0 hEg hEr hEb hEs z0 z1 z2 z3 z4 z5 z6 z7 y0)) | (at_builtin; go_must (refine wpList_append_own _ rfl _ _ 24 rfl (w.heap.size + 1 + 1 + 1) 28 ii (.agg #[.int .i64 0, .int .i64 0, .string ⟨#[]⟩, .int .i64 0]) 4 40 Tryd.underlying24 hi hz0 hz1 hz2 rfl (by decide) (.slice (some ⟨w5.heap.size, 0, none⟩) 0 0) 0 [] rfl hE0 ⟨gy, 4, none⟩ l.length (yc - 1) (mcells ((l ++ [(q, f, p, d)]).drop 1)) rfl (by rw [mcells_length]; simp) hSrc (mcells_one _) (by unfold maxLen; omega) (by omega) (by simp; omega) ?_); intro v' w7 hown7 hgr7 _; rw [Nat.zero_add, List.nil_append] at hown7; obtain ⟨ha7, hc7, hv7⟩ := own_slice hown7; subst hv7; go_must (obtain ⟨hx1, hx2, hx3, hx4, hx5, hx6, v0, v1, v2, v3, v4, v5, v6, v7, v8, v9⟩ := rec_core hE0 hEg hEr hEb hgr7 hown7 hEs hs2; clear hE0 hEg hEr hEb hEs z0 z1 z2 z3 z4 z5 z6 z7 y0)))
      · skip
        have HX := Lib.hid (rec_end (cap := cap) (u := .slice ha7 0 hc7) hx5 rfl ⟨_, _, hx3.res⟩)
        have HM := Lib.hid (own_mono (own_farR (j := 1) (u := .slice ha7 0 hc7) (own_farR (j := 0) (u := .int .i64 cap) hx4 (show w.heap.size + 1 + 1 < w.heap.size + 1 + 1 + 1 by omega)) (show w.heap.size + 1 + 1 < w.heap.size + 1 + 1 + 1 by omega)) (show w.heap.size ≤ w.heap.size + 1 + 1 + 1 by omega))
        exact bodyPost_ret (results_row_tmp rfl _ _ _ _ _ _ _ rfl HX.out.1 Tryd.underlying26 rfl (by kernel_rfl)) rfl ⟨_, by rw [HE2.out]; rfl, by rw [HE2.out]; show MOwn _ _ _ ((l ++ [(q, f, p, d)]).drop 1); rw [rec_nil y1]; exact HM.out, HX.out.2⟩
      · skip
        have HX := Lib.hid (rec_end (cap := cap) (u := .slice ha7 l.length hc7) hx5 rfl ⟨_, _, hx3.res⟩)
        have HM := Lib.hid (own_mono (own_farR (j := 1) (u := .slice ha7 l.length hc7) (own_farR (j := 0) (u := .int .i64 cap) hx4 (show w.heap.size + 1 + 1 < w.heap.size + 1 + 1 + 1 by omega)) (show w.heap.size + 1 + 1 < w.heap.size + 1 + 1 + 1 by omega)) (show w.heap.size ≤ w.heap.size + 1 + 1 + 1 by omega))
        exact bodyPost_ret (results_row_tmp rfl _ _ _ _ _ _ _ rfl HX.out.1 Tryd.underlying26 rfl (by kernel_rfl)) rfl ⟨_, by rw [HE2.out]; rfl, by rw [HE2.out]; show MOwn _ _ _ ((l ++ [(q, f, p, d)]).drop 1); unfold MOwn; rw [List.length_drop, List.length_append]; exact HM.out, HX.out.2⟩
    · have g8 : decide (cap < (l.length : Int) + 1) = false := decide_eq_false hdr
      have HE2 : Hid (R = (cap, l ++ [(q, f, p, d)], true)) := Lib.hid (by rw [HE.out, if_neg hdr])
      go_wp2_with (at_builtin; go_must (refine wpList_append_own _ rfl _ _ 24 rfl (w.heap.size + 1 + 1 + 1) 28 ii (.agg #[.int .i64 0, .int .i64 0, .string ⟨#[]⟩, .int .i64 0]) 4 40 Tryd.underlying24 hi hz0 hz1 hz2 rfl (by decide) (.slice xa l.length xc) l.length (mcells l) rfl (row_below hro ((Below.refl _ _).alloc (Nat.le_refl _) _)) ⟨wa.heap.size, 0, none⟩ 1 1 (mcells [(q, f, p, d)]) rfl rfl (msg_new wa (q, f, p, d) _) (mcells_one _) (by unfold maxLen; omega) (by omega) (by simp; omega) ?_); intro v' w5 hown hgr _; obtain ⟨gy, yc, hyv⟩ := Joins.ownsRow_form hown (by omega); subst hyv; go_must (obtain ⟨hy1, hy2, hy3, hy4, hy5, hy6, z0, z1, z2, z3, z4, z5, z6, z7, z8, z9⟩ := rec_app hro hrg hr2 hrb hgr hown k4 hs2; clear k0 k1 k2 i0 i1 i2 i3 i4))
      have HX := Lib.hid (rec_end (cap := cap) (u := .slice (some ⟨gy, 0, none⟩) (l.length + 1) yc) hy5 rfl ⟨_, _, hy3.res⟩)
      have HM := Lib.hid (own_mono (own_farR (j := 1) (u := .slice (some ⟨gy, 0, none⟩) (l.length + 1) yc) (own_farR (j := 0) (u := .int .i64 cap) hy4 (show w.heap.size + 1 + 1 < w.heap.size + 1 + 1 + 1 by omega)) (show w.heap.size + 1 + 1 < w.heap.size + 1 + 1 + 1 by omega)) (show w.heap.size ≤ w.heap.size + 1 + 1 + 1 by omega))
      exact bodyPost_ret (results_row_tmp rfl _ _ _ _ _ _ _ rfl HX.out.1 Tryd.underlying26 rfl (by kernel_rfl)) rfl ⟨_, by rw [HE2.out]; rfl, by rw [HE2.out]; show MOwn _ _ _ (l ++ [(q, f, p, d)]); unfold MOwn; rw [List.length_append, mcells_app]; exact HM.out, HX.out.2⟩
  obtain ⟨b, o, rfl, hin⟩ : ∃ b o, ua = some ⟨b, o, none⟩ ∧ MsgsIn w b o l := by
    rcases HC.out with h | h
    · subst h; simp at hl0
    · exact h
  have a5 := ((hin.below B3.out) (l.length - 1) (by omega)).1
  have hgd : l.getD (l.length - 1) (0, 0, ⟨#[]⟩, 0) = l[l.length - 1]'(by omega) := by simp [show l.length - 1 < l.length by omega]
  rw [hgd] at hbh
  obtain ⟨y, hy⟩ : ∃ y, (l[l.length - 1]'(by omega)).1 = y := ⟨_, rfl⟩
  rw [hy] at a5 hbh
  have g1 : decide (0 < l.length) = true := decide_eq_true (by omega)
  have g2 : (1 : Int) ≤ (l.length : Int) := by omega
  have g3 : IntKind.i64.wrap ((l.length : Int) - 1) = (l.length : Int) - 1 := by rw [IntKind.wrap_i64]; omega
  have g4 : (0 : Int) ≤ (l.length : Int) - 1 := by omega
  have g5 : (l.length : Int) - 1 < (l.length : Int) := by omega
  have g6 : ((l.length : Int) - 1).toNat = l.length - 1 := by omega
  clear hin hgd hy
  refine wp_region_held_drew (S := fun wx => wx.cell? ⟨w.heap.size + 1, 0, none⟩ = some (.int .i64 q) ∧ wx.cell? ⟨w.heap.size + 1, 1, none⟩ = some (.int .i64 f) ∧ wx.cell? ⟨w.heap.size + 1, 2, none⟩ = some (.string p) ∧ wx.cell? ⟨w.heap.size + 1, 3, none⟩ = some (.int .i64 d) ∧ wx.cell? ⟨w.heap.size, 1, none⟩ = some (.slice (some ⟨b, o, none⟩) l.length uc) ∧ wx.cell? ⟨b, o + (l.length - 1) * 4, none⟩ = some (.int .i64 y) ∧ Hid (Below w3.heap.size w3 wx)) (by kernel_rfl) ?_ (fun hHeld => ?_)
  · exact ⟨a0, a1, a2, a3, a4, a5, HH⟩
  change wpAnyH _ _ _ _ _ 19 #[false, false, false, false, false, false, false, false, false, false, false, false, false, false, false, false, false, false, false] _ _
  clear a0 a1 a2 a3 a4 a5 HH
  refine wpAnyH_take (i := 0) (v := ?_) rfl (by kernel_rfl) (by kernel_rfl) (by kernel_rfl) (fun _ _ _ h => h) (Or.inl ⟨by rfl, ?_⟩) (by assumption) ?_
  rotate_left
  · intro w hSw; (try dsimp only at hSw); go_simp; try with_reducible rfl
  try simp only [Act.put, List.getElem_toArray, List.getElem_cons_succ, List.getElem_cons_zero, List.setIfInBounds_toArray, List.set_cons_zero, List.set_cons_succ]
  refine wpAnyH_ready (rs := [1]) (by kernel_rfl) (by simp) (AllReadyH.cons rfl (fun K hK => ?_) AllReadyH.nil)
  rw [if_pos (by rfl)]
  go_simp; go_at_call 29; refine (CM.out _).mono ?_; rintro e wa ⟨rfl, hb⟩; go_wp2_with fail
  refine hK.out _ _ ?_ (fun hHeld => ?_)
  · exact ⟨(below_cell hb (World.block_lt_of_cell? _ _ hHeld.1)).trans hHeld.1, (below_cell hb (World.block_lt_of_cell? _ _ hHeld.2.1)).trans hHeld.2.1, (below_cell hb (World.block_lt_of_cell? _ _ hHeld.2.2.1)).trans hHeld.2.2.1, (below_cell hb (World.block_lt_of_cell? _ _ hHeld.2.2.2.1)).trans hHeld.2.2.2.1, (below_cell hb (World.block_lt_of_cell? _ _ hHeld.2.2.2.2.1)).trans hHeld.2.2.2.2.1, (below_cell hb (World.block_lt_of_cell? _ _ hHeld.2.2.2.2.2.1)).trans hHeld.2.2.2.2.2.1, Lib.hid (below_end hHeld.2.2.2.2.2.2.out hb)⟩
  clear hK K
  try simp only [Act.put, List.getElem_toArray, List.getElem_cons_succ, List.getElem_cons_zero, List.setIfInBounds_toArray, List.set_cons_zero, List.set_cons_succ]
  refine wpAnyH_take (i := 2) (v := ?_) rfl (by kernel_rfl) (by kernel_rfl) (by kernel_rfl) (fun _ _ _ h => h) (Or.inl ⟨by rfl, ?_⟩) (by assumption) ?_
  rotate_left
  · intro w hSw; (try dsimp only at hSw); go_simp; try with_reducible rfl
  try simp only [Act.put, List.getElem_toArray, List.getElem_cons_succ, List.getElem_cons_zero, List.setIfInBounds_toArray, List.set_cons_zero, List.set_cons_succ]
  refine wpAnyH_take (i := 3) (v := ?_) rfl (by kernel_rfl) (by kernel_rfl) (by kernel_rfl) (fun _ _ _ h => h) (Or.inl ⟨by rfl, ?_⟩) (by assumption) ?_
  rotate_left
  · intro w hSw; (try dsimp only at hSw); go_simp; try with_reducible rfl
  try simp only [Act.put, List.getElem_toArray, List.getElem_cons_succ, List.getElem_cons_zero, List.setIfInBounds_toArray, List.set_cons_zero, List.set_cons_succ]
  refine wpAnyH_take (i := 4) (v := ?_) rfl (by kernel_rfl) (by kernel_rfl) (by kernel_rfl) (fun _ _ _ h => h) (Or.inl ⟨by rfl, ?_⟩) (by assumption) ?_
  rotate_left
  · intro w hSw; (try dsimp only at hSw); go_simp; try with_reducible rfl
  try simp only [Act.put, List.getElem_toArray, List.getElem_cons_succ, List.getElem_cons_zero, List.setIfInBounds_toArray, List.set_cons_zero, List.set_cons_succ]
  refine wpAnyH_take (i := 5) (v := ?_) rfl (by kernel_rfl) (by kernel_rfl) (by kernel_rfl) (fun _ _ _ h => h) (Or.inl ⟨by rfl, ?_⟩) (by assumption) ?_
  rotate_left
  · intro w hSw; (try dsimp only at hSw); go_simp; try with_reducible rfl
  try simp only [Act.put, List.getElem_toArray, List.getElem_cons_succ, List.getElem_cons_zero, List.setIfInBounds_toArray, List.set_cons_zero, List.set_cons_succ]
  refine wpAnyH_take (i := 6) (v := ?_) rfl (by kernel_rfl) (by kernel_rfl) (by kernel_rfl) (fun _ _ _ h => h) (Or.inl ⟨by rfl, ?_⟩) (by assumption) ?_
  rotate_left
  · intro w hSw; (try dsimp only at hSw); go_simp; try with_reducible rfl
  try simp only [Act.put, List.getElem_toArray, List.getElem_cons_succ, List.getElem_cons_zero, List.setIfInBounds_toArray, List.set_cons_zero, List.set_cons_succ]
  refine wpAnyH_take (i := 7) (v := ?_) rfl (by kernel_rfl) (by kernel_rfl) (by kernel_rfl) (fun _ _ _ h => h) (Or.inl ⟨by rfl, ?_⟩) (by assumption) ?_
  rotate_left
  · intro w hSw; (try dsimp only at hSw); go_simp; try with_reducible rfl
  try simp only [Act.put, List.getElem_toArray, List.getElem_cons_succ, List.getElem_cons_zero, List.setIfInBounds_toArray, List.set_cons_zero, List.set_cons_succ]
  refine wpAnyH_take (i := 8) (v := ?_) rfl (by kernel_rfl) (by kernel_rfl) (by kernel_rfl) (fun _ _ _ h => h) (Or.inl ⟨by rfl, ?_⟩) (by assumption) ?_
  rotate_left
  · intro w hSw; (try dsimp only at hSw); go_simp; try with_reducible rfl
  try simp only [Act.put, List.getElem_toArray, List.getElem_cons_succ, List.getElem_cons_zero, List.setIfInBounds_toArray, List.set_cons_zero, List.set_cons_succ]
  refine wpAnyH_take (i := 9) (v := ?_) rfl (by kernel_rfl) (by kernel_rfl) (by kernel_rfl) (fun _ _ _ h => h) (Or.inl ⟨by rfl, ?_⟩) (by assumption) ?_
  rotate_left
  · intro w hSw; (try dsimp only at hSw); go_simp; try with_reducible rfl
  try simp only [Act.put, List.getElem_toArray, List.getElem_cons_succ, List.getElem_cons_zero, List.setIfInBounds_toArray, List.set_cons_zero, List.set_cons_succ]
  refine wpAnyH_take (i := 10) (v := ?_) rfl (by kernel_rfl) (by kernel_rfl) (by kernel_rfl) (fun _ _ _ h => h) (Or.inl ⟨by rfl, ?_⟩) (by assumption) ?_
  rotate_left
  · intro w hSw; (try dsimp only at hSw); go_simp; try with_reducible rfl
  try simp only [Act.put, List.getElem_toArray, List.getElem_cons_succ, List.getElem_cons_zero, List.setIfInBounds_toArray, List.set_cons_zero, List.set_cons_succ]
  refine wpAnyH_take (i := 11) (v := ?_) rfl (by kernel_rfl) (by kernel_rfl) (by kernel_rfl) (fun _ _ _ h => h) (Or.inl ⟨by rfl, ?_⟩) (by assumption) ?_
  rotate_left
  · intro w hSw; (try dsimp only at hSw); go_simp; try with_reducible rfl
  try simp only [Act.put, List.getElem_toArray, List.getElem_cons_succ, List.getElem_cons_zero, List.setIfInBounds_toArray, List.set_cons_zero, List.set_cons_succ]
  refine wpAnyH_take (i := 12) (v := ?_) rfl (by kernel_rfl) (by kernel_rfl) (by kernel_rfl) (fun _ _ _ h => h) (Or.inl ⟨by rfl, ?_⟩) (by assumption) ?_
  rotate_left
  · intro w hSw; (try dsimp only at hSw); go_simp; try with_reducible rfl
  try simp only [Act.put, List.getElem_toArray, List.getElem_cons_succ, List.getElem_cons_zero, List.setIfInBounds_toArray, List.set_cons_zero, List.set_cons_succ]
  refine wpAnyH_take (i := 13) (v := ?_) rfl (by kernel_rfl) (by kernel_rfl) (by kernel_rfl) (fun _ _ _ h => h) (Or.inl ⟨by rfl, ?_⟩) (by assumption) ?_
  rotate_left
  · intro w hSw; (try dsimp only at hSw); go_simp; try with_reducible rfl
  try simp only [Act.put, List.getElem_toArray, List.getElem_cons_succ, List.getElem_cons_zero, List.setIfInBounds_toArray, List.set_cons_zero, List.set_cons_succ]
  refine wpAnyH_take (i := 14) (v := ?_) rfl (by kernel_rfl) (by kernel_rfl) (by kernel_rfl) (fun _ _ _ h => h) (Or.inl ⟨by rfl, ?_⟩) (by assumption) ?_
  rotate_left
  · intro w hSw; (try dsimp only at hSw); go_simp; try with_reducible rfl
  try simp only [Act.put, List.getElem_toArray, List.getElem_cons_succ, List.getElem_cons_zero, List.setIfInBounds_toArray, List.set_cons_zero, List.set_cons_succ]
  refine wpAnyH_take (i := 15) (v := ?_) rfl (by kernel_rfl) (by kernel_rfl) (by kernel_rfl) (fun _ _ _ h => h) (Or.inl ⟨by rfl, ?_⟩) (by assumption) ?_
  rotate_left
  · intro w hSw; (try dsimp only at hSw); go_simp; try with_reducible rfl
  try simp only [Act.put, List.getElem_toArray, List.getElem_cons_succ, List.getElem_cons_zero, List.setIfInBounds_toArray, List.set_cons_zero, List.set_cons_succ]
  refine wpAnyH_take (i := 16) (v := ?_) rfl (by kernel_rfl) (by kernel_rfl) (by kernel_rfl) (fun _ _ _ h => h) (Or.inl ⟨by rfl, ?_⟩) (by assumption) ?_
  rotate_left
  · intro w hSw; (try dsimp only at hSw); go_simp; try with_reducible rfl
  try simp only [Act.put, List.getElem_toArray, List.getElem_cons_succ, List.getElem_cons_zero, List.setIfInBounds_toArray, List.set_cons_zero, List.set_cons_succ]
  refine wpAnyH_take (i := 17) (v := ?_) rfl (by kernel_rfl) (by kernel_rfl) (by kernel_rfl) (fun _ _ _ h => h) (Or.inl ⟨by rfl, ?_⟩) (by assumption) ?_
  rotate_left
  · intro w hSw; (try dsimp only at hSw); go_simp; try with_reducible rfl
  try simp only [Act.put, List.getElem_toArray, List.getElem_cons_succ, List.getElem_cons_zero, List.setIfInBounds_toArray, List.set_cons_zero, List.set_cons_succ]
  refine wpAnyH_take (i := 18) (v := ?_) rfl (by kernel_rfl) (by kernel_rfl) (by kernel_rfl) (fun _ _ _ h => h) (Or.inl ⟨by rfl, ?_⟩) (by assumption) ?_
  rotate_left
  · intro w hSw; (try dsimp only at hSw); go_simp; try with_reducible rfl
  try simp only [Act.put, List.getElem_toArray, List.getElem_cons_succ, List.getElem_cons_zero, List.setIfInBounds_toArray, List.set_cons_zero, List.set_cons_succ]
  refine wpAnyH_done (by kernel_rfl) ?_ _
  by_cases hyq : y < q
  · have g7 : decide (q ≤ y) = false := decide_eq_false (by omega)
    have hbt : behindM l q = true := by rw [hbh, decide_eq_true hyq]; simp
    have HBX := Lib.hid (hHeld.2.2.2.2.2.2.out)
    clear hHeld
    have HE : Hid (R = (cap, if cap < (l.length : Int) + 1 then (l ++ [(q, f, p, d)]).drop 1 else l ++ [(q, f, p, d)], true)) := Lib.hid (by rw [HR.out, hbt]; rfl)
    obtain ⟨k0, k1, k2, i0, i1, i2, i3, i4, k3, k4, hro, hrg, hr2, hrb⟩ := rec_take (x := (q, f, p, d)) H33.out HBX.out B3.out O3.out G3.out hs3 hs2
    by_cases hdr : cap < (l.length : Int) + 1
    · have g8 : decide (cap < (l.length : Int) + 1) = true := decide_eq_true hdr
      have HE2 : Hid (R = (cap, (l ++ [(q, f, p, d)]).drop 1, true)) := Lib.hid (by rw [HE.out, if_pos hdr])
      go_wp2_with (first | (at_builtin; refine wpList_append_own _ rfl _ _ 24 rfl (w.heap.size + 1 + 1 + 1) 28 ii (.agg #[.int .i64 0, .int .i64 0, .string ⟨#[]⟩, .int .i64 0]) 4 40 Tryd.underlying24 hi hz0 hz1 hz2 rfl (by decide) (.slice xa l.length xc) l.length (mcells l) rfl (row_below hro ((Below.refl _ _).alloc (Nat.le_refl _) _)) ⟨wa.heap.size, 0, none⟩ 1 1 (mcells [(q, f, p, d)]) rfl rfl (msg_new wa (q, f, p, d) _) (mcells_one _) (by unfold maxLen; omega) (by omega) (by simp; omega) ?_; intro v' w5 hown hgr _; obtain ⟨gy, yc, hyv⟩ := Joins.ownsRow_form hown (by omega); subst hyv; go_must (obtain ⟨hy1, hy2, hy3, hy4, hy5, hy6, z0, z1, z2, z3, z4, z5, z6, z7, z8, z9⟩ := rec_app hro hrg hr2 hrb hgr hown k4 hs2; have y0 : ((w5.setCell ⟨G, 1, none⟩ (.slice (some ⟨gy, 0, none⟩) (l.length + 1) yc)).alloc (.cells #[] 28)).cell? ⟨G, 1, none⟩ = some (.slice (some ⟨gy, 0, none⟩) (l.length + 1) yc) := (World.cell?_alloc_lt _ _ _ (show G < _ from z9)).trans z2; have y1 : l.length + 1 ≤ yc := own_cap hown; have y2 : (1 : Int) ≤ (l.length : Int) + 1 := (by omega); have hE0 : ((w5.setCell ⟨G, 1, none⟩ (.slice (some ⟨gy, 0, none⟩) (l.length + 1) yc)).alloc (.cells #[] 28)).ownsRow (w.heap.size + 1 + 1 + 1) 28 4 (.slice (some ⟨(w5.setCell ⟨G, 1, none⟩ (.slice (some ⟨gy, 0, none⟩) (l.length + 1) yc)).heap.size, 0, none⟩) 0 0) 0 [] := World.ownsRow_lit _ #[] 0 z8 (by unfold maxLen; omega) rfl; rw [World.size_setCell] at hE0 z8; have hAl : Below _ _ ((w5.setCell ⟨G, 1, none⟩ (.slice (some ⟨gy, 0, none⟩) (l.length + 1) yc)).alloc (.cells #[] 28)) := (Below.refl _ _).alloc (Nat.le_refl _) _; have hEg := (hAl.block _ z9).trans hy6; have hEr := hy3.below hAl; have hEb := hy5.trans (hAl.mono hy5.size); have hEs := Nat.lt_of_lt_of_le z9 hAl.size; clear hAl; have hSrc := rec_src (x := (q, f, p, d)) hy4 (.cells #[] 28); clear k0 k1 k2 i0 i1 i2 i3 i4; have hyc : ¬ yc = 1 := (by omega))) | (at_builtin; go_must (refine wpList_append_own _ rfl _ _ 24 rfl (w.heap.size + 1 + 1 + 1) 28 ii (.agg #[.int .i64 0, .int .i64 0, .string ⟨#[]⟩, .int .i64 0]) 4 40 Tryd.underlying24 hi hz0 hz1 hz2 rfl (by decide) (.slice (some ⟨w5.heap.size, 0, none⟩) 0 0) 0 [] rfl hE0 ⟨gy, 4, none⟩ l.length (yc - 1) (mcells ((l ++ [(q, f, p, d)]).drop 1)) rfl (by rw [mcells_length]; simp) hSrc (mcells_one _) (by unfold maxLen; omega) (by omega) (by simp; omega) ?_); intro v' w7 hown7 hgr7 _; rw [Nat.zero_add, List.nil_append] at hown7; obtain ⟨ha7, hc7, hv7⟩ := own_slice hown7; subst hv7; go_must (obtain ⟨hx1, hx2, hx3, hx4, hx5, hx6, v0, v1, v2, v3, v4, v5, v6, v7, v8, v9⟩ := rec_core hE0 hEg hEr hEb hgr7 hown7 hEs hs2; clear hE0 hEg hEr hEb hEs z0 z1 z2 z3 z4 z5 z6 z7 y0)))
      have HX := Lib.hid (rec_end (cap := cap) (u := .slice ha7 l.length hc7) hx5 rfl ⟨_, _, hx3.res⟩)
      have HM := Lib.hid (own_mono (own_farR (j := 1) (u := .slice ha7 l.length hc7) (own_farR (j := 0) (u := .int .i64 cap) hx4 (show w.heap.size + 1 + 1 < w.heap.size + 1 + 1 + 1 by omega)) (show w.heap.size + 1 + 1 < w.heap.size + 1 + 1 + 1 by omega)) (show w.heap.size ≤ w.heap.size + 1 + 1 + 1 by omega))
      exact bodyPost_ret (results_row_tmp rfl _ _ _ _ _ _ _ rfl HX.out.1 Tryd.underlying26 rfl (by kernel_rfl)) rfl ⟨_, by rw [HE2.out]; rfl, by rw [HE2.out]; show MOwn _ _ _ ((l ++ [(q, f, p, d)]).drop 1); unfold MOwn; rw [List.length_drop, List.length_append]; exact HM.out, HX.out.2⟩
    · have g8 : decide (cap < (l.length : Int) + 1) = false := decide_eq_false hdr
      have HE2 : Hid (R = (cap, l ++ [(q, f, p, d)], true)) := Lib.hid (by rw [HE.out, if_neg hdr])
      go_wp2_with (at_builtin; go_must (refine wpList_append_own _ rfl _ _ 24 rfl (w.heap.size + 1 + 1 + 1) 28 ii (.agg #[.int .i64 0, .int .i64 0, .string ⟨#[]⟩, .int .i64 0]) 4 40 Tryd.underlying24 hi hz0 hz1 hz2 rfl (by decide) (.slice xa l.length xc) l.length (mcells l) rfl (row_below hro ((Below.refl _ _).alloc (Nat.le_refl _) _)) ⟨wa.heap.size, 0, none⟩ 1 1 (mcells [(q, f, p, d)]) rfl rfl (msg_new wa (q, f, p, d) _) (mcells_one _) (by unfold maxLen; omega) (by omega) (by simp; omega) ?_); intro v' w5 hown hgr _; obtain ⟨gy, yc, hyv⟩ := Joins.ownsRow_form hown (by omega); subst hyv; go_must (obtain ⟨hy1, hy2, hy3, hy4, hy5, hy6, z0, z1, z2, z3, z4, z5, z6, z7, z8, z9⟩ := rec_app hro hrg hr2 hrb hgr hown k4 hs2; clear k0 k1 k2 i0 i1 i2 i3 i4))
      have HX := Lib.hid (rec_end (cap := cap) (u := .slice (some ⟨gy, 0, none⟩) (l.length + 1) yc) hy5 rfl ⟨_, _, hy3.res⟩)
      have HM := Lib.hid (own_mono (own_farR (j := 1) (u := .slice (some ⟨gy, 0, none⟩) (l.length + 1) yc) (own_farR (j := 0) (u := .int .i64 cap) hy4 (show w.heap.size + 1 + 1 < w.heap.size + 1 + 1 + 1 by omega)) (show w.heap.size + 1 + 1 < w.heap.size + 1 + 1 + 1 by omega)) (show w.heap.size ≤ w.heap.size + 1 + 1 + 1 by omega))
      exact bodyPost_ret (results_row_tmp rfl _ _ _ _ _ _ _ rfl HX.out.1 Tryd.underlying26 rfl (by kernel_rfl)) rfl ⟨_, by rw [HE2.out]; rfl, by rw [HE2.out]; show MOwn _ _ _ (l ++ [(q, f, p, d)]); unfold MOwn; rw [List.length_append, mcells_app]; exact HM.out, HX.out.2⟩
  · have g7 : decide (q ≤ y) = true := decide_eq_true (by omega)
    have hbt : behindM l q = false := by rw [hbh, decide_eq_false hyq, decide_eq_false hl0]; rfl
    have HBX := Lib.hid (hHeld.2.2.2.2.2.2.out)
    clear hHeld
    have HE : Hid (R = (cap, l, false)) := Lib.hid (by rw [HR.out, hbt]; rfl)
    obtain hrj := rec_reject (x := (q, f, p, d)) H33.out HBX.out B3.out O3.out G3.out hs3 hs2
    obtain ⟨k0, k1, e0, e1, e2, e3, HX1, HX2, HX3⟩ := hrj
    go_wp2
    exact bodyPost_ret (results_row_tmp rfl _ _ _ _ _ _ _ rfl HX1 Tryd.underlying26 rfl (by kernel_rfl)) rfl ⟨_, by rw [HE.out]; rfl, by rw [HE.out]; exact HX3, HX2⟩

end Go.Proofs.YtiholijkijdlmaaDoor
