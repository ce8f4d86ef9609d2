/- Small texts, laid together. -/
import Derived.Test.YtfkikdoecoobgaaDoorZB2
import Derived.Test.YtfkikdoecoobgaaDoorZB1
import Derived.Deep.Cut
import Derived.Deep.CutBlock
import Derived.Lib.Hide
set_option linter.unusedSimpArgs false
set_option linter.unusedVariables false
/- Boxes: how they lie in memory; when they are right; what is offered to them. -/
namespace Go.Proofs.YtfkikdoecoobgaaDoor
open Go.RowKit

structure BoxM where
  cap : Int
  pol : Int
  q : List MsgM
  ofr : Int
  rcv : Int
  drp : Int
  mrg : Int
  shut : Bool

/-- The cells of a box whose queue is the value u. -/
abbrev bcells (b : BoxM) (u : Value) : Array Value := #[.int .i64 b.cap, .int .i64 b.pol, u, .int .i64 b.ofr, .int .i64 b.rcv, .int .i64 b.drp, .int .i64 b.mrg, .bool b.shut]
abbrev bagg (b : BoxM) (u : Value) : Value := .agg #[.int .i64 b.cap, .int .i64 b.pol, u, .int .i64 b.ofr, .int .i64 b.rcv, .int .i64 b.drp, .int .i64 b.mrg, .bool b.shut]
theorem bcells_one (b : BoxM) (a : Option Addr) (n c : Nat) : (bcells b (.slice a n c)).all (·.oneCell') = true := by simp [Value.oneCell']
def zeroBox : BoxM := ⟨0, 0, [], 0, 0, 0, 0, false⟩

/-- Is the box right, its queue's messages aside? -/
def boxN (b : BoxM) : Bool := inB b.cap 1 16 && inB b.pol 1 4 && decide ((b.q.length : Int) ≤ b.cap) && inB b.ofr 0 100000 && inB b.rcv 0 100000 && inB b.drp 0 100000 && inB b.mrg 0 100000
def msgsAll (l : List MsgM) : Bool := l.all msgB
def boxB (b : BoxM) : Bool := boxN b && (msgsAll b.q && decide (b.ofr = b.rcv + b.q.length + b.drp + b.mrg))

/-- Where one of that topic is, of those from k on. -/
def sameAt (l : List MsgM) (t : ByteArray) : Nat → Nat → Option Nat
  | _, 0 => none
  | k, n + 1 => if sameT ((l.getD k (0, 0, ⟨#[]⟩, 0)).2.2.1) t then some k else sameAt l t (k + 1) n
def sameQ (b : BoxM) (t : ByteArray) : Option Nat := if b.pol = 4 then sameAt b.q t 0 b.q.length else none

/-- OfferedTo: the box, the code. -/
def offerM (b : BoxM) (m : MsgM) : BoxM × Int :=
  if boxB b then
    if !(msgB m) || decide (100000 ≤ b.ofr) then (b, 6)
    else if b.shut then (b, 1)
    else match sameQ b m.2.2.1 with
      | some i => ({ b with q := b.q.set i m, ofr := b.ofr + 1, mrg := b.mrg + 1 }, 2)
      | none =>
        if (b.q.length : Int) = b.cap then
          if b.pol = 1 then (b, 3)
          else if b.pol = 3 then ({ b with ofr := b.ofr + 1, drp := b.drp + 1 }, 4)
          else ({ b with q := b.q.drop 1 ++ [m], ofr := b.ofr + 1, drp := b.drp + 1 }, 5)
        else ({ b with q := b.q ++ [m], ofr := b.ofr + 1 }, 0)
  else (zeroBox, 6)

/-- TakenFrom: the box, the message, whether there was one. -/
def takeM (b : BoxM) : BoxM × MsgM × Bool :=
  if boxB b then
    match b.q with
    | [] => (b, (0, 0, ⟨#[]⟩, 0), false)
    | x :: l => ({ b with q := l, rcv := b.rcv + 1 }, x, true)
  else (zeroBox, (0, 0, ⟨#[]⟩, 0), false)

def shutM (b : BoxM) : BoxM := if boxB b then { b with shut := true } else zeroBox
def endB (b : BoxM) : Bool := boxB b && b.shut && b.q.isEmpty

theorem boxB_len {b : BoxM} (h : boxB b = true) : b.q.length ≤ 16 ∧ (b.q.length : Int) ≤ b.cap ∧ ∀ x ∈ b.q, msgB x = true := by
  unfold boxB boxN inB at h
  simp only [Bool.and_eq_true, decide_eq_true_eq] at h
  refine ⟨by omega, by omega, ?_⟩
  have := h.2.1
  unfold msgsAll at this
  rw [List.all_eq_true] at this
  exact this

theorem offerM_len (b : BoxM) (m : MsgM) : (offerM b m).1.q.length ≤ b.q.length + 1 := by
  unfold offerM
  split
  · split
    · simp
    · split
      · simp
      · split
        · simp
        · split
          · split
            · simp
            · split
              · simp
              · simp
          · simp
  · simp [zeroBox]

theorem takeM_len (b : BoxM) : (takeM b).1.q.length ≤ b.q.length := by
  unfold takeM
  split
  · split
    · simp
    · rename_i h; rw [h]; simp
  · simp [zeroBox]

/-! ### Boxed -/

/-- The box lies in block B. -/
def BBox (w : World) (B : Nat) (T : TypeId) (b : BoxM) (u : Value) : Prop := w.heap[B]? = some (.cells (bcells b u) T (0, 0))
theorem BBox.new (w : World) (T : TypeId) (b : BoxM) (u : Value) : BBox (w.alloc (.cells (bcells b u) T)) w.heap.size T b u := heap_alloc_new _ _
theorem BBox.lt {w : World} {B : Nat} {T : TypeId} {b : BoxM} {u : Value} (h : BBox w B T b u) : B < w.heap.size := (Array.getElem?_eq_some_iff.1 h).1
theorem BBox.below {w w' : World} {B : Nat} {T : TypeId} {b : BoxM} {u : Value} (h : BBox w B T b u) (hb : Below w.heap.size w w') : BBox w' B T b u := (hb.block B h.lt).trans h
theorem BBox.grown {w w' : World} {B g : Nat} {T : TypeId} {b : BoxM} {u : Value} (h : BBox w B T b u) (hg : w.grownBy w' (some g)) (hne : B ≠ g) : BBox w' B T b u := (hg.block B h.lt (fun e => hne (by cases e; rfl))).trans h
theorem BBox.cells {w : World} {B : Nat} {T : TypeId} {b : BoxM} {u : Value} (h : BBox w B T b u) :
    w.cell? ⟨B, 0, none⟩ = some (.int .i64 b.cap) ∧ w.cell? ⟨B, 1, none⟩ = some (.int .i64 b.pol) ∧ w.cell? ⟨B, 2, none⟩ = some u ∧ w.cell? ⟨B, 3, none⟩ = some (.int .i64 b.ofr) ∧
    w.cell? ⟨B, 4, none⟩ = some (.int .i64 b.rcv) ∧ w.cell? ⟨B, 5, none⟩ = some (.int .i64 b.drp) ∧ w.cell? ⟨B, 6, none⟩ = some (.int .i64 b.mrg) ∧ w.cell? ⟨B, 7, none⟩ = some (.bool b.shut) :=
  ⟨cell_of_heap h 0, cell_of_heap h 1, cell_of_heap h 2, cell_of_heap h 3, cell_of_heap h 4, cell_of_heap h 5, cell_of_heap h 6, cell_of_heap h 7⟩
theorem BBox.fr {w : World} {B : Nat} {T : TypeId} {b : BoxM} {u : Value} (h : BBox w B T b u) (j : Nat) : w.frozen? ⟨B, j, none⟩ = false := frozen_of_row _ _ _ _ _ h
theorem BBox.off_row {w : World} {B : Nat} {T : TypeId} {b : BoxM} {u : Value} {B0 n : Nat} {v : Value} {xs : List Value} (h : BBox w B T b u) (hT : T ≠ 29) (ho : w.ownsRow B0 29 4 v n xs) : v.ownBlock ≠ some B := by
  rcases ho.2 with ⟨rfl, _⟩ | ⟨g, cap, cur, rfl, _, h3, _⟩
  · intro e; cases e
  · intro e
    have e2 : g = B := by cases e; rfl
    subst e2
    rw [h] at h3
    cases h3
    exact hT rfl

end Go.Proofs.YtfkikdoecoobgaaDoor

/- The walks of the program's copy of a box, and of its counts. -/
namespace Go.Proofs.YtfkikdoecoobgaaDoor
open Go.RowKit

/-- A call's box, and its answer's. -/
structure Two (w wx : World) (b : BoxM) (v : Value) : Prop where
  box : wx.heap[w.heap.size]? = some (.cells (bcells b v) 26 (0, 0))
  res : wx.heap[w.heap.size + 1]? = some (.cells (bcells zeroBox (.slice none 0 0)) 26 (0, 0))
  since : Below w.heap.size w wx
theorem Two.new (w : World) (b : BoxM) (v : Value) : Two w ((w.alloc (.cells (bcells b v) 26)).alloc (.cells (bcells zeroBox (.slice none 0 0)) 26)) b v := by
  have s1 : (w.alloc (.cells (bcells b v) 26)).heap.size = w.heap.size + 1 := by simp
  refine ⟨?_, ?_, ((Below.refl _ _).alloc (Nat.le_refl _) _).alloc (by simp) _⟩
  · rw [Below.heap_alloc _ _ _ (by omega)]; exact heap_alloc_new _ _
  · rw [← s1]; exact heap_alloc_new _ _
theorem Two.lt {w wx : World} {b : BoxM} {v : Value} (h : Two w wx b v) : w.heap.size + 1 < wx.heap.size := (Array.getElem?_eq_some_iff.1 h.res).1
theorem Two.below {w wx wy : World} {b : BoxM} {v : Value} (h : Two w wx b v) (hb : Below wx.heap.size wx wy) : Two w wy b v := by
  have := h.lt
  exact ⟨(hb.block _ (by omega)).trans h.box, (hb.block _ (by omega)).trans h.res, h.since.trans (hb.mono h.since.size)⟩
theorem Two.set {w wx : World} {b : BoxM} {v : Value} (h : Two w wx b v) (j : Nat) (x : Value) (b' : BoxM) (v' : Value) (hc : (bcells b v).setIfInBounds j x = bcells b' v') :
    Two w (wx.setCell ⟨w.heap.size, j, none⟩ x) b' v' := by
  have hg := grown_setCell wx w.heap.size j x
  have hl := h.lt
  refine ⟨by rw [← hc]; exact heap_setCell_same _ _ j _ _ x h.box, (hg.block _ hl (fun e => by injection e with e; omega)).trans h.res, h.since.trans (below_of_grown hg (Nat.le_refl _) h.since.size)⟩
theorem two_end {w wx : World} {b : BoxM} {v : Value} (h : Two w wx b v) (cs : Array Value) :
    (wx.setRow (w.heap.size + 1) cs).heap[w.heap.size + 1]? = some (.cells cs 26 (0, 0)) ∧ Below w.heap.size w (wx.setRow (w.heap.size + 1) cs) :=
  ⟨setRow_heap cs h.res, h.since.trans (below_of_grown (grown_setRow wx (w.heap.size + 1) cs) (by omega) h.since.size)⟩

set_option maxRecDepth 100000 in
set_option maxHeartbeats 1600000 in
theorem ownBox_any (b : BoxM) (v : Value) (w : World) (hl : b.q.length ≤ 2000000) (hv : MsgsAt w v b.q) :
    Calls Tryd.prog 20 #[bagg b v] w fun e w' => ∃ u, e = .returned (bagg b u) ∧ MOwn w' w.heap.size u b.q ∧ Below w.heap.size w w' := by
  have HS := Lib.hid (fun wx (hb : Below w.heap.size w wx) => msgs_srcAt (hv.below hb))
  obtain ⟨ua, uc, rfl, _, _, _⟩ := hv
  obtain ⟨i, hi, hz0, hz1, hz2⟩ := msg_info
  have HL := Lib.hid (mcells_length b.q)
  go_enter Tryd.func20, Tryd.ntmps20
  go_upto_region 1 with (fail)
  have T1 := Two.new w b (.slice ua b.q.length uc)
  change Code.wp _ _ _ _ ((w.alloc (.cells (bcells b (.slice ua b.q.length uc)) 26)).alloc (.cells (bcells zeroBox (.slice none 0 0)) 26))
  generalize ((w.alloc (.cells (bcells b (.slice ua b.q.length uc)) 26)).alloc (.cells (bcells zeroBox (.slice none 0 0)) 26)) = w1 at T1 ⊢
  have x2 : w1.cell? ⟨w.heap.size, 2, none⟩ = some (.slice ua b.q.length uc) := cell_of_heap T1.box 2
  go_upto_region 2 with (at_builtin; refine wpList_append_src rfl _ _ 24 rfl w1.heap.size 29 i (.agg #[.int .i64 0, .int .i64 0, .string ⟨#[]⟩, .int .i64 0]) 4 40 Tryd.underlying24 hi hz0 hz1 hz2 rfl (by decide) (.slice none 0 0) (.slice ua b.q.length uc) 0 b.q.length [] (mcells b.q) rfl (World.ownsRow_nil _ _ _ _) rfl (HS.out _ T1.since) HL.out (mcells_one b.q) (by unfold maxLen; omega) (by omega) (Nat.le_refl _) ?_; intro v' w2 hown hgr _; rw [Nat.zero_add, List.nil_append] at hown; obtain ⟨ra, rc, hv'⟩ := own_slice hown; subst hv'; have T2 := T1.below ((Below.refl w1.heap.size w1).grown hgr (Nat.le_refl _) (fun k h => by cases h)); have HLT := T1.lt; have x3 : w2.cell? ⟨w.heap.size, 2, none⟩ = some (.slice ua b.q.length uc) := cell_of_heap T2.box 2; have f3 : w2.frozen? ⟨w.heap.size, 2, none⟩ = false := frozen_of_row _ _ _ _ _ T2.box; clear T1 x2 hgr)
  have T3 := T2.set 2 (.slice ra b.q.length rc) b (.slice ra b.q.length rc) rfl
  have O3 := own_mono (own_grownN hown (show w.heap.size < w1.heap.size by omega) (grown_setCell w2 w.heap.size 2 (.slice ra b.q.length rc))) (A := w.heap.size + 1 + 1) (by omega)
  generalize w2.setCell ⟨w.heap.size, 2, none⟩ (.slice ra b.q.length rc) = w3 at T3 O3 ⊢
  clear T2 hown HLT x3 f3
  go_wp2_with (first
    | refine wpList_load_row rfl 26 (.tmp 1) rfl w.heap.size rfl 26 (bcells b (.slice ra b.q.length rc)) (0, 0) _ T3.box Tryd.underlying26 rfl (by kernel_rfl) ?_
    | refine wpList_store_rowTo rfl 26 (.tmp 2) (.tmp 7) rfl rfl (w.heap.size + 1) (bcells b (.slice ra b.q.length rc)) rfl rfl 26 _ T3.res (by kernel_rfl) rfl (bcells_one _ _ _ _) ?_)
  have HX := two_end T3 (bcells b (.slice ra b.q.length rc))
  have HO := own_mono (own_grownN O3 (by omega) (grown_setRow w3 (w.heap.size + 1) (bcells b (.slice ra b.q.length rc)))) (A := w.heap.size) (by omega)
  exact bodyPost_ret (results_cell_row rfl _ _ _ _ _ _ _ rfl HX.1 Tryd.underlying26 rfl (by kernel_rfl)) rfl ⟨_, rfl, HO, HX.2⟩

end Go.Proofs.YtfkikdoecoobgaaDoor

/- The walks of the program's small tests of a box, and of its policies. -/
namespace Go.Proofs.YtfkikdoecoobgaaDoor
open Go.RowKit

theorem capOk_any (x : Int) (w : World) :
    Calls Tryd.prog 35 #[.int .i64 x] w fun e w' => e = .returned (.bool (inB x 1 16)) ∧ w = w' := by
  have HB : Hid (inB x 1 16 = (decide (1 ≤ x) && decide (x ≤ 16))) := Lib.hid rfl
  go_enter Tryd.func35, Tryd.ntmps35
  by_cases h1 : 1 ≤ x
  · have g1 : decide (1 ≤ x) = true := decide_eq_true h1
    by_cases h2 : x ≤ 16
    · have g2 : decide (x ≤ 16) = true := decide_eq_true h2
      go_wp2
      go_ret
      exact ⟨ret_bool (by rw [HB.out, g1, g2]; rfl), rfl⟩
    · have g2 : decide (x ≤ 16) = false := decide_eq_false h2
      go_wp2
      go_ret
      exact ⟨ret_bool (by rw [HB.out, g2]; simp), rfl⟩
  · have g1 : decide (1 ≤ x) = false := decide_eq_false h1
    go_wp2
    go_ret
    exact ⟨ret_bool (by rw [HB.out, g1]; rfl), rfl⟩

/-- What stands for a policy. -/
def polV (p : Int) : Value :=
  if p = 1 then .iface 77 (.agg #[]) else if p = 2 then .iface 78 (.agg #[])
  else if p = 3 then .iface 79 (.agg #[]) else if p = 4 then .iface 80 (.agg #[]) else .nilIface

theorem policyOf_any (p : Int) (w : World) :
    Calls Tryd.prog 48 #[.int .i64 p] w fun e w' => e = .returned (polV p) ∧ w = w' := by
  have HP : Hid (polV p = if p = 1 then .iface 77 (.agg #[]) else if p = 2 then .iface 78 (.agg #[])
  else if p = 3 then .iface 79 (.agg #[]) else if p = 4 then .iface 80 (.agg #[]) else .nilIface) := Lib.hid rfl
  generalize polV p = u at HP ⊢
  go_enter Tryd.func48, Tryd.ntmps48
  by_cases h1 : p = 1
  · have HE := Lib.hid (HP.out.trans (if_pos h1))
    have g1 : (p == 1) = true := by simp [h1]
    clear HP h1
    go_wp2
    go_ret
    exact ⟨by rw [HE.out]; rfl, rfl⟩
  have HP1 := Lib.hid (HP.out.trans (if_neg h1))
  have g1 : (p == 1) = false := by simp [h1]
  clear HP h1
  by_cases h2 : p = 2
  · have HE := Lib.hid (HP1.out.trans (if_pos h2))
    have g2 : (p == 2) = true := by simp [h2]
    clear HP1 h2
    go_wp2
    go_ret
    exact ⟨by rw [HE.out]; rfl, rfl⟩
  have HP2 := Lib.hid (HP1.out.trans (if_neg h2))
  have g2 : (p == 2) = false := by simp [h2]
  clear HP1 h2
  by_cases h3 : p = 3
  · have HE := Lib.hid (HP2.out.trans (if_pos h3))
    have g3 : (p == 3) = true := by simp [h3]
    clear HP2 h3
    go_wp2
    go_ret
    exact ⟨by rw [HE.out]; rfl, rfl⟩
  have HP3 := Lib.hid (HP2.out.trans (if_neg h3))
  have g3 : (p == 3) = false := by simp [h3]
  clear HP2 h3
  by_cases h4 : p = 4
  · have HE := Lib.hid (HP3.out.trans (if_pos h4))
    have g4 : (p == 4) = true := by simp [h4]
    clear HP3 h4
    go_wp2
    go_ret
    exact ⟨by rw [HE.out]; rfl, rfl⟩
  · have HE := Lib.hid (HP3.out.trans (if_neg h4))
    have g4 : (p == 4) = false := by simp [h4]
    clear HP3 h4
    go_wp2
    go_ret
    exact ⟨by rw [HE.out]; rfl, rfl⟩

theorem policyOk_any (p : Int) (w : World) :
    Calls Tryd.prog 36 #[.int .i64 p] w fun e w' => e = .returned (.bool (inB p 1 4)) ∧ w = w' := by
  have CP := policyOf_any p w
  by_cases h1 : p = 1
  · subst h1
    rw [show polV 1 = .iface 77 (.agg #[]) from rfl] at CP
    go_enter Tryd.func36, Tryd.ntmps36
    go_wp2_with fail
    refine CP.mono ?_
    rintro e w1 ⟨rfl, rfl⟩
    go_wp2
    go_ret
    exact ⟨rfl, rfl⟩
  by_cases h2 : p = 2
  · subst h2
    rw [show polV 2 = .iface 78 (.agg #[]) from rfl] at CP
    go_enter Tryd.func36, Tryd.ntmps36
    go_wp2_with fail
    refine CP.mono ?_
    rintro e w1 ⟨rfl, rfl⟩
    go_wp2
    go_ret
    exact ⟨rfl, rfl⟩
  by_cases h3 : p = 3
  · subst h3
    rw [show polV 3 = .iface 79 (.agg #[]) from rfl] at CP
    go_enter Tryd.func36, Tryd.ntmps36
    go_wp2_with fail
    refine CP.mono ?_
    rintro e w1 ⟨rfl, rfl⟩
    go_wp2
    go_ret
    exact ⟨rfl, rfl⟩
  by_cases h4 : p = 4
  · subst h4
    rw [show polV 4 = .iface 80 (.agg #[]) from rfl] at CP
    go_enter Tryd.func36, Tryd.ntmps36
    go_wp2_with fail
    refine CP.mono ?_
    rintro e w1 ⟨rfl, rfl⟩
    go_wp2
    go_ret
    exact ⟨rfl, rfl⟩
  · rw [show polV p = .nilIface by unfold polV; rw [if_neg h1, if_neg h2, if_neg h3, if_neg h4]] at CP
    have HB : Hid (inB p 1 4 = false) := Lib.hid (by
      unfold inB
      cases e : (decide (1 ≤ p) && decide (p ≤ 4))
      · rfl
      · simp only [Bool.and_eq_true, decide_eq_true_eq] at e
        omega)
    clear h1 h2 h3 h4
    go_enter Tryd.func36, Tryd.ntmps36
    go_wp2_with fail
    refine CP.mono ?_
    rintro e w1 ⟨rfl, rfl⟩
    go_wp2
    go_ret
    exact ⟨ret_bool HB.out.symm, rfl⟩

end Go.Proofs.YtfkikdoecoobgaaDoor

/- The walk of the program's look at the counts of a box. -/
namespace Go.Proofs.YtfkikdoecoobgaaDoor
open Go.RowKit

/-- The four counts. -/
def cntL (b : BoxM) : List Int := [b.ofr, b.rcv, b.drp, b.mrg]
def cntR (b : BoxM) : Bool := inB b.ofr 0 100000 && inB b.rcv 0 100000 && inB b.drp 0 100000 && inB b.mrg 0 100000
def countsB (b : BoxM) : Bool := cntR b && decide (b.ofr = b.rcv + b.q.length + b.drp + b.mrg)

theorem boxB_parts (b : BoxM) : boxB b = (inB b.cap 1 16 && (inB b.pol 1 4 && ((decide ((b.q.length : Int) ≤ b.cap) && msgsAll b.q) && countsB b))) := by
  unfold boxB boxN countsB cntR
  cases inB b.cap 1 16 <;> cases inB b.pol 1 4 <;> cases decide ((b.q.length : Int) ≤ b.cap) <;> cases inB b.ofr 0 100000 <;> cases inB b.rcv 0 100000 <;> cases inB b.drp 0 100000 <;> cases inB b.mrg 0 100000 <;> cases msgsAll b.q <;> rfl

theorem cntR_all {b : BoxM} (h : ∀ j, j < 4 → inB ((cntL b).getD j 0) 0 100000 = true) : cntR b = true := by
  have h0 := h 0 (by decide)
  have h1 := h 1 (by decide)
  have h2 := h 2 (by decide)
  have h3 := h 3 (by decide)
  simp only [cntL, List.getD_cons_zero, List.getD_cons_succ] at h0 h1 h2 h3
  unfold cntR
  rw [h0, h1, h2, h3]
  rfl

theorem cntR_bad {b : BoxM} {j : Nat} (hj : j < 4) (h : inB ((cntL b).getD j 0) 0 100000 = false) : cntR b = false := by
  unfold cntR
  match j, hj with
  | 0, _ => simp only [cntL, List.getD_cons_zero, List.getD_cons_succ] at h; rw [h]; rfl
  | 1, _ => simp only [cntL, List.getD_cons_zero, List.getD_cons_succ] at h; rw [h]; simp
  | 2, _ => simp only [cntL, List.getD_cons_zero, List.getD_cons_succ] at h; rw [h]; simp
  | 3, _ => simp only [cntL, List.getD_cons_zero, List.getD_cons_succ] at h; rw [h]; simp

theorem cntR_num {b : BoxM} (h : cntR b = true) : 0 ≤ b.ofr ∧ b.ofr ≤ 100000 ∧ 0 ≤ b.rcv ∧ b.rcv ≤ 100000 ∧ 0 ≤ b.drp ∧ b.drp ≤ 100000 ∧ 0 ≤ b.mrg ∧ b.mrg ≤ 100000 := by
  unfold cntR inB at h
  simp only [Bool.and_eq_true, decide_eq_true_eq] at h
  omega

set_option maxRecDepth 100000 in
set_option maxHeartbeats 1600000 in
theorem countsOk_any (b : BoxM) (ua : Option Addr) (uc : Nat) (w : World) (hl : b.q.length ≤ 1048576) :
    Calls Tryd.prog 38 #[bagg b (.slice ua b.q.length uc)] w fun e w' => e = .returned (.bool (countsB b)) ∧ Below w.heap.size w w' := by
  have HC : Hid (countsB b = (cntR b && decide (b.ofr = b.rcv + b.q.length + b.drp + b.mrg))) := Lib.hid rfl
  have HA := Lib.hid (fun h => cntR_all (b := b) h)
  have HBD := Lib.hid (fun j hj h => cntR_bad (b := b) (j := j) hj h)
  have HNUM := Lib.hid (fun h => cntR_num (b := b) h)
  go_enter Tryd.func38, Tryd.ntmps38
  go_upto_region 1 with (fail)
  have s1 : (w.alloc (.cells (bcells b (.slice ua b.q.length uc)) 26)).heap.size = w.heap.size + 1 := by simp
  have b1 : Below w.heap.size w (w.alloc (.cells (bcells b (.slice ua b.q.length uc)) 26)) := (Below.refl _ _).alloc (Nat.le_refl _) _
  have r1 : BBox (w.alloc (.cells (bcells b (.slice ua b.q.length uc)) 26)) w.heap.size 26 b (.slice ua b.q.length uc) := BBox.new _ _ _ _
  generalize w.alloc (.cells (bcells b (.slice ua b.q.length uc)) 26) = w1 at s1 b1 r1 ⊢
  have R1 := Lib.hid r1
  obtain ⟨x0, x1, x2, x3, x4, x5, x6, x7⟩ := r1.cells
  clear r1
  go_upto_block 0 with (fail)
  have s2 : (w1.alloc (.cells #[.int .i64 b.ofr, .int .i64 b.rcv, .int .i64 b.drp, .int .i64 b.mrg] 2)).heap.size = w.heap.size + 1 + 1 := by simp [s1]
  have b2 : Below w.heap.size w (w1.alloc (.cells #[.int .i64 b.ofr, .int .i64 b.rcv, .int .i64 b.drp, .int .i64 b.mrg] 2)) := b1.alloc (by omega) _
  have r2 := R1.out.below ((Below.refl _ w1).alloc (Nat.le_refl _) (.cells #[.int .i64 b.ofr, .int .i64 b.rcv, .int .i64 b.drp, .int .i64 b.mrg] 2))
  have q2 : (w1.alloc (.cells #[.int .i64 b.ofr, .int .i64 b.rcv, .int .i64 b.drp, .int .i64 b.mrg] 2)).heap[w.heap.size + 1]? = some (.cells #[.int .i64 b.ofr, .int .i64 b.rcv, .int .i64 b.drp, .int .i64 b.mrg] 2 (0, 0)) := by rw [← s1]; exact heap_alloc_new _ _
  have HQ : Hid (∀ j, j < 4 → (w1.alloc (.cells #[.int .i64 b.ofr, .int .i64 b.rcv, .int .i64 b.drp, .int .i64 b.mrg] 2)).cell? ⟨w.heap.size + 1, j, none⟩ = some (.int .i64 ((cntL b).getD j 0))) := Lib.hid (fun j hj => by
    match j, hj with
    | 0, _ => exact cell_of_heap q2 0
    | 1, _ => exact cell_of_heap q2 1
    | 2, _ => exact cell_of_heap q2 2
    | 3, _ => exact cell_of_heap q2 3)
  have R2 := Lib.hid r2
  have B2 := Lib.hid b2
  generalize w1.alloc (.cells #[.int .i64 b.ofr, .int .i64 b.rcv, .int .i64 b.drp, .int .i64 b.mrg] 2) = w2 at s2 HQ R2 B2 ⊢
  clear b2 r2 q2 s1 b1 R1 x0 x1 x2 x3 x4 x5 x6 x7
  go_wp2
  go_loopw [15] (fun i wr => ∃ k : Nat, k ≤ 4 ∧ i = .int .i64 k ∧ wr = w2 ∧ Hid (∀ j, j < k → inB ((cntL b).getD j 0) 0 100000 = true)) (fun i _ => 4 - (intOf i).toNat)
  case atStart => exact ⟨0, Nat.zero_le _, rfl, rfl, Lib.hid (fun j hj => absurd hj (Nat.not_lt_zero _))⟩
  case round =>
    obtain ⟨k, hk, rfl, rfl, HT⟩ := hrel
    by_cases hlt : k < 4
    · have c0 := HQ.out k hlt
      have HN : Hid (inB ((cntL b).getD k 0) 0 100000 = true → ∀ j, j < k + 1 → inB ((cntL b).getD j 0) 0 100000 = true) := Lib.hid (fun h j hj => by
        rcases Nat.lt_or_ge j k with h1 | h1
        · exact HT.out j h1
        · have : j = k := by omega
          subst this; exact h)
      have HBK := Lib.hid (HBD.out k hlt)
      have HIN : Hid (inB ((cntL b).getD k 0) 0 100000 = (decide (0 ≤ (cntL b).getD k 0) && decide ((cntL b).getD k 0 ≤ 100000))) := Lib.hid rfl
      generalize inB ((cntL b).getD k 0) 0 100000 = ib at HN HBK HIN
      generalize (cntL b).getD k 0 = z at c0 HIN
      have g0 : decide ((k : Int) < 4) = true := decide_eq_true (by omega)
      clear HT
      by_cases h1 : z < 0
      · have g1 : decide (z < 0) = true := decide_eq_true h1
        have HE := Lib.hid (HBK.out (by rw [HIN.out, decide_eq_false (show ¬ (0 ≤ z) by omega)]; rfl))
        clear h1
        go_wp2
        go_ret
        exact ⟨ret_bool (by rw [HC.out, HE.out]; rfl), B2.out⟩
      have g1 : decide (z < 0) = false := decide_eq_false h1
      by_cases h2 : 100000 < z
      · have g2 : decide (100000 < z) = true := decide_eq_true h2
        have HE := Lib.hid (HBK.out (by rw [HIN.out, decide_eq_false (show ¬ (z ≤ 100000) by omega)]; simp))
        clear h1 h2
        go_wp2
        go_ret
        exact ⟨ret_bool (by rw [HC.out, HE.out]; rfl), B2.out⟩
      have g2 : decide (100000 < z) = false := decide_eq_false h2
      have HO := Lib.hid (HN.out (by rw [HIN.out, decide_eq_true (show 0 ≤ z by omega), decide_eq_true (show z ≤ 100000 by omega)]; rfl))
      clear h1 h2
      go_wp2
      go_roundw
      case rel => exact ⟨k + 1, by omega, by go_num, by trivial, HO⟩
      case measure => simp [intOf]; omega
    · obtain rfl : k = 4 := by omega
      have HE := Lib.hid (HA.out HT.out)
      obtain ⟨n1, n2, n3, n4, n5, n6, n7, n8⟩ := HNUM.out HE.out
      obtain ⟨x0, x1, x2, x3, x4, x5, x6, x7⟩ := R2.out.cells
      have g1 : IntKind.i64.wrap (b.rcv + (b.q.length : Int)) = b.rcv + (b.q.length : Int) := by rw [IntKind.wrap_i64]; omega
      have g2 : IntKind.i64.wrap (b.rcv + (b.q.length : Int) + b.drp) = b.rcv + (b.q.length : Int) + b.drp := by rw [IntKind.wrap_i64]; omega
      have g3 : IntKind.i64.wrap (b.rcv + (b.q.length : Int) + b.drp + b.mrg) = b.rcv + (b.q.length : Int) + b.drp + b.mrg := by rw [IntKind.wrap_i64]; omega
      go_wp2
      go_ret
      exact ⟨ret_bool (by rw [HC.out, HE.out]; rfl), B2.out⟩

end Go.Proofs.YtfkikdoecoobgaaDoor

/- The walks of the program's look at a queue and at the counts. -/
namespace Go.Proofs.YtfkikdoecoobgaaDoor
open Go.RowKit

set_option maxRecDepth 100000 in
set_option maxHeartbeats 1600000 in
theorem containsG_any (u : Value) (l : List MsgM) (pr : MsgM → Bool) (g : Nat) (lb : Array Value) (eg : ∀ args w, (callFunc g args).run Tryd.prog w = .ok (.enter g args) w) (w : World) (hl : l.length ≤ 2000000) (hv : MsgsAt w u l) (hp : PredM g lb pr l w) :
    Calls Tryd.prog 49 #[u, .func (.func g) #[] lb] w fun e w' => e = .returned (.bool (l.any pr)) ∧ Below w.heap.size w w' := by
  have CI := Lib.hid (indexG_any u l pr g lb eg w hl hv hp)
  obtain ⟨ua, uc, rfl, _, _, _⟩ := hv
  clear hp hl
  go_enter Tryd.func49, Tryd.ntmps49
  go_wp2_with fail
  refine CI.out.mono ?_
  rintro e w1 ⟨z, rfl, hz, hb⟩
  have HB := Lib.hid hb
  clear hb CI
  rcases hz with ⟨rfl, hz⟩ | ⟨k, rfl, hk, hp, _⟩
  · have HE : Hid (l.any pr = false) := Lib.hid (by rw [List.any_eq_false]; exact fun x hx => by rw [hz x hx]; decide)
    clear hz
    go_wp2
    go_ret
    exact ⟨ret_bool HE.out.symm, HB.out⟩
  · have HE : Hid (l.any pr = true) := Lib.hid (by rw [List.any_eq_true]; exact ⟨l[k], List.getElem_mem hk, hp⟩)
    have g1 : decide ((0 : Int) ≤ (k : Int)) = true := decide_eq_true (by omega)
    clear hp
    go_wp2
    go_ret
    exact ⟨ret_bool HE.out.symm, HB.out⟩

set_option maxRecDepth 100000 in
set_option maxHeartbeats 1600000 in
theorem queueC_any (x : MsgM) (m : Int) (w : World) (hx : x.2.2.1.size ≤ 1048576) (hm : w.cell? ⟨0, 0, none⟩ = some (.int .i64 m)) :
    Calls Tryd.prog 50 #[magg x] w fun e w' => e = .returned (.bool (!msgB x)) ∧ Below w.heap.size w w' := by
  have CM := Lib.hid (fun w' hm => implMsgOk_any x m w' hx hm)
  generalize msgB x = b at CM ⊢
  have HM := Lib.hid hm
  obtain ⟨q, t, p, d⟩ := x
  have ha : Below w.heap.size w (w.alloc (.cells #[.int .i64 q, .int .i64 t, .string p, .int .i64 d] 29)) := (Below.refl _ _).alloc (Nat.le_refl _) _
  clear hm
  go_enter Tryd.func50, Tryd.ntmps50
  go_wp2_with fail
  refine (CM.out _ ((ha.cell (World.block_lt_of_cell? _ _ HM.out)).trans HM.out)).mono ?_
  rintro e w1 ⟨rfl, hb⟩
  have HE := Lib.hid (below_end ha hb)
  clear ha hb
  go_wp2
  go_ret
  exact ⟨rfl, HE.out⟩

/-- The look at the queue. -/
def queueB (l : List MsgM) (c : Int) : Bool := decide ((l.length : Int) ≤ c) && msgsAll l

set_option maxRecDepth 100000 in
set_option maxHeartbeats 1600000 in
theorem queueOk_any (u : Value) (l : List MsgM) (c : Int) (m : Int) (w : World) (hl : l.length ≤ 1048576) (hs : ∀ x ∈ l, x.2.2.1.size ≤ 1048576) (hv : MsgsAt w u l) (hm : w.cell? ⟨0, 0, none⟩ = some (.int .i64 m)) :
    Calls Tryd.prog 37 #[u, .int .i64 c] w fun e w' => e = .returned (.bool (queueB l c)) ∧ Below w.heap.size w w' := by
  have CC := Lib.hid (containsG_any u l (fun x => !msgB x) 50 #[] (enters_of Tryd.func50 (by kernel_rfl) rfl) w (by omega) hv (fun W x hx hb => queueC_any x m W (hs x hx) ((hb.cell (World.block_lt_of_cell? _ _ hm)).trans hm)))
  have HQ : Hid (queueB l c = (decide ((l.length : Int) ≤ c) && msgsAll l)) := Lib.hid rfl
  have HA : Hid (msgsAll l = !l.any (fun x => !msgB x)) := Lib.hid (by
    unfold msgsAll
    rw [List.not_any_eq_all_not]
    congr 1
    funext x
    simp)
  generalize l.any (fun x => !msgB x) = an at CC HA
  generalize msgsAll l = ma at HA HQ
  obtain ⟨ua, uc, rfl, _, _, _⟩ := hv
  clear hs hm
  go_enter Tryd.func37, Tryd.ntmps37
  by_cases h1 : (l.length : Int) ≤ c
  · have g1 : decide ((l.length : Int) ≤ c) = true := decide_eq_true h1
    go_wp2_with fail
    refine CC.out.mono ?_
    rintro e w1 ⟨rfl, hb⟩
    have HB := Lib.hid hb
    clear hb CC
    go_wp2
    go_ret
    exact ⟨ret_bool (by rw [HQ.out, HA.out, g1]; simp), HB.out⟩
  · have g1 : decide ((l.length : Int) ≤ c) = false := decide_eq_false h1
    go_wp2
    go_ret
    exact ⟨ret_bool (by rw [HQ.out, g1]; rfl), Below.refl _ _⟩

end Go.Proofs.YtfkikdoecoobgaaDoor

/- The walks of impl.BoxOk and impl.NewBox. -/
namespace Go.Proofs.YtfkikdoecoobgaaDoor
open Go.RowKit

set_option maxRecDepth 100000 in
set_option maxHeartbeats 3200000 in
theorem implBoxOk_any (b : BoxM) (v : Value) (m : Int) (w : World) (hl : b.q.length ≤ 1048576) (hs : ∀ x ∈ b.q, x.2.2.1.size ≤ 1048576) (hv : MsgsAt w v b.q) (hm : w.cell? ⟨0, 0, none⟩ = some (.int .i64 m)) :
    Calls Tryd.prog 19 #[bagg b v] w fun e w' => e = .returned (.bool (boxB b)) ∧ Below w.heap.size w w' := by
  have C1 := Lib.hid (fun w' => capOk_any b.cap w')
  have C2 := Lib.hid (fun w' => policyOk_any b.pol w')
  have C3 := Lib.hid (fun w' (h : MsgsAt w' v b.q) hm => queueOk_any v b.q b.cap m w' hl hs h hm)
  have HB := Lib.hid (boxB_parts b)
  have HQ : Hid (queueB b.q b.cap = (decide ((b.q.length : Int) ≤ b.cap) && msgsAll b.q)) := Lib.hid rfl
  have HV := Lib.hid hv
  have HM := Lib.hid hm
  obtain ⟨ua, uc, rfl, _, _, _⟩ := hv
  have C4 := Lib.hid (fun w' => countsOk_any b ua uc w' hl)
  clear hs hm
  rw [← HQ.out] at HB
  generalize inB b.cap 1 16 = p1 at C1 HB
  generalize inB b.pol 1 4 = p2 at C2 HB
  generalize queueB b.q b.cap = p3 at C3 HB
  generalize countsB b = p4 at C4 HB
  generalize boxB b = R at HB ⊢
  go_enter Tryd.func19, Tryd.ntmps19
  go_upto_region 1 with (fail)
  have b0 : Below w.heap.size w (w.alloc (.cells (bcells b (.slice ua b.q.length uc)) 26)) := (Below.refl _ _).alloc (Nat.le_refl _) _
  have r0 : BBox (w.alloc (.cells (bcells b (.slice ua b.q.length uc)) 26)) w.heap.size 26 b (.slice ua b.q.length uc) := BBox.new _ _ _ _
  generalize w.alloc (.cells (bcells b (.slice ua b.q.length uc)) 26) = w0 at b0 r0 ⊢
  have x0 := r0.cells.1
  have x1 := r0.cells.2.1
  have x2 := r0.cells.2.2.1
  go_wp2_with fail
  refine (C1.out _).mono ?_
  rintro e w1 ⟨rfl, hw⟩
  subst hw
  cases p1
  · have HE := Lib.hid (show R = false by rw [HB.out]; rfl)
    clear HB
    go_wp2
    go_ret
    exact ⟨ret_bool HE.out.symm, b0⟩
  go_wp2_with fail
  refine (C2.out _).mono ?_
  rintro e w1 ⟨rfl, hw⟩
  subst hw
  cases p2
  · have HE := Lib.hid (show R = false by rw [HB.out]; rfl)
    clear HB
    go_wp2
    go_ret
    exact ⟨ret_bool HE.out.symm, b0⟩
  go_wp2_with fail
  refine (C3.out _ (HV.out.below b0) ((b0.cell (World.block_lt_of_cell? _ _ HM.out)).trans HM.out)).mono ?_
  rintro e w1 ⟨rfl, hb⟩
  have r1 := r0.below hb
  have b1 := below_end b0 hb
  clear r0 b0 hb x0 x1 x2 C1 C2 C3
  cases p3
  · have HE := Lib.hid (show R = false by rw [HB.out]; rfl)
    clear HB
    go_wp2
    go_ret
    exact ⟨ret_bool HE.out.symm, b1⟩
  have HE := Lib.hid (show R = p4 by rw [HB.out]; simp)
  clear HB
  obtain ⟨x0, x1, x2, x3, x4, x5, x6, x7⟩ := BBox.cells r1
  clear r1
  go_wp2_with fail
  clear x0 x1 x2 x3 x4 x5 x6 x7
  refine (C4.out _).mono ?_
  rintro e w2 ⟨rfl, hb⟩
  have b2 := below_end b1 hb
  clear b1 hb C4
  go_wp2
  go_ret
  exact ⟨ret_bool HE.out.symm, b2⟩

end Go.Proofs.YtfkikdoecoobgaaDoor

/- The laws' look at boxes that are alike. -/
namespace Go.Proofs.YtfkikdoecoobgaaDoor
open Go.RowKit

set_option maxRecDepth 100000 in
set_option maxHeartbeats 800000 in
theorem likeBox_any (b : BoxM) (va vb : Value) (w : World) (hl : b.q.length ≤ 4000000) (ha : MsgsAt w va b.q) (hb : MsgsAt w vb b.q) :
    Calls Tryd.prog 10 #[bagg b va, bagg b vb] w fun e w' => e = .returned (.bool true) ∧ Below w.heap.size w w' := by
  have HA := Lib.hid ha
  have HB := Lib.hid hb
  obtain ⟨ua, uc, rfl, _, _, _⟩ := ha
  obtain ⟨ub, ud, rfl, _, _, _⟩ := hb
  have CE := Lib.hid (fun wx (h1 : MsgsAt wx (.slice ua b.q.length uc) b.q) (h2 : MsgsAt wx (.slice ub b.q.length ud) b.q) => likeMsgs_any _ _ b.q wx hl h1 h2)
  have e1 : (b.cap == b.cap) = true := by simp
  have e2 : (b.pol == b.pol) = true := by simp
  have e3 : (b.ofr == b.ofr) = true := by simp
  have e4 : (b.rcv == b.rcv) = true := by simp
  have e5 : (b.drp == b.drp) = true := by simp
  have e6 : (b.mrg == b.mrg) = true := by simp
  have e7 : (b.shut == b.shut) = true := by simp
  go_enter Tryd.func10, Tryd.ntmps10
  go_upto_region 1 with (fail)
  have s1 : (w.alloc (.cells (bcells b (.slice ua b.q.length uc)) 26)).heap.size = w.heap.size + 1 := by simp
  have b1 : Below w.heap.size w (w.alloc (.cells (bcells b (.slice ua b.q.length uc)) 26)) := (Below.refl _ _).alloc (Nat.le_refl _) _
  have r1 : BBox (w.alloc (.cells (bcells b (.slice ua b.q.length uc)) 26)) w.heap.size 26 b (.slice ua b.q.length uc) := BBox.new _ _ _ _
  generalize w.alloc (.cells (bcells b (.slice ua b.q.length uc)) 26) = w1 at s1 b1 r1 ⊢
  have b2 : Below w.heap.size w (w1.alloc (.cells (bcells b (.slice ub b.q.length ud)) 26)) := b1.alloc (by omega) _
  have r2 : BBox (w1.alloc (.cells (bcells b (.slice ub b.q.length ud)) 26)) (w.heap.size + 1) 26 b (.slice ub b.q.length ud) := by rw [← s1]; exact BBox.new _ _ _ _
  have q2 := r1.below ((Below.refl _ w1).alloc (Nat.le_refl _) (.cells (bcells b (.slice ub b.q.length ud)) 26))
  generalize w1.alloc (.cells (bcells b (.slice ub b.q.length ud)) 26) = w2 at b2 r2 q2 ⊢
  clear s1 b1 r1
  obtain ⟨x0, x1, x2, x3, x4, x5, x6, x7⟩ := q2.cells
  obtain ⟨y0, y1, y2, y3, y4, y5, y6, y7⟩ := r2.cells
  go_wp2_with fail
  refine (CE.out _ (HA.out.below b2) (HB.out.below b2)).mono ?_
  rintro e w3 ⟨rfl, hb⟩
  have HE := Lib.hid (below_end b2 hb)
  have r3 := r2.below hb
  have q3 := q2.below hb
  clear b2 hb r2 q2 x0 x1 x2 x3 x4 x5 x6 x7 y0 y1 y2 y3 y4 y5 y6 y7
  obtain ⟨x0, x1, x2, x3, x4, x5, x6, x7⟩ := q3.cells
  obtain ⟨y0, y1, y2, y3, y4, y5, y6, y7⟩ := r3.cells
  go_wp2
  go_ret
  exact ⟨rfl, HE.out⟩

end Go.Proofs.YtfkikdoecoobgaaDoor

/- A new box: mathematics. -/
namespace Go.Proofs.YtfkikdoecoobgaaDoor
open Go.RowKit

/-- NewBox: the box, whether it is right. -/
def bareBox (cap pol : Int) : BoxM := ⟨cap, pol, [], 0, 0, 0, 0, false⟩
def newB (cap pol : Int) : BoxM × Bool := if boxB (bareBox cap pol) then (bareBox cap pol, true) else (zeroBox, false)

end Go.Proofs.YtfkikdoecoobgaaDoor

/- The walk of the reference's BoxOk. -/
namespace Go.Proofs.YtfkikdoecoobgaaDoor
open Go.RowKit

theorem specCount_any (x : Int) (w : World) :
    Calls Tryd.prog 27 #[.int .i64 x] w fun e w' => e = .returned (.bool (inB x 0 100000)) ∧ w = w' := by
  have C := Lib.hid (fun w' => specIn_any x 0 100000 w')
  go_enter Tryd.func27, Tryd.ntmps27
  go_wp2_with fail
  refine (C.out _).mono ?_
  rintro e w1 ⟨rfl, rfl⟩
  go_wp2
  go_ret
  exact ⟨rfl, rfl⟩

/-- Of a queue, the first k are right. -/
def msgsAllTo (l : List MsgM) (k : Nat) : Bool := msgsAll (l.take k)
theorem msgsAllTo_succ (l : List MsgM) (k : Nat) (h : k < l.length) : msgsAllTo l (k + 1) = (msgsAllTo l k && msgB l[k]) := by
  unfold msgsAllTo msgsAll
  rw [List.take_succ_eq_append_getElem h, List.all_append]
  simp
theorem msgsAllTo_bad {l : List MsgM} {k : Nat} (h : k < l.length) (hb : msgB l[k] = false) : msgsAll l = false := by
  unfold msgsAll
  rw [List.all_eq_false]
  exact ⟨l[k], List.getElem_mem h, by simp [hb]⟩

theorem below_weak {w0 w1 : World} {n : Nat} (h : Below w0.heap.size w0 w1) (_ : n < w0.heap.size) : Below w0.heap.size w0 w1 := h

set_option maxRecDepth 100000 in
set_option maxHeartbeats 1600000 in
theorem specBoxOk_any (b : BoxM) (v : Value) (w : World) (hs : ∀ x ∈ b.q, x.2.2.1.size ≤ 1048576) (hv : MsgsAt w v b.q) :
    Calls Tryd.prog 15 #[bagg b v] w fun e w' => e = .returned (.bool (boxB b)) ∧ Below w.heap.size w w' := by
  have C1 := Lib.hid (fun w' => specIn_any b.cap 1 16 w')
  have C2 := Lib.hid (fun w' => specIn_any b.pol 1 4 w')
  have C4 := Lib.hid (fun w' => specCount_any b.ofr w')
  have C5 := Lib.hid (fun w' => specCount_any b.rcv w')
  have C6 := Lib.hid (fun w' => specCount_any b.drp w')
  have C7 := Lib.hid (fun w' => specCount_any b.mrg w')
  have HN : Hid (boxN b = ((decide (1 ≤ b.cap) && decide (b.cap ≤ 16)) && (decide (1 ≤ b.pol) && decide (b.pol ≤ 4)) && decide ((b.q.length : Int) ≤ b.cap) && inB b.ofr 0 100000 && inB b.rcv 0 100000 && inB b.drp 0 100000 && inB b.mrg 0 100000)) := Lib.hid rfl
  have HNB : Hid (boxN b = true → 0 ≤ b.ofr ∧ b.ofr ≤ 100000 ∧ 0 ≤ b.rcv ∧ b.rcv ≤ 100000 ∧ 0 ≤ b.drp ∧ b.drp ≤ 100000 ∧ 0 ≤ b.mrg ∧ b.mrg ≤ 100000 ∧ b.q.length ≤ 16) := Lib.hid (fun h => by
    unfold boxN inB at h
    simp only [Bool.and_eq_true, decide_eq_true_eq] at h
    omega)
  have HBX : Hid (boxB b = (boxN b && (msgsAll b.q && decide (b.ofr = b.rcv + b.q.length + b.drp + b.mrg)))) := Lib.hid rfl
  have HV := Lib.hid hv
  obtain ⟨ua, uc, rfl, _, _, _⟩ := hv
  have HS := Lib.hid hs
  clear hs
  generalize (decide (1 ≤ b.cap) && decide (b.cap ≤ 16)) = p1 at C1 HN
  generalize (decide (1 ≤ b.pol) && decide (b.pol ≤ 4)) = p2 at C2 HN
  generalize inB b.ofr 0 100000 = p4 at C4 HN
  generalize inB b.rcv 0 100000 = p5 at C5 HN
  generalize inB b.drp 0 100000 = p6 at C6 HN
  generalize inB b.mrg 0 100000 = p7 at C7 HN
  go_enter Tryd.func15, Tryd.ntmps15
  go_upto_region 1 with (fail)
  have b0 : Below w.heap.size w (w.alloc (.cells (bcells b (.slice ua b.q.length uc)) 26)) := (Below.refl _ _).alloc (Nat.le_refl _) _
  have r0 : BBox (w.alloc (.cells (bcells b (.slice ua b.q.length uc)) 26)) w.heap.size 26 b (.slice ua b.q.length uc) := BBox.new _ _ _ _
  have v0 := HV.out.alloc (.cells (bcells b (.slice ua b.q.length uc)) 26)
  generalize w.alloc (.cells (bcells b (.slice ua b.q.length uc)) 26) = w0 at b0 r0 v0 ⊢
  have B0 := Lib.hid b0
  have V0 := Lib.hid v0
  have R0 := Lib.hid r0
  obtain ⟨x0, x1, x2, x3, x4, x5, x6, x7⟩ := r0.cells
  clear b0 v0 r0
  go_wp2_with fail
  refine (C1.out _).mono ?_
  rintro e w1 ⟨rfl, hw⟩
  subst hw
  cases p1
  · have HE := Lib.hid (show boxB b = false by rw [HBX.out, HN.out]; simp)
    go_wp2
    go_ret
    exact ⟨ret_bool HE.out.symm, B0.out⟩
  go_wp2_with fail
  refine (C2.out _).mono ?_
  rintro e w1 ⟨rfl, hw⟩
  subst hw
  cases p2
  · have HE := Lib.hid (show boxB b = false by rw [HBX.out, HN.out]; simp)
    go_wp2
    go_ret
    exact ⟨ret_bool HE.out.symm, B0.out⟩
  by_cases h3 : b.cap < b.q.length
  · have g3 : decide (b.cap < b.q.length) = true := decide_eq_true h3
    have HE := Lib.hid (show boxB b = false by rw [HBX.out, HN.out, decide_eq_false (show ¬ ((b.q.length : Int) ≤ b.cap) by omega)]; simp)
    go_wp2
    go_ret
    exact ⟨ret_bool HE.out.symm, B0.out⟩
  have g3 : decide (b.cap < b.q.length) = false := decide_eq_false h3
  have HN2 := Lib.hid (show boxN b = (p4 && p5 && p6 && p7) by rw [HN.out, decide_eq_true (show (b.q.length : Int) ≤ b.cap by omega)]; simp)
  clear HN
  go_wp2_with fail
  refine (C4.out _).mono ?_
  rintro e w1 ⟨rfl, hw⟩
  subst hw
  cases p4
  · have HE := Lib.hid (show boxB b = false by rw [HBX.out, HN2.out]; simp)
    go_wp2
    go_ret
    exact ⟨ret_bool HE.out.symm, B0.out⟩
  go_wp2_with fail
  refine (C5.out _).mono ?_
  rintro e w1 ⟨rfl, hw⟩
  subst hw
  cases p5
  · have HE := Lib.hid (show boxB b = false by rw [HBX.out, HN2.out]; simp)
    go_wp2
    go_ret
    exact ⟨ret_bool HE.out.symm, B0.out⟩
  go_wp2_with fail
  refine (C6.out _).mono ?_
  rintro e w1 ⟨rfl, hw⟩
  subst hw
  cases p6
  · have HE := Lib.hid (show boxB b = false by rw [HBX.out, HN2.out]; simp)
    go_wp2
    go_ret
    exact ⟨ret_bool HE.out.symm, B0.out⟩
  go_wp2_with fail
  refine (C7.out _).mono ?_
  rintro e w1 ⟨rfl, hw⟩
  subst hw
  cases p7
  · have HE := Lib.hid (show boxB b = false by rw [HBX.out, HN2.out]; simp)
    go_wp2
    go_ret
    exact ⟨ret_bool HE.out.symm, B0.out⟩
  have HNT := Lib.hid (show boxN b = true by rw [HN2.out]; simp)
  clear HN2 C1 C2 C4 C5 C6 C7 g3 h3 x0 x1 x2 x3 x4 x5 x6 x7
  obtain ⟨n1, n2, n3, n4, n5, n6, n7, n8, n9⟩ := HNB.out HNT.out
  clear HNB
  have HBX2 := Lib.hid (show boxB b = (msgsAll b.q && decide (b.ofr = b.rcv + b.q.length + b.drp + b.mrg)) by rw [HBX.out, HNT.out]; simp)
  clear HBX HNT
  go_upto_region 3 with (fail)
  go_wp2
  go_loopw [3] (fun i wr => ∃ k : Nat, k ≤ b.q.length ∧ i = .int .i64 k ∧ Hid (msgsAllTo b.q k = true) ∧ Hid (Below w0.heap.size w0 wr)) (fun i _ => b.q.length - (intOf i).toNat)
  case atStart => exact ⟨0, Nat.zero_le _, rfl, rfl, Lib.hid (Below.refl _ _)⟩
  case round =>
    obtain ⟨k, hk, rfl, HT, HB⟩ := hrel
    have rr := R0.out.below HB.out
    obtain ⟨x0, x1, x2, x3, x4, x5, x6, x7⟩ := rr.cells
    by_cases hlt : k < b.q.length
    · obtain ⟨bb, o, rfl, hin⟩ : ∃ bb o, ua = some ⟨bb, o, none⟩ ∧ MsgsIn w0 bb o b.q := by
        obtain ⟨_, _, he, _, _, h⟩ := V0.out
        cases he
        rcases h with h | h
        · rw [h] at hlt; simp at hlt
        · exact h
      obtain ⟨p0, p1, p2, p3⟩ := (hin.below HB.out) k hlt
      have CM := Lib.hid (fun wx => specMsgOk_any b.q[k] wx (HS.out _ (List.getElem_mem hlt)))
      have HBAD := Lib.hid (fun h => msgsAllTo_bad hlt h)
      have HGO : Hid (msgB b.q[k] = true → msgsAllTo b.q (k + 1) = true) := Lib.hid (fun h => by rw [msgsAllTo_succ b.q k hlt, HT.out, h]; rfl)
      obtain ⟨mb, hmb⟩ : ∃ mb, msgB b.q[k] = mb := ⟨_, rfl⟩
      rw [hmb] at CM HBAD HGO
      obtain ⟨x, hx⟩ : ∃ x, b.q[k] = x := ⟨_, rfl⟩
      rw [hx] at p0 p1 p2 p3 CM
      clear hmb hx hin HT rr
      go_wp2_with fail
      refine (CM.out _).mono ?_
      rintro e wa ⟨rfl, hb⟩
      have HB2 := Lib.hid (below_end HB.out hb)
      clear hb p0 p1 p2 p3 x0 x1 x2 x3 x4 x5 x6 x7
      cases mb
      · have HE := Lib.hid (show boxB b = false by rw [HBX2.out, HBAD.out rfl]; rfl)
        go_wp2
        go_ret
        exact ⟨ret_bool HE.out.symm, below_end B0.out (below_weak HB2.out R0.out.lt)⟩
      · have HN := Lib.hid (HGO.out rfl)
        go_wp2
        go_roundw
        case rel => exact ⟨k + 1, by omega, by go_num, HN, HB2⟩
        case measure => simp [intOf]; omega
    · obtain rfl : k = b.q.length := by omega
      have HE := Lib.hid (show boxB b = decide (b.ofr = b.rcv + b.q.length + b.drp + b.mrg) by rw [HBX2.out, show msgsAll b.q = true by have := HT.out; unfold msgsAllTo at this; rwa [List.take_length] at this]; simp)
      have g1 : IntKind.i64.wrap (b.rcv + (b.q.length : Int)) = b.rcv + (b.q.length : Int) := by rw [IntKind.wrap_i64]; omega
      have g2 : IntKind.i64.wrap (b.rcv + (b.q.length : Int) + b.drp) = b.rcv + (b.q.length : Int) + b.drp := by rw [IntKind.wrap_i64]; omega
      have g3 : IntKind.i64.wrap (b.rcv + (b.q.length : Int) + b.drp + b.mrg) = b.rcv + (b.q.length : Int) + b.drp + b.mrg := by rw [IntKind.wrap_i64]; omega
      go_wp2
      go_ret
      exact ⟨ret_bool (by rw [HE.out]; rfl), below_end B0.out (below_weak HB.out R0.out.lt)⟩

end Go.Proofs.YtfkikdoecoobgaaDoor

/- The walks of the reference's copy of a box. -/
namespace Go.Proofs.YtfkikdoecoobgaaDoor
open Go.RowKit

set_option maxRecDepth 100000 in
set_option maxHeartbeats 800000 in
theorem specCopyB_any (b : BoxM) (v : Value) (w : World) (hl : b.q.length ≤ 2000000) (hv : MsgsAt w v b.q) :
    Calls Tryd.prog 22 #[bagg b v] w fun e w' => ∃ u, e = .returned (bagg b u) ∧ MOwn w' w.heap.size u b.q ∧ Below w.heap.size w w' := by
  have CT := Lib.hid (fun wx (h : MsgsAt wx v b.q) => specCopyM_any v b.q wx hl h)
  have HV := Lib.hid hv
  obtain ⟨ua, uc, rfl, _, _, _⟩ := hv
  clear hl
  go_enter Tryd.func22, Tryd.ntmps22
  go_upto_region 1 with (fail)
  have s1 : (w.alloc (.cells (bcells b (.slice ua b.q.length uc)) 26)).heap.size = w.heap.size + 1 := by simp
  have b1 : Below w.heap.size w (w.alloc (.cells (bcells b (.slice ua b.q.length uc)) 26)) := (Below.refl _ _).alloc (Nat.le_refl _) _
  have r1 : BBox (w.alloc (.cells (bcells b (.slice ua b.q.length uc)) 26)) w.heap.size 26 b (.slice ua b.q.length uc) := BBox.new _ _ _ _
  generalize w.alloc (.cells (bcells b (.slice ua b.q.length uc)) 26) = w1 at s1 b1 r1 ⊢
  have s2 : (w1.alloc (.cells (bcells zeroBox (.slice none 0 0)) 26)).heap.size = w.heap.size + 1 + 1 := by simp [s1]
  have b2 : Below w.heap.size w (w1.alloc (.cells (bcells zeroBox (.slice none 0 0)) 26)) := b1.alloc (by omega) _
  have r2 : BBox (w1.alloc (.cells (bcells zeroBox (.slice none 0 0)) 26)) (w.heap.size + 1) 26 zeroBox (.slice none 0 0) := by rw [← s1]; exact BBox.new _ _ _ _
  have q2 := r1.below ((Below.refl _ w1).alloc (Nat.le_refl _) (.cells (bcells zeroBox (.slice none 0 0)) 26))
  change Code.wp _ _ _ _ (w1.alloc (.cells (bcells zeroBox (.slice none 0 0)) 26))
  generalize w1.alloc (.cells (bcells zeroBox (.slice none 0 0)) 26) = w2 at s2 b2 r2 q2 ⊢
  clear s1 b1 r1
  have x2 := q2.cells.2.2.1
  go_wp2_with fail
  refine (CT.out _ (HV.out.below b2)).mono ?_
  rintro e w3 ⟨u, rfl, ho, hb⟩
  obtain ⟨xa, xc, hu⟩ := own_slice ho
  subst hu
  have q3 : w3.heap[w.heap.size]? = some (.cells (bcells b (.slice ua b.q.length uc)) 26 (0, 0)) := q2.below hb
  have r3 := r2.below hb
  have fr := frozen_of_row w3 w.heap.size 2 _ _ q3
  have x3 : w3.cell? ⟨w.heap.size, 2, none⟩ = some (.slice ua b.q.length uc) := cell_of_heap q3 2
  have b3 : Below w.heap.size w w3 := b2.trans (hb.mono (by omega))
  go_upto_region 2 with (fail)
  have q4 := heap_setCell_same _ _ 2 _ _ (.slice xa b.q.length xc) q3
  have g4 := grown_setCell w3 w.heap.size 2 (.slice xa b.q.length xc)
  have r4 := r3.grown g4 (by omega)
  have o4 := own_grownN ho (by omega) g4
  have b4 := b3.trans (below_of_grown g4 (Nat.le_refl _) b3.size)
  generalize w3.setCell ⟨w.heap.size, 2, none⟩ (.slice xa b.q.length xc) = w4 at q4 g4 r4 o4 b4 ⊢
  clear q3 r3 fr x3 b3 g4 x2 q2 r2 b2 hb ho
  go_wp2_with (first
    | refine wpList_load_row rfl 26 (.tmp 1) rfl w.heap.size rfl 26 (bcells b (.slice xa b.q.length xc)) (0, 0) _ q4 Tryd.underlying26 rfl (by kernel_rfl) ?_
    | refine wpList_store_rowTo rfl 26 (.tmp 2) (.tmp 7) rfl rfl (w.heap.size + 1) (bcells b (.slice xa b.q.length xc)) rfl rfl 26 _ r4 (by kernel_rfl) rfl (bcells_one _ _ _ _) ?_)
  have G := grown_setRow w4 (w.heap.size + 1) (bcells b (.slice xa b.q.length xc))
  have HR := setRow_heap (bcells b (.slice xa b.q.length xc)) r4
  have HO := own_mono (own_grownN o4 (by omega) G) (A := w.heap.size) (by omega)
  have HB := b4.trans (below_of_grown (n := w.heap.size) G (by omega) b4.size)
  refine bodyPost_ret (results_cell_row rfl _ _ _ _ _ _ _ rfl HR Tryd.underlying26 rfl (by kernel_rfl)) rfl ⟨_, rfl, HO, HB⟩

end Go.Proofs.YtfkikdoecoobgaaDoor

/- Where one of that topic is: mathematics. -/
namespace Go.Proofs.YtfkikdoecoobgaaDoor
open Go.RowKit

/-- Where one of that topic is, as the program tells. -/
def sameN (b : BoxM) (t : ByteArray) : Int := match sameQ b t with | some i => (i : Int) | none => -1

/-- None of that topic ahead of k. -/
def noneQTo (l : List MsgM) (t : ByteArray) (k : Nat) : Bool := (l.take k).all (fun x => !(sameT x.2.2.1 t))
theorem noneQTo_succ (l : List MsgM) (t : ByteArray) (k : Nat) (h : k < l.length) : noneQTo l t (k + 1) = (noneQTo l t k && !(sameT l[k].2.2.1 t)) := by
  unfold noneQTo
  rw [List.take_succ_eq_append_getElem h, List.all_append]
  simp
theorem sameAt_none {l : List MsgM} {t : ByteArray} : ∀ (n k : Nat), k + n ≤ l.length → (∀ j, k ≤ j → j < k + n → ∀ h : j < l.length, sameT l[j].2.2.1 t = false) → sameAt l t k n = none
  | 0, _, _, _ => rfl
  | n + 1, k, hk, h => by
    have hlt : k < l.length := by omega
    have h1 := h k (Nat.le_refl _) (by omega) hlt
    unfold sameAt
    rw [List.getD_eq_getElem?_getD, List.getElem?_eq_getElem hlt, Option.getD_some, h1]
    exact sameAt_none n (k + 1) (by omega) (fun j h2 h3 h4 => h j (by omega) (by omega) h4)
theorem sameAt_some {l : List MsgM} {t : ByteArray} {i : Nat} (hi : i < l.length) (hs : sameT l[i].2.2.1 t = true) : ∀ (n k : Nat), k ≤ i → i < k + n → (∀ j, k ≤ j → j < i → ∀ h : j < l.length, sameT l[j].2.2.1 t = false) → sameAt l t k n = some i
  | 0, k, h1, h2, _ => by omega
  | n + 1, k, h1, h2, h => by
    have hlt : k < l.length := by omega
    unfold sameAt
    rw [List.getD_eq_getElem?_getD, List.getElem?_eq_getElem hlt, Option.getD_some]
    by_cases hk : k = i
    · subst hk; rw [hs]; rfl
    · rw [h k (Nat.le_refl _) (by omega) hlt]
      exact sameAt_some hi hs n (k + 1) (by omega) (by omega) (fun j h3 h4 h5 => h j (by omega) h4 h5)
theorem sameAt_lt {l : List MsgM} {t : ByteArray} : ∀ (n k : Nat) {i : Nat}, sameAt l t k n = some i → i < k + n
  | 0, _, _, h => by unfold sameAt at h; cases h
  | n + 1, k, i, h => by
    unfold sameAt at h
    split at h
    · cases h; omega
    · have := sameAt_lt n (k + 1) h; omega
theorem sameQ_lt {b : BoxM} {t : ByteArray} {i : Nat} (h : sameQ b t = some i) : i < b.q.length := by
  unfold sameQ at h
  split at h
  · have := sameAt_lt _ _ h; omega
  · cases h
theorem noneQTo_each {l : List MsgM} {t : ByteArray} {k : Nat} (h : noneQTo l t k = true) (j : Nat) (hj : j < k) (hl : j < l.length) : sameT l[j].2.2.1 t = false := by
  unfold noneQTo at h
  rw [List.all_eq_true] at h
  have := h l[j] (List.mem_take_iff_getElem.2 ⟨j, by omega, rfl⟩)
  simpa using this
theorem sameN_four {b : BoxM} {t : ByteArray} (h : b.pol ≠ 4) : sameN b t = -1 := by
  unfold sameN sameQ; rw [if_neg h]
theorem sameN_none {b : BoxM} {t : ByteArray} (h : noneQTo b.q t b.q.length = true) : sameN b t = -1 := by
  unfold sameN sameQ
  split
  · rename_i i hi
    by_cases hp : b.pol = 4
    · rw [if_pos hp, sameAt_none b.q.length 0 (by omega) (fun j _ h2 h3 => noneQTo_each h j h3 h3)] at hi; cases hi
    · rw [if_neg hp] at hi; cases hi
  · rfl
theorem sameN_some {b : BoxM} {t : ByteArray} {k : Nat} (hp : b.pol = 4) (hk : k < b.q.length) (h : noneQTo b.q t k = true) (hs : sameT b.q[k].2.2.1 t = true) : sameN b t = (k : Int) := by
  unfold sameN sameQ
  rw [if_pos hp, sameAt_some hk hs b.q.length 0 (Nat.zero_le _) (by omega) (fun j _ h3 h4 => noneQTo_each h j h3 h4)]

end Go.Proofs.YtfkikdoecoobgaaDoor

/- The walk of the reference's look for one of that topic. -/
namespace Go.Proofs.YtfkikdoecoobgaaDoor
open Go.RowKit

set_option maxRecDepth 100000 in
set_option maxHeartbeats 1600000 in
theorem specSame_any (b : BoxM) (v : Value) (t : ByteArray) (w : World) (hl : b.q.length ≤ 2000000) (hv : MsgsAt w v b.q) :
    Calls Tryd.prog 29 #[bagg b v, .string t] w fun e w' => e = .returned (.int .i64 (sameN b t)) ∧ Below w.heap.size w w' := by
  have HV := Lib.hid hv
  obtain ⟨ua, uc, rfl, _, _, _⟩ := hv
  go_enter Tryd.func29, Tryd.ntmps29
  go_upto_region 1 with (fail)
  have b0 : Below w.heap.size w (w.alloc (.cells (bcells b (.slice ua b.q.length uc)) 26)) := (Below.refl _ _).alloc (Nat.le_refl _) _
  have r0 : BBox (w.alloc (.cells (bcells b (.slice ua b.q.length uc)) 26)) w.heap.size 26 b (.slice ua b.q.length uc) := BBox.new _ _ _ _
  have v0 := HV.out.alloc (.cells (bcells b (.slice ua b.q.length uc)) 26)
  generalize w.alloc (.cells (bcells b (.slice ua b.q.length uc)) 26) = w0 at b0 r0 v0 ⊢
  have B0 := Lib.hid b0
  obtain ⟨x0, x1, x2, x3, x4, x5, x6, x7⟩ := r0.cells
  clear b0 HV r0
  go_wp2
  go_loopw [5] (fun i wr => ∃ k : Nat, k ≤ b.q.length ∧ i = .int .i64 k ∧ Hid (noneQTo b.q t k = true) ∧ w0 = wr) (fun i _ => b.q.length - (intOf i).toNat)
  case atStart => exact ⟨0, Nat.zero_le _, rfl, rfl, rfl⟩
  case round =>
    obtain ⟨k, hk, rfl, HT, rfl⟩ := hrel
    by_cases hlt : k < b.q.length
    · have g0 : decide (k < b.q.length) = true := decide_eq_true hlt
      by_cases hp : b.pol = 4
      · have g1 : decide (b.pol = 4) = true := decide_eq_true hp
        obtain ⟨bb, o, rfl, hin⟩ : ∃ bb o, ua = some ⟨bb, o, none⟩ ∧ MsgsIn w0 bb o b.q := by
          obtain ⟨_, _, he, _, _, h⟩ := v0
          cases he
          rcases h with h | h
          · rw [h] at hlt; simp at hlt
          · exact h
        obtain ⟨p0, p1, p2, p3⟩ := hin k hlt
        have HYES := Lib.hid (fun hs => sameN_some hp hlt HT.out (t := t) hs)
        have HGO : Hid (sameT b.q[k].2.2.1 t = false → noneQTo b.q t (k + 1) = true) := Lib.hid (fun h => by rw [noneQTo_succ b.q t k hlt, HT.out, h]; rfl)
        obtain ⟨st, hst⟩ : ∃ st, sameT b.q[k].2.2.1 t = st := ⟨_, rfl⟩
        rw [hst] at HYES HGO
        obtain ⟨x, hx⟩ : ∃ x, b.q[k] = x := ⟨_, rfl⟩
        have g2 : (x.2.2.1.toList == t.toList) = st := by rw [← hst, hx]; rfl
        rw [hx] at p0 p1 p2 p3
        clear hst hx hin HT
        cases st
        · have HN := Lib.hid (HGO.out rfl)
          go_wp2
          go_roundw
          case rel => exact ⟨k + 1, by omega, by go_num, HN, trivial⟩
          case measure => simp [intOf]; omega
        · have HE := Lib.hid (HYES.out rfl)
          go_wp2
          go_ret
          exact ⟨by rw [HE.out]; rfl, B0.out⟩
      · have g1 : decide (b.pol = 4) = false := decide_eq_false hp
        have HE := Lib.hid (sameN_four (t := t) hp)
        go_wp2
        go_ret
        exact ⟨by first | (rw [HE.out]; rfl) | rw [HE.out], B0.out⟩
    · obtain rfl : k = b.q.length := by omega
      have g0 : decide (b.q.length < b.q.length) = false := decide_eq_false (by omega)
      have HE := Lib.hid (sameN_none (t := t) HT.out)
      go_wp2
      go_ret
      exact ⟨by first | (rw [HE.out]; rfl) | rw [HE.out], B0.out⟩

end Go.Proofs.YtfkikdoecoobgaaDoor

/- The walk of the reference's EndOf. -/
namespace Go.Proofs.YtfkikdoecoobgaaDoor
open Go.RowKit

set_option maxRecDepth 100000 in
set_option maxHeartbeats 1600000 in
theorem specEnd_any (b : BoxM) (v : Value) (w : World) (hs : ∀ x ∈ b.q, x.2.2.1.size ≤ 1048576) (hv : MsgsAt w v b.q) :
    Calls Tryd.prog 14 #[bagg b v] w fun e w' => e = .returned (.bool (endB b)) ∧ Below w.heap.size w w' := by
  have CB := Lib.hid (fun wx (h : MsgsAt wx v b.q) => specBoxOk_any b v wx hs h)
  have HR0 : Hid (endB b = (boxB b && b.shut && b.q.isEmpty)) := Lib.hid rfl
  have HV := Lib.hid hv
  obtain ⟨ua, uc, rfl, _, _, _⟩ := hv
  clear hs
  obtain ⟨b1, hb1⟩ : ∃ x, boxB b = x := ⟨_, rfl⟩
  obtain ⟨RR, hRR⟩ : ∃ x, endB b = x := ⟨_, rfl⟩
  rw [hb1] at CB HR0
  rw [hRR] at HR0 ⊢
  clear hb1 hRR
  go_enter Tryd.func14, Tryd.ntmps14
  go_upto_region 1 with (fail)
  have b1 : Below w.heap.size w (w.alloc (.cells (bcells b (.slice ua b.q.length uc)) 26)) := (Below.refl _ _).alloc (Nat.le_refl _) _
  have r1 : BBox (w.alloc (.cells (bcells b (.slice ua b.q.length uc)) 26)) w.heap.size 26 b (.slice ua b.q.length uc) := BBox.new _ _ _ _
  generalize w.alloc (.cells (bcells b (.slice ua b.q.length uc)) 26) = w1 at b1 r1 ⊢
  go_wp2_with (first | refine wpList_load_row rfl 26 (.tmp 1) rfl w.heap.size rfl 26 (bcells b (.slice ua b.q.length uc)) (0, 0) _ r1 Tryd.underlying26 rfl (by kernel_rfl) ?_)
  refine (CB.out _ (HV.out.below b1)).mono ?_
  rintro e w3 ⟨rfl, hb⟩
  have r3 := r1.below hb
  have B3 := Lib.hid (below_end b1 hb)
  have x2 := r3.cells.2.2.1
  have x7 := r3.cells.2.2.2.2.2.2.2
  clear b1 r1 hb r3
  cases b1
  · have HE := Lib.hid (show RR = false by rw [HR0.out]; rfl)
    go_wp2
    go_ret
    exact ⟨ret_bool HE.out.symm, B3.out⟩
  by_cases hsh : b.shut = true
  · rw [hsh] at x7 HR0
    by_cases hq : b.q.length = 0
    · have g1 : (b.q.length == 0) = true := by simpa using hq
      have HE := Lib.hid (show RR = true by rw [HR0.out, List.length_eq_zero_iff.1 hq]; rfl)
      have HQ := Lib.hid hq
      clear hq
      go_wp2
      go_ret
      exact ⟨ret_bool (by rw [HE.out]; simpa using HQ.out), B3.out⟩
    · have g1 : (b.q.length == 0) = false := by simpa using hq
      have HE := Lib.hid (show RR = false by rw [HR0.out]; cases h : b.q with | nil => rw [h] at hq; simp at hq | cons _ _ => rfl)
      have HQ := Lib.hid hq
      clear hq
      go_wp2
      go_ret
      exact ⟨ret_bool (by rw [HE.out]; simpa using HQ.out), B3.out⟩
  · have hsf : b.shut = false := by simpa using hsh
    rw [hsf] at x7 HR0
    have HE := Lib.hid (show RR = false by rw [HR0.out]; rfl)
    clear hsf hsh
    go_wp2
    go_ret
    exact ⟨ret_bool (by rw [HE.out]), B3.out⟩

end Go.Proofs.YtfkikdoecoobgaaDoor

/- The walk of the reference's NewBox. -/
namespace Go.Proofs.YtfkikdoecoobgaaDoor
open Go.RowKit

set_option maxRecDepth 100000 in
set_option maxHeartbeats 800000 in
theorem specNewBox_any (cap pol : Int) (w : World) :
    Calls Tryd.prog 42 #[.int .i64 cap, .int .i64 pol] w fun e w' => e = .returned (.tuple #[bagg (newB cap pol).1 (.slice none 0 0), .bool (newB cap pol).2]) ∧ Below w.heap.size w w' := by
  have CB := Lib.hid (fun wx => specBoxOk_any (bareBox cap pol) (.slice none 0 0) wx (by simp [bareBox]) ⟨none, 0, rfl, by simp [bareBox], by unfold maxLen; omega, Or.inl rfl⟩)
  have HN : Hid (newB cap pol = if boxB (bareBox cap pol) then (bareBox cap pol, true) else (zeroBox, false)) := Lib.hid rfl
  generalize newB cap pol = nb at HN ⊢
  generalize boxB (bareBox cap pol) = ok at CB HN
  go_enter Tryd.func42, Tryd.ntmps42
  go_upto_region 1 with (fail)
  have s1 : (w.alloc (.cells (bcells zeroBox (.slice none 0 0)) 26)).heap.size = w.heap.size + 1 := by simp
  have b1 : Below w.heap.size w (w.alloc (.cells (bcells zeroBox (.slice none 0 0)) 26)) := (Below.refl _ _).alloc (Nat.le_refl _) _
  have r1 : BBox (w.alloc (.cells (bcells zeroBox (.slice none 0 0)) 26)) w.heap.size 26 zeroBox (.slice none 0 0) := BBox.new _ _ _ _
  change Code.wp _ _ _ _ (w.alloc (.cells (bcells zeroBox (.slice none 0 0)) 26))
  generalize w.alloc (.cells (bcells zeroBox (.slice none 0 0)) 26) = w1 at s1 b1 r1 ⊢
  go_upto_region 2 with (fail)
  have s2 : (w1.alloc (.cells (bcells (bareBox cap pol) (.slice none 0 0)) 26)).heap.size = w.heap.size + 1 + 1 := by simp [s1]
  have b2 : Below w.heap.size w (w1.alloc (.cells (bcells (bareBox cap pol) (.slice none 0 0)) 26)) := b1.alloc (by omega) _
  have q2 : (w1.alloc (.cells (bcells (bareBox cap pol) (.slice none 0 0)) 26)).heap[w.heap.size + 1]? = some (.cells (bcells (bareBox cap pol) (.slice none 0 0)) 26 (0, 0)) := by rw [← s1]; exact heap_alloc_new _ _
  have r2 := r1.below ((Below.refl _ w1).alloc (Nat.le_refl _) (.cells (bcells (bareBox cap pol) (.slice none 0 0)) 26))
  change Code.wp _ _ _ _ (w1.alloc (.cells (bcells (bareBox cap pol) (.slice none 0 0)) 26))
  generalize w1.alloc (.cells (bcells (bareBox cap pol) (.slice none 0 0)) 26) = w2 at s2 b2 r2 q2 ⊢
  clear s1 b1 r1
  go_wp2_with (first
    | refine wpList_load_row rfl 26 (.tmp 6) rfl (w.heap.size + 1) rfl 26 (bcells (bareBox cap pol) (.slice none 0 0)) (0, 0) _ q2 Tryd.underlying26 rfl (by kernel_rfl) ?_)
  refine (CB.out _).mono ?_
  rintro e w3 ⟨rfl, hb⟩
  have q3 := (hb.block _ (by omega)).trans q2
  have r3 := r2.below hb
  have b3 : Below w.heap.size w w3 := b2.trans (hb.mono (by omega))
  clear s2 b2 r2 q2 hb
  cases ok
  · have HE := Lib.hid (show nb = (zeroBox, false) by rw [HN.out]; rfl)
    go_wp2_with (first
      | refine wpList_store_rowTo rfl 26 (.tmp 4) (.tmp 13) rfl rfl w.heap.size (bcells zeroBox (.slice none 0 0)) rfl rfl 26 _ r3 (by kernel_rfl) rfl (bcells_one _ _ _ _) ?_)
    have G := grown_setRow w3 w.heap.size (bcells zeroBox (.slice none 0 0))
    have HR := setRow_heap (bcells zeroBox (.slice none 0 0)) r3
    have HB := b3.trans (below_of_grown (n := w.heap.size) G (Nat.le_refl _) b3.size)
    refine bodyPost_ret (results_row_tmp rfl _ _ _ _ _ _ _ rfl HR Tryd.underlying26 rfl (by kernel_rfl)) rfl ⟨by rw [HE.out]; rfl, HB⟩
  · have HE := Lib.hid (show nb = (bareBox cap pol, true) by rw [HN.out]; rfl)
    go_wp2_with (first
      | refine wpList_load_row rfl 26 (.tmp 6) rfl (w.heap.size + 1) rfl 26 (bcells (bareBox cap pol) (.slice none 0 0)) (0, 0) _ q3 Tryd.underlying26 rfl (by kernel_rfl) ?_
      | refine wpList_store_rowTo rfl 26 (.tmp 4) (.tmp 14) rfl rfl w.heap.size (bcells (bareBox cap pol) (.slice none 0 0)) rfl rfl 26 _ r3 (by kernel_rfl) rfl (bcells_one _ _ _ _) ?_)
    have G := grown_setRow w3 w.heap.size (bcells (bareBox cap pol) (.slice none 0 0))
    have HR := setRow_heap (bcells (bareBox cap pol) (.slice none 0 0)) r3
    have HB := b3.trans (below_of_grown (n := w.heap.size) G (Nat.le_refl _) b3.size)
    refine bodyPost_ret (results_row_tmp rfl _ _ _ _ _ _ _ rfl HR Tryd.underlying26 rfl (by kernel_rfl)) rfl ⟨by rw [HE.out]; rfl, HB⟩

end Go.Proofs.YtfkikdoecoobgaaDoor
