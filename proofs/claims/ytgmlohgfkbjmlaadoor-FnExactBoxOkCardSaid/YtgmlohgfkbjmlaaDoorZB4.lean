/- Small texts, laid together. -/
import Derived.Test.YtgmlohgfkbjmlaaDoorZMsgK
import Derived.Test.YtgmlohgfkbjmlaaDoorZB2
import Derived.Test.YtgmlohgfkbjmlaaDoorZB1
import Derived.Deep.Cut
import Derived.Deep.CutBlock
import Derived.Lib.Hide
set_option linter.unusedSimpArgs false
set_option linter.unusedVariables false
/- Boxes: how they lie in memory; when they are right; what is offered to them. -/
namespace Go.Proofs.YtgmlohgfkbjmlaaDoor
open Go.RowKit

structure BoxM where
  cap : Int
  pol : Int
  q : List MsgM
  ofr : Int
  rcv : Int
  drp : Int
  mrg : Int
  shut : Bool

/-- The cells of a box whose queue is the value u. -/
abbrev bcells (b : BoxM) (u : Value) : Array Value := #[.int .i64 b.cap, .int .i64 b.pol, u, .int .i64 b.ofr, .int .i64 b.rcv, .int .i64 b.drp, .int .i64 b.mrg, .bool b.shut]
abbrev bagg (b : BoxM) (u : Value) : Value := .agg #[.int .i64 b.cap, .int .i64 b.pol, u, .int .i64 b.ofr, .int .i64 b.rcv, .int .i64 b.drp, .int .i64 b.mrg, .bool b.shut]
theorem bcells_one (b : BoxM) (a : Option Addr) (n c : Nat) : (bcells b (.slice a n c)).all (·.oneCell') = true := by simp [Value.oneCell']
def zeroBox : BoxM := ⟨0, 0, [], 0, 0, 0, 0, false⟩

/-- Is the box right, its queue's messages aside? -/
def boxN (b : BoxM) : Bool := inB b.cap 1 16 && inB b.pol 1 4 && decide ((b.q.length : Int) ≤ b.cap) && inB b.ofr 0 100000 && inB b.rcv 0 100000 && inB b.drp 0 100000 && inB b.mrg 0 100000
def msgsAll (l : List MsgM) : Bool := l.all msgB
def boxB (b : BoxM) : Bool := boxN b && (msgsAll b.q && decide (b.ofr = b.rcv + b.q.length + b.drp + b.mrg))

/-- Where one of that topic is, of those from k on. -/
def sameAt (l : List MsgM) (t : ByteArray) : Nat → Nat → Option Nat
  | _, 0 => none
  | k, n + 1 => if sameT ((l.getD k (0, 0, ⟨#[]⟩, 0)).2.2.1) t then some k else sameAt l t (k + 1) n
def sameQ (b : BoxM) (t : ByteArray) : Option Nat := if b.pol = 4 then sameAt b.q t 0 b.q.length else none

/-- OfferedTo: the box, the code. -/
def offerM (b : BoxM) (m : MsgM) : BoxM × Int :=
  if boxB b then
    if !(msgB m) || decide (100000 ≤ b.ofr) then (b, 6)
    else if b.shut then (b, 1)
    else match sameQ b m.2.2.1 with
      | some i => ({ b with q := b.q.set i m, ofr := b.ofr + 1, mrg := b.mrg + 1 }, 2)
      | none =>
        if (b.q.length : Int) = b.cap then
          if b.pol = 1 then (b, 3)
          else if b.pol = 3 then ({ b with ofr := b.ofr + 1, drp := b.drp + 1 }, 4)
          else ({ b with q := b.q.drop 1 ++ [m], ofr := b.ofr + 1, drp := b.drp + 1 }, 5)
        else ({ b with q := b.q ++ [m], ofr := b.ofr + 1 }, 0)
  else (zeroBox, 6)

/-- TakenFrom: the box, the message, whether there was one. -/
def takeM (b : BoxM) : BoxM × MsgM × Bool :=
  if boxB b then
    match b.q with
    | [] => (b, (0, 0, ⟨#[]⟩, 0), false)
    | x :: l => ({ b with q := l, rcv := b.rcv + 1 }, x, true)
  else (zeroBox, (0, 0, ⟨#[]⟩, 0), false)

def shutM (b : BoxM) : BoxM := if boxB b then { b with shut := true } else zeroBox
def endB (b : BoxM) : Bool := boxB b && b.shut && b.q.isEmpty

theorem boxB_len {b : BoxM} (h : boxB b = true) : b.q.length ≤ 16 ∧ (b.q.length : Int) ≤ b.cap ∧ ∀ x ∈ b.q, msgB x = true := by
  unfold boxB boxN inB at h
  simp only [Bool.and_eq_true, decide_eq_true_eq] at h
  refine ⟨by omega, by omega, ?_⟩
  have := h.2.1
  unfold msgsAll at this
  rw [List.all_eq_true] at this
  exact this

theorem offerM_len (b : BoxM) (m : MsgM) : (offerM b m).1.q.length ≤ b.q.length + 1 := by
  unfold offerM
  split
  · split
    · simp
    · split
      · simp
      · split
        · simp
        · split
          · split
            · simp
            · split
              · simp
              · simp
          · simp
  · simp [zeroBox]

theorem takeM_len (b : BoxM) : (takeM b).1.q.length ≤ b.q.length := by
  unfold takeM
  split
  · split
    · simp
    · rename_i h; rw [h]; simp
  · simp [zeroBox]

/-! ### Boxed -/

/-- The box lies in block B. -/
def BBox (w : World) (B : Nat) (T : TypeId) (b : BoxM) (u : Value) : Prop := w.heap[B]? = some (.cells (bcells b u) T (0, 0))
theorem BBox.new (w : World) (T : TypeId) (b : BoxM) (u : Value) : BBox (w.alloc (.cells (bcells b u) T)) w.heap.size T b u := heap_alloc_new _ _
theorem BBox.lt {w : World} {B : Nat} {T : TypeId} {b : BoxM} {u : Value} (h : BBox w B T b u) : B < w.heap.size := (Array.getElem?_eq_some_iff.1 h).1
theorem BBox.below {w w' : World} {B : Nat} {T : TypeId} {b : BoxM} {u : Value} (h : BBox w B T b u) (hb : Below w.heap.size w w') : BBox w' B T b u := (hb.block B h.lt).trans h
theorem BBox.grown {w w' : World} {B g : Nat} {T : TypeId} {b : BoxM} {u : Value} (h : BBox w B T b u) (hg : w.grownBy w' (some g)) (hne : B ≠ g) : BBox w' B T b u := (hg.block B h.lt (fun e => hne (by cases e; rfl))).trans h
theorem BBox.cells {w : World} {B : Nat} {T : TypeId} {b : BoxM} {u : Value} (h : BBox w B T b u) :
    w.cell? ⟨B, 0, none⟩ = some (.int .i64 b.cap) ∧ w.cell? ⟨B, 1, none⟩ = some (.int .i64 b.pol) ∧ w.cell? ⟨B, 2, none⟩ = some u ∧ w.cell? ⟨B, 3, none⟩ = some (.int .i64 b.ofr) ∧
    w.cell? ⟨B, 4, none⟩ = some (.int .i64 b.rcv) ∧ w.cell? ⟨B, 5, none⟩ = some (.int .i64 b.drp) ∧ w.cell? ⟨B, 6, none⟩ = some (.int .i64 b.mrg) ∧ w.cell? ⟨B, 7, none⟩ = some (.bool b.shut) :=
  ⟨cell_of_heap h 0, cell_of_heap h 1, cell_of_heap h 2, cell_of_heap h 3, cell_of_heap h 4, cell_of_heap h 5, cell_of_heap h 6, cell_of_heap h 7⟩
theorem BBox.fr {w : World} {B : Nat} {T : TypeId} {b : BoxM} {u : Value} (h : BBox w B T b u) (j : Nat) : w.frozen? ⟨B, j, none⟩ = false := frozen_of_row _ _ _ _ _ h
theorem BBox.off_row {w : World} {B : Nat} {T : TypeId} {b : BoxM} {u : Value} {B0 n : Nat} {v : Value} {xs : List Value} (h : BBox w B T b u) (hT : T ≠ 42) (ho : w.ownsRow B0 42 4 v n xs) : v.ownBlock ≠ some B := by
  rcases ho.2 with ⟨rfl, _⟩ | ⟨g, cap, cur, rfl, _, h3, _⟩
  · intro e; cases e
  · intro e
    have e2 : g = B := by cases e; rfl
    subst e2
    rw [h] at h3
    cases h3
    exact hT rfl

end Go.Proofs.YtgmlohgfkbjmlaaDoor

/- Boxes that come in as arguments: what their cells hold. -/
namespace Go.Proofs.YtgmlohgfkbjmlaaDoor
open Go.ChangeShapes Go.WideShapes Go.RowKit Go.Deep

section
variable {H : Type} {enc : TypeId × Value → H} {P : Program} {w : World} {base : Nat} {spare : Nat → Bool} {held : Bool}

theorem trod_struct8 {t : TypeId} {f0 f1 f2 f3 f4 f5 f6 f7 : Field} {fuel : Nat} {cs : List Value} {x : DataW H × List MemPlace} (ht : P.underlying t = some (.struct #[f0, f1, f2, f3, f4, f5, f6, f7])) (h : DataW.trod enc P w base spare held fuel t cs = some x) :
    ∃ n, cs.length = P.cellsOf t ∧ ∀ (j : Nat) (f : Field), [f0, f1, f2, f3, f4, f5, f6, f7][j]? = some f → ∃ y, DataW.trod enc P w base spare held n f.type ((cs.drop f.offset).take (P.cellsOf f.type)) = some y := by
  obtain ⟨xs, n, _, rfl, hl, hlen, hf⟩ := DataW.trod_struct ht h
  match xs, hlen with
  | [y0, y1, y2, y3, y4, y5, y6, y7], _ =>
    refine ⟨n, hl, fun j f hj => ?_⟩
    match j with
    | 0 => cases hj; exact ⟨y0, by simpa using hf 0 f0 rfl⟩
    | 1 => cases hj; exact ⟨y1, by simpa using hf 1 f1 rfl⟩
    | 2 => cases hj; exact ⟨y2, by simpa using hf 2 f2 rfl⟩
    | 3 => cases hj; exact ⟨y3, by simpa using hf 3 f3 rfl⟩
    | 4 => cases hj; exact ⟨y4, by simpa using hf 4 f4 rfl⟩
    | 5 => cases hj; exact ⟨y5, by simpa using hf 5 f5 rfl⟩
    | 6 => cases hj; exact ⟨y6, by simpa using hf 6 f6 rfl⟩
    | 7 => cases hj; exact ⟨y7, by simpa using hf 7 f7 rfl⟩
    | j + 8 => simp at hj

theorem box_read {tr tt t ti ts tb : TypeId} {g0 g1 g2 g3 g4 g5 g6 g7 f0 f1 f2 f3 : Field} {fuel : Nat} {cs : List Value} {x : DataW H × List MemPlace} (hr : P.underlying tr = some (.struct #[g0, g1, g2, g3, g4, g5, g6, g7])) (hR : P.cellsOf tr = 8)
    (hg0 : g0.type = ti ∧ g0.offset = 0) (hg1 : g1.type = ti ∧ g1.offset = 1) (hg2 : g2.type = tt ∧ g2.offset = 2) (hg3 : g3.type = ti ∧ g3.offset = 3) (hg4 : g4.type = ti ∧ g4.offset = 4) (hg5 : g5.type = ti ∧ g5.offset = 5) (hg6 : g6.type = ti ∧ g6.offset = 6) (hg7 : g7.type = tb ∧ g7.offset = 7)
    (hctt : P.cellsOf tt = 1) (hb : P.underlying tb = some .bool) (hcb : P.cellsOf tb = 1)
    (htt : P.underlying tt = some (.slice t)) (ht : P.underlying t = some (.struct #[f0, f1, f2, f3])) (hC : P.cellsOf t = 4)
    (h0 : f0.type = ti ∧ f0.offset = 0) (h1 : f1.type = ti ∧ f1.offset = 1) (h2 : f2.type = ts ∧ f2.offset = 2) (h3 : f3.type = ti ∧ f3.offset = 3)
    (hi : P.underlying ti = some (.int .i64)) (hci : P.cellsOf ti = 1) (hs : P.underlying ts = some .string) (hcs : P.cellsOf ts = 1)
    (h : DataW.trod enc P w base spare held fuel tr cs = some x) : ∃ (b : BoxM) (v : Value), cs = (bcells b v).toList ∧ MsgsAt w v b.q ∧ ∀ y ∈ b.q, y.2.2.1.size ≤ maxLen := by
  obtain ⟨n, hl, hf⟩ := trod_struct8 hr h
  rw [hR] at hl
  match cs, hl with
  | [c0, c1, c2, c3, c4, c5, c6, c7], _ =>
    obtain ⟨y0, q0⟩ := hf 0 g0 rfl
    obtain ⟨y1, q1⟩ := hf 1 g1 rfl
    obtain ⟨y2, q2⟩ := hf 2 g2 rfl
    obtain ⟨y3, q3⟩ := hf 3 g3 rfl
    obtain ⟨y4, q4⟩ := hf 4 g4 rfl
    obtain ⟨y5, q5⟩ := hf 5 g5 rfl
    obtain ⟨y6, q6⟩ := hf 6 g6 rfl
    obtain ⟨y7, q7⟩ := hf 7 g7 rfl
    rw [hg0.1, hg0.2, hci] at q0
    rw [hg1.1, hg1.2, hci] at q1
    rw [hg2.1, hg2.2, hctt] at q2
    rw [hg3.1, hg3.2, hci] at q3
    rw [hg4.1, hg4.2, hci] at q4
    rw [hg5.1, hg5.2, hci] at q5
    rw [hg6.1, hg6.2, hci] at q6
    rw [hg7.1, hg7.2, hcb] at q7
    obtain ⟨z0, e0, _, _⟩ := DataW.trod_int hi q0
    obtain ⟨z1, e1, _, _⟩ := DataW.trod_int hi q1
    obtain ⟨v, l, e2, hv, hsz⟩ := msgs_read htt ht hC h0 h1 h2 h3 hi hci hs hcs q2
    obtain ⟨z3, e3, _, _⟩ := DataW.trod_int hi q3
    obtain ⟨z4, e4, _, _⟩ := DataW.trod_int hi q4
    obtain ⟨z5, e5, _, _⟩ := DataW.trod_int hi q5
    obtain ⟨z6, e6, _, _⟩ := DataW.trod_int hi q6
    obtain ⟨z7, e7, _⟩ := DataW.trod_bool hb q7
    simp only [List.drop_zero, List.take_succ_cons, List.take_zero, List.cons.injEq, and_true, List.drop_succ_cons] at e0 e1 e2 e3 e4 e5 e6 e7
    subst e0 e1 e2 e3 e4 e5 e6 e7
    exact ⟨⟨z0, z1, l, z3, z4, z5, z6, z7⟩, _, rfl, hv, hsz⟩

end

end Go.Proofs.YtgmlohgfkbjmlaaDoor

/- The walks of the program's small tests of a box, and of its policies. -/
namespace Go.Proofs.YtgmlohgfkbjmlaaDoor
open Go.RowKit

theorem capOk_any (x : Int) (w : World) :
    Calls Tryd.prog 24 #[.int .i64 x] w fun e w' => e = .returned (.bool (inB x 1 16)) ∧ w = w' := by
  have HB : Hid (inB x 1 16 = (decide (1 ≤ x) && decide (x ≤ 16))) := Lib.hid rfl
  go_enter Tryd.func24, Tryd.ntmps24
  by_cases h1 : 1 ≤ x
  · have g1 : decide (1 ≤ x) = true := decide_eq_true h1
    by_cases h2 : x ≤ 16
    · have g2 : decide (x ≤ 16) = true := decide_eq_true h2
      go_wp2
      go_ret
      exact ⟨ret_bool (by rw [HB.out, g1, g2]; rfl), rfl⟩
    · have g2 : decide (x ≤ 16) = false := decide_eq_false h2
      go_wp2
      go_ret
      exact ⟨ret_bool (by rw [HB.out, g2]; simp), rfl⟩
  · have g1 : decide (1 ≤ x) = false := decide_eq_false h1
    go_wp2
    go_ret
    exact ⟨ret_bool (by rw [HB.out, g1]; rfl), rfl⟩

/-- What stands for a policy. -/
def polV (p : Int) : Value :=
  if p = 1 then .iface 80 (.agg #[]) else if p = 2 then .iface 81 (.agg #[])
  else if p = 3 then .iface 82 (.agg #[]) else if p = 4 then .iface 83 (.agg #[]) else .nilIface

theorem policyOf_any (p : Int) (w : World) :
    Calls Tryd.prog 38 #[.int .i64 p] w fun e w' => e = .returned (polV p) ∧ w = w' := by
  have HP : Hid (polV p = if p = 1 then .iface 80 (.agg #[]) else if p = 2 then .iface 81 (.agg #[])
  else if p = 3 then .iface 82 (.agg #[]) else if p = 4 then .iface 83 (.agg #[]) else .nilIface) := Lib.hid rfl
  generalize polV p = u at HP ⊢
  go_enter Tryd.func38, Tryd.ntmps38
  by_cases h1 : p = 1
  · have HE := Lib.hid (HP.out.trans (if_pos h1))
    have g1 : (p == 1) = true := by simp [h1]
    clear HP h1
    go_wp2
    go_ret
    exact ⟨by rw [HE.out]; rfl, rfl⟩
  have HP1 := Lib.hid (HP.out.trans (if_neg h1))
  have g1 : (p == 1) = false := by simp [h1]
  clear HP h1
  by_cases h2 : p = 2
  · have HE := Lib.hid (HP1.out.trans (if_pos h2))
    have g2 : (p == 2) = true := by simp [h2]
    clear HP1 h2
    go_wp2
    go_ret
    exact ⟨by rw [HE.out]; rfl, rfl⟩
  have HP2 := Lib.hid (HP1.out.trans (if_neg h2))
  have g2 : (p == 2) = false := by simp [h2]
  clear HP1 h2
  by_cases h3 : p = 3
  · have HE := Lib.hid (HP2.out.trans (if_pos h3))
    have g3 : (p == 3) = true := by simp [h3]
    clear HP2 h3
    go_wp2
    go_ret
    exact ⟨by rw [HE.out]; rfl, rfl⟩
  have HP3 := Lib.hid (HP2.out.trans (if_neg h3))
  have g3 : (p == 3) = false := by simp [h3]
  clear HP2 h3
  by_cases h4 : p = 4
  · have HE := Lib.hid (HP3.out.trans (if_pos h4))
    have g4 : (p == 4) = true := by simp [h4]
    clear HP3 h4
    go_wp2
    go_ret
    exact ⟨by rw [HE.out]; rfl, rfl⟩
  · have HE := Lib.hid (HP3.out.trans (if_neg h4))
    have g4 : (p == 4) = false := by simp [h4]
    clear HP3 h4
    go_wp2
    go_ret
    exact ⟨by rw [HE.out]; rfl, rfl⟩

theorem policyOk_any (p : Int) (w : World) :
    Calls Tryd.prog 25 #[.int .i64 p] w fun e w' => e = .returned (.bool (inB p 1 4)) ∧ w = w' := by
  have CP := policyOf_any p w
  by_cases h1 : p = 1
  · subst h1
    rw [show polV 1 = .iface 80 (.agg #[]) from rfl] at CP
    go_enter Tryd.func25, Tryd.ntmps25
    go_wp2_with fail
    refine CP.mono ?_
    rintro e w1 ⟨rfl, rfl⟩
    go_wp2
    go_ret
    exact ⟨rfl, rfl⟩
  by_cases h2 : p = 2
  · subst h2
    rw [show polV 2 = .iface 81 (.agg #[]) from rfl] at CP
    go_enter Tryd.func25, Tryd.ntmps25
    go_wp2_with fail
    refine CP.mono ?_
    rintro e w1 ⟨rfl, rfl⟩
    go_wp2
    go_ret
    exact ⟨rfl, rfl⟩
  by_cases h3 : p = 3
  · subst h3
    rw [show polV 3 = .iface 82 (.agg #[]) from rfl] at CP
    go_enter Tryd.func25, Tryd.ntmps25
    go_wp2_with fail
    refine CP.mono ?_
    rintro e w1 ⟨rfl, rfl⟩
    go_wp2
    go_ret
    exact ⟨rfl, rfl⟩
  by_cases h4 : p = 4
  · subst h4
    rw [show polV 4 = .iface 83 (.agg #[]) from rfl] at CP
    go_enter Tryd.func25, Tryd.ntmps25
    go_wp2_with fail
    refine CP.mono ?_
    rintro e w1 ⟨rfl, rfl⟩
    go_wp2
    go_ret
    exact ⟨rfl, rfl⟩
  · rw [show polV p = .nilIface by unfold polV; rw [if_neg h1, if_neg h2, if_neg h3, if_neg h4]] at CP
    have HB : Hid (inB p 1 4 = false) := Lib.hid (by
      unfold inB
      cases e : (decide (1 ≤ p) && decide (p ≤ 4))
      · rfl
      · simp only [Bool.and_eq_true, decide_eq_true_eq] at e
        omega)
    clear h1 h2 h3 h4
    go_enter Tryd.func25, Tryd.ntmps25
    go_wp2_with fail
    refine CP.mono ?_
    rintro e w1 ⟨rfl, rfl⟩
    go_wp2
    go_ret
    exact ⟨ret_bool HB.out.symm, rfl⟩

end Go.Proofs.YtgmlohgfkbjmlaaDoor

/- The walk of the program's look at the counts of a box. -/
namespace Go.Proofs.YtgmlohgfkbjmlaaDoor
open Go.RowKit

/-- The four counts. -/
def cntL (b : BoxM) : List Int := [b.ofr, b.rcv, b.drp, b.mrg]
def cntR (b : BoxM) : Bool := inB b.ofr 0 100000 && inB b.rcv 0 100000 && inB b.drp 0 100000 && inB b.mrg 0 100000
def countsB (b : BoxM) : Bool := cntR b && decide (b.ofr = b.rcv + b.q.length + b.drp + b.mrg)

theorem boxB_parts (b : BoxM) : boxB b = (inB b.cap 1 16 && (inB b.pol 1 4 && ((decide ((b.q.length : Int) ≤ b.cap) && msgsAll b.q) && countsB b))) := by
  unfold boxB boxN countsB cntR
  cases inB b.cap 1 16 <;> cases inB b.pol 1 4 <;> cases decide ((b.q.length : Int) ≤ b.cap) <;> cases inB b.ofr 0 100000 <;> cases inB b.rcv 0 100000 <;> cases inB b.drp 0 100000 <;> cases inB b.mrg 0 100000 <;> cases msgsAll b.q <;> rfl

theorem cntR_all {b : BoxM} (h : ∀ j, j < 4 → inB ((cntL b).getD j 0) 0 100000 = true) : cntR b = true := by
  have h0 := h 0 (by decide)
  have h1 := h 1 (by decide)
  have h2 := h 2 (by decide)
  have h3 := h 3 (by decide)
  simp only [cntL, List.getD_cons_zero, List.getD_cons_succ] at h0 h1 h2 h3
  unfold cntR
  rw [h0, h1, h2, h3]
  rfl

theorem cntR_bad {b : BoxM} {j : Nat} (hj : j < 4) (h : inB ((cntL b).getD j 0) 0 100000 = false) : cntR b = false := by
  unfold cntR
  match j, hj with
  | 0, _ => simp only [cntL, List.getD_cons_zero, List.getD_cons_succ] at h; rw [h]; rfl
  | 1, _ => simp only [cntL, List.getD_cons_zero, List.getD_cons_succ] at h; rw [h]; simp
  | 2, _ => simp only [cntL, List.getD_cons_zero, List.getD_cons_succ] at h; rw [h]; simp
  | 3, _ => simp only [cntL, List.getD_cons_zero, List.getD_cons_succ] at h; rw [h]; simp

theorem cntR_num {b : BoxM} (h : cntR b = true) : 0 ≤ b.ofr ∧ b.ofr ≤ 100000 ∧ 0 ≤ b.rcv ∧ b.rcv ≤ 100000 ∧ 0 ≤ b.drp ∧ b.drp ≤ 100000 ∧ 0 ≤ b.mrg ∧ b.mrg ≤ 100000 := by
  unfold cntR inB at h
  simp only [Bool.and_eq_true, decide_eq_true_eq] at h
  omega

set_option maxRecDepth 100000 in
set_option maxHeartbeats 1600000 in
theorem countsOk_any (b : BoxM) (ua : Option Addr) (uc : Nat) (w : World) (hl : b.q.length ≤ 1048576) :
    Calls Tryd.prog 27 #[bagg b (.slice ua b.q.length uc)] w fun e w' => e = .returned (.bool (countsB b)) ∧ Below w.heap.size w w' := by
  have HC : Hid (countsB b = (cntR b && decide (b.ofr = b.rcv + b.q.length + b.drp + b.mrg))) := Lib.hid rfl
  have HA := Lib.hid (fun h => cntR_all (b := b) h)
  have HBD := Lib.hid (fun j hj h => cntR_bad (b := b) (j := j) hj h)
  have HNUM := Lib.hid (fun h => cntR_num (b := b) h)
  go_enter Tryd.func27, Tryd.ntmps27
  go_upto_region 1 with (fail)
  have s1 : (w.alloc (.cells (bcells b (.slice ua b.q.length uc)) 29)).heap.size = w.heap.size + 1 := by simp
  have b1 : Below w.heap.size w (w.alloc (.cells (bcells b (.slice ua b.q.length uc)) 29)) := (Below.refl _ _).alloc (Nat.le_refl _) _
  have r1 : BBox (w.alloc (.cells (bcells b (.slice ua b.q.length uc)) 29)) w.heap.size 29 b (.slice ua b.q.length uc) := BBox.new _ _ _ _
  generalize w.alloc (.cells (bcells b (.slice ua b.q.length uc)) 29) = w1 at s1 b1 r1 ⊢
  have R1 := Lib.hid r1
  obtain ⟨x0, x1, x2, x3, x4, x5, x6, x7⟩ := r1.cells
  clear r1
  go_upto_block 0 with (fail)
  have s2 : (w1.alloc (.cells #[.int .i64 b.ofr, .int .i64 b.rcv, .int .i64 b.drp, .int .i64 b.mrg] 2)).heap.size = w.heap.size + 1 + 1 := by simp [s1]
  have b2 : Below w.heap.size w (w1.alloc (.cells #[.int .i64 b.ofr, .int .i64 b.rcv, .int .i64 b.drp, .int .i64 b.mrg] 2)) := b1.alloc (by omega) _
  have r2 := R1.out.below ((Below.refl _ w1).alloc (Nat.le_refl _) (.cells #[.int .i64 b.ofr, .int .i64 b.rcv, .int .i64 b.drp, .int .i64 b.mrg] 2))
  have q2 : (w1.alloc (.cells #[.int .i64 b.ofr, .int .i64 b.rcv, .int .i64 b.drp, .int .i64 b.mrg] 2)).heap[w.heap.size + 1]? = some (.cells #[.int .i64 b.ofr, .int .i64 b.rcv, .int .i64 b.drp, .int .i64 b.mrg] 2 (0, 0)) := by rw [← s1]; exact heap_alloc_new _ _
  have HQ : Hid (∀ j, j < 4 → (w1.alloc (.cells #[.int .i64 b.ofr, .int .i64 b.rcv, .int .i64 b.drp, .int .i64 b.mrg] 2)).cell? ⟨w.heap.size + 1, j, none⟩ = some (.int .i64 ((cntL b).getD j 0))) := Lib.hid (fun j hj => by
    match j, hj with
    | 0, _ => exact cell_of_heap q2 0
    | 1, _ => exact cell_of_heap q2 1
    | 2, _ => exact cell_of_heap q2 2
    | 3, _ => exact cell_of_heap q2 3)
  have R2 := Lib.hid r2
  have B2 := Lib.hid b2
  generalize w1.alloc (.cells #[.int .i64 b.ofr, .int .i64 b.rcv, .int .i64 b.drp, .int .i64 b.mrg] 2) = w2 at s2 HQ R2 B2 ⊢
  clear b2 r2 q2 s1 b1 R1 x0 x1 x2 x3 x4 x5 x6 x7
  go_wp2
  go_loopw [15] (fun i wr => ∃ k : Nat, k ≤ 4 ∧ i = .int .i64 k ∧ wr = w2 ∧ Hid (∀ j, j < k → inB ((cntL b).getD j 0) 0 100000 = true)) (fun i _ => 4 - (intOf i).toNat)
  case atStart => exact ⟨0, Nat.zero_le _, rfl, rfl, Lib.hid (fun j hj => absurd hj (Nat.not_lt_zero _))⟩
  case round =>
    obtain ⟨k, hk, rfl, rfl, HT⟩ := hrel
    by_cases hlt : k < 4
    · have c0 := HQ.out k hlt
      have HN : Hid (inB ((cntL b).getD k 0) 0 100000 = true → ∀ j, j < k + 1 → inB ((cntL b).getD j 0) 0 100000 = true) := Lib.hid (fun h j hj => by
        rcases Nat.lt_or_ge j k with h1 | h1
        · exact HT.out j h1
        · have : j = k := by omega
          subst this; exact h)
      have HBK := Lib.hid (HBD.out k hlt)
      have HIN : Hid (inB ((cntL b).getD k 0) 0 100000 = (decide (0 ≤ (cntL b).getD k 0) && decide ((cntL b).getD k 0 ≤ 100000))) := Lib.hid rfl
      generalize inB ((cntL b).getD k 0) 0 100000 = ib at HN HBK HIN
      generalize (cntL b).getD k 0 = z at c0 HIN
      have g0 : decide ((k : Int) < 4) = true := decide_eq_true (by omega)
      clear HT
      by_cases h1 : z < 0
      · have g1 : decide (z < 0) = true := decide_eq_true h1
        have HE := Lib.hid (HBK.out (by rw [HIN.out, decide_eq_false (show ¬ (0 ≤ z) by omega)]; rfl))
        clear h1
        go_wp2
        go_ret
        exact ⟨ret_bool (by rw [HC.out, HE.out]; rfl), B2.out⟩
      have g1 : decide (z < 0) = false := decide_eq_false h1
      by_cases h2 : 100000 < z
      · have g2 : decide (100000 < z) = true := decide_eq_true h2
        have HE := Lib.hid (HBK.out (by rw [HIN.out, decide_eq_false (show ¬ (z ≤ 100000) by omega)]; simp))
        clear h1 h2
        go_wp2
        go_ret
        exact ⟨ret_bool (by rw [HC.out, HE.out]; rfl), B2.out⟩
      have g2 : decide (100000 < z) = false := decide_eq_false h2
      have HO := Lib.hid (HN.out (by rw [HIN.out, decide_eq_true (show 0 ≤ z by omega), decide_eq_true (show z ≤ 100000 by omega)]; rfl))
      clear h1 h2
      go_wp2
      go_roundw
      case rel => exact ⟨k + 1, by omega, by go_num, by trivial, HO⟩
      case measure => simp [intOf]; omega
    · obtain rfl : k = 4 := by omega
      have HE := Lib.hid (HA.out HT.out)
      obtain ⟨n1, n2, n3, n4, n5, n6, n7, n8⟩ := HNUM.out HE.out
      obtain ⟨x0, x1, x2, x3, x4, x5, x6, x7⟩ := R2.out.cells
      have g1 : IntKind.i64.wrap (b.rcv + (b.q.length : Int)) = b.rcv + (b.q.length : Int) := by rw [IntKind.wrap_i64]; omega
      have g2 : IntKind.i64.wrap (b.rcv + (b.q.length : Int) + b.drp) = b.rcv + (b.q.length : Int) + b.drp := by rw [IntKind.wrap_i64]; omega
      have g3 : IntKind.i64.wrap (b.rcv + (b.q.length : Int) + b.drp + b.mrg) = b.rcv + (b.q.length : Int) + b.drp + b.mrg := by rw [IntKind.wrap_i64]; omega
      go_wp2
      go_ret
      exact ⟨ret_bool (by rw [HC.out, HE.out]; rfl), B2.out⟩

end Go.Proofs.YtgmlohgfkbjmlaaDoor

/- The walks of the program's look at a queue and at the counts. -/
namespace Go.Proofs.YtgmlohgfkbjmlaaDoor
open Go.RowKit

set_option maxRecDepth 100000 in
set_option maxHeartbeats 1600000 in
theorem containsG_any (u : Value) (l : List MsgM) (pr : MsgM → Bool) (g : Nat) (lb : Array Value) (eg : ∀ args w, (callFunc g args).run Tryd.prog w = .ok (.enter g args) w) (w : World) (hl : l.length ≤ 2000000) (hv : MsgsAt w u l) (hp : PredM g lb pr l w) :
    Calls Tryd.prog 39 #[u, .func (.func g) #[] lb] w fun e w' => e = .returned (.bool (l.any pr)) ∧ Below w.heap.size w w' := by
  have CI := Lib.hid (indexG_any u l pr g lb eg w hl hv hp)
  obtain ⟨ua, uc, rfl, _, _, _⟩ := hv
  clear hp hl
  go_enter Tryd.func39, Tryd.ntmps39
  go_wp2_with fail
  refine CI.out.mono ?_
  rintro e w1 ⟨z, rfl, hz, hb⟩
  have HB := Lib.hid hb
  clear hb CI
  rcases hz with ⟨rfl, hz⟩ | ⟨k, rfl, hk, hp, _⟩
  · have HE : Hid (l.any pr = false) := Lib.hid (by rw [List.any_eq_false]; exact fun x hx => by rw [hz x hx]; decide)
    clear hz
    go_wp2
    go_ret
    exact ⟨ret_bool HE.out.symm, HB.out⟩
  · have HE : Hid (l.any pr = true) := Lib.hid (by rw [List.any_eq_true]; exact ⟨l[k], List.getElem_mem hk, hp⟩)
    have g1 : decide ((0 : Int) ≤ (k : Int)) = true := decide_eq_true (by omega)
    clear hp
    go_wp2
    go_ret
    exact ⟨ret_bool HE.out.symm, HB.out⟩

set_option maxRecDepth 100000 in
set_option maxHeartbeats 1600000 in
theorem queueC_any (x : MsgM) (m : Int) (w : World) (hx : x.2.2.1.size ≤ 1048576) (hm : w.cell? ⟨0, 0, none⟩ = some (.int .i64 m)) :
    Calls Tryd.prog 40 #[magg x] w fun e w' => e = .returned (.bool (!msgB x)) ∧ Below w.heap.size w w' := by
  have CM := Lib.hid (fun w' hm => implMsgOk_any x m w' hx hm)
  generalize msgB x = b at CM ⊢
  have HM := Lib.hid hm
  obtain ⟨q, t, p, d⟩ := x
  have ha : Below w.heap.size w (w.alloc (.cells #[.int .i64 q, .int .i64 t, .string p, .int .i64 d] 42)) := (Below.refl _ _).alloc (Nat.le_refl _) _
  clear hm
  go_enter Tryd.func40, Tryd.ntmps40
  go_wp2_with fail
  refine (CM.out _ ((ha.cell (World.block_lt_of_cell? _ _ HM.out)).trans HM.out)).mono ?_
  rintro e w1 ⟨rfl, hb⟩
  have HE := Lib.hid (below_end ha hb)
  clear ha hb
  go_wp2
  go_ret
  exact ⟨rfl, HE.out⟩

/-- The look at the queue. -/
def queueB (l : List MsgM) (c : Int) : Bool := decide ((l.length : Int) ≤ c) && msgsAll l

set_option maxRecDepth 100000 in
set_option maxHeartbeats 1600000 in
theorem queueOk_any (u : Value) (l : List MsgM) (c : Int) (m : Int) (w : World) (hl : l.length ≤ 1048576) (hs : ∀ x ∈ l, x.2.2.1.size ≤ 1048576) (hv : MsgsAt w u l) (hm : w.cell? ⟨0, 0, none⟩ = some (.int .i64 m)) :
    Calls Tryd.prog 26 #[u, .int .i64 c] w fun e w' => e = .returned (.bool (queueB l c)) ∧ Below w.heap.size w w' := by
  have CC := Lib.hid (containsG_any u l (fun x => !msgB x) 40 #[] (enters_of Tryd.func40 (by kernel_rfl) rfl) w (by omega) hv (fun W x hx hb => queueC_any x m W (hs x hx) ((hb.cell (World.block_lt_of_cell? _ _ hm)).trans hm)))
  have HQ : Hid (queueB l c = (decide ((l.length : Int) ≤ c) && msgsAll l)) := Lib.hid rfl
  have HA : Hid (msgsAll l = !l.any (fun x => !msgB x)) := Lib.hid (by
    unfold msgsAll
    rw [List.not_any_eq_all_not]
    congr 1
    funext x
    simp)
  generalize l.any (fun x => !msgB x) = an at CC HA
  generalize msgsAll l = ma at HA HQ
  obtain ⟨ua, uc, rfl, _, _, _⟩ := hv
  clear hs hm
  go_enter Tryd.func26, Tryd.ntmps26
  by_cases h1 : (l.length : Int) ≤ c
  · have g1 : decide ((l.length : Int) ≤ c) = true := decide_eq_true h1
    go_wp2_with fail
    refine CC.out.mono ?_
    rintro e w1 ⟨rfl, hb⟩
    have HB := Lib.hid hb
    clear hb CC
    go_wp2
    go_ret
    exact ⟨ret_bool (by rw [HQ.out, HA.out, g1]; simp), HB.out⟩
  · have g1 : decide ((l.length : Int) ≤ c) = false := decide_eq_false h1
    go_wp2
    go_ret
    exact ⟨ret_bool (by rw [HQ.out, g1]; rfl), Below.refl _ _⟩

end Go.Proofs.YtgmlohgfkbjmlaaDoor

/- A new box: mathematics. -/
namespace Go.Proofs.YtgmlohgfkbjmlaaDoor
open Go.RowKit

/-- NewBox: the box, whether it is right. -/
def bareBox (cap pol : Int) : BoxM := ⟨cap, pol, [], 0, 0, 0, 0, false⟩
def newB (cap pol : Int) : BoxM × Bool := if boxB (bareBox cap pol) then (bareBox cap pol, true) else (zeroBox, false)

end Go.Proofs.YtgmlohgfkbjmlaaDoor

/- The walk of the reference's BoxOk. -/
namespace Go.Proofs.YtgmlohgfkbjmlaaDoor
open Go.RowKit

theorem specCount_any (x : Int) (w : World) :
    Calls Tryd.prog 21 #[.int .i64 x] w fun e w' => e = .returned (.bool (inB x 0 100000)) ∧ w = w' := by
  have C := Lib.hid (fun w' => specIn_any x 0 100000 w')
  go_enter Tryd.func21, Tryd.ntmps21
  go_wp2_with fail
  refine (C.out _).mono ?_
  rintro e w1 ⟨rfl, rfl⟩
  go_wp2
  go_ret
  exact ⟨rfl, rfl⟩

/-- Of a queue, the first k are right. -/
def msgsAllTo (l : List MsgM) (k : Nat) : Bool := msgsAll (l.take k)
theorem msgsAllTo_succ (l : List MsgM) (k : Nat) (h : k < l.length) : msgsAllTo l (k + 1) = (msgsAllTo l k && msgB l[k]) := by
  unfold msgsAllTo msgsAll
  rw [List.take_succ_eq_append_getElem h, List.all_append]
  simp
theorem msgsAllTo_bad {l : List MsgM} {k : Nat} (h : k < l.length) (hb : msgB l[k] = false) : msgsAll l = false := by
  unfold msgsAll
  rw [List.all_eq_false]
  exact ⟨l[k], List.getElem_mem h, by simp [hb]⟩

theorem below_weak {w0 w1 : World} {n : Nat} (h : Below w0.heap.size w0 w1) (_ : n < w0.heap.size) : Below w0.heap.size w0 w1 := h

set_option maxRecDepth 100000 in
set_option maxHeartbeats 1600000 in
theorem specBoxOk_any (b : BoxM) (v : Value) (w : World) (hs : ∀ x ∈ b.q, x.2.2.1.size ≤ 1048576) (hv : MsgsAt w v b.q) :
    Calls Tryd.prog 7 #[bagg b v] w fun e w' => e = .returned (.bool (boxB b)) ∧ Below w.heap.size w w' := by
  have C1 := Lib.hid (fun w' => specIn_any b.cap 1 16 w')
  have C2 := Lib.hid (fun w' => specIn_any b.pol 1 4 w')
  have C4 := Lib.hid (fun w' => specCount_any b.ofr w')
  have C5 := Lib.hid (fun w' => specCount_any b.rcv w')
  have C6 := Lib.hid (fun w' => specCount_any b.drp w')
  have C7 := Lib.hid (fun w' => specCount_any b.mrg w')
  have HN : Hid (boxN b = ((decide (1 ≤ b.cap) && decide (b.cap ≤ 16)) && (decide (1 ≤ b.pol) && decide (b.pol ≤ 4)) && decide ((b.q.length : Int) ≤ b.cap) && inB b.ofr 0 100000 && inB b.rcv 0 100000 && inB b.drp 0 100000 && inB b.mrg 0 100000)) := Lib.hid rfl
  have HNB : Hid (boxN b = true → 0 ≤ b.ofr ∧ b.ofr ≤ 100000 ∧ 0 ≤ b.rcv ∧ b.rcv ≤ 100000 ∧ 0 ≤ b.drp ∧ b.drp ≤ 100000 ∧ 0 ≤ b.mrg ∧ b.mrg ≤ 100000 ∧ b.q.length ≤ 16) := Lib.hid (fun h => by
    unfold boxN inB at h
    simp only [Bool.and_eq_true, decide_eq_true_eq] at h
    omega)
  have HBX : Hid (boxB b = (boxN b && (msgsAll b.q && decide (b.ofr = b.rcv + b.q.length + b.drp + b.mrg)))) := Lib.hid rfl
  have HV := Lib.hid hv
  obtain ⟨ua, uc, rfl, _, _, _⟩ := hv
  have HS := Lib.hid hs
  clear hs
  generalize (decide (1 ≤ b.cap) && decide (b.cap ≤ 16)) = p1 at C1 HN
  generalize (decide (1 ≤ b.pol) && decide (b.pol ≤ 4)) = p2 at C2 HN
  generalize inB b.ofr 0 100000 = p4 at C4 HN
  generalize inB b.rcv 0 100000 = p5 at C5 HN
  generalize inB b.drp 0 100000 = p6 at C6 HN
  generalize inB b.mrg 0 100000 = p7 at C7 HN
  go_enter Tryd.func7, Tryd.ntmps7
  go_upto_region 1 with (fail)
  have b0 : Below w.heap.size w (w.alloc (.cells (bcells b (.slice ua b.q.length uc)) 29)) := (Below.refl _ _).alloc (Nat.le_refl _) _
  have r0 : BBox (w.alloc (.cells (bcells b (.slice ua b.q.length uc)) 29)) w.heap.size 29 b (.slice ua b.q.length uc) := BBox.new _ _ _ _
  have v0 := HV.out.alloc (.cells (bcells b (.slice ua b.q.length uc)) 29)
  generalize w.alloc (.cells (bcells b (.slice ua b.q.length uc)) 29) = w0 at b0 r0 v0 ⊢
  have B0 := Lib.hid b0
  have V0 := Lib.hid v0
  have R0 := Lib.hid r0
  obtain ⟨x0, x1, x2, x3, x4, x5, x6, x7⟩ := r0.cells
  clear b0 v0 r0
  go_wp2_with fail
  refine (C1.out _).mono ?_
  rintro e w1 ⟨rfl, hw⟩
  subst hw
  cases p1
  · have HE := Lib.hid (show boxB b = false by rw [HBX.out, HN.out]; simp)
    go_wp2
    go_ret
    exact ⟨ret_bool HE.out.symm, B0.out⟩
  go_wp2_with fail
  refine (C2.out _).mono ?_
  rintro e w1 ⟨rfl, hw⟩
  subst hw
  cases p2
  · have HE := Lib.hid (show boxB b = false by rw [HBX.out, HN.out]; simp)
    go_wp2
    go_ret
    exact ⟨ret_bool HE.out.symm, B0.out⟩
  by_cases h3 : b.cap < b.q.length
  · have g3 : decide (b.cap < b.q.length) = true := decide_eq_true h3
    have HE := Lib.hid (show boxB b = false by rw [HBX.out, HN.out, decide_eq_false (show ¬ ((b.q.length : Int) ≤ b.cap) by omega)]; simp)
    go_wp2
    go_ret
    exact ⟨ret_bool HE.out.symm, B0.out⟩
  have g3 : decide (b.cap < b.q.length) = false := decide_eq_false h3
  have HN2 := Lib.hid (show boxN b = (p4 && p5 && p6 && p7) by rw [HN.out, decide_eq_true (show (b.q.length : Int) ≤ b.cap by omega)]; simp)
  clear HN
  go_wp2_with fail
  refine (C4.out _).mono ?_
  rintro e w1 ⟨rfl, hw⟩
  subst hw
  cases p4
  · have HE := Lib.hid (show boxB b = false by rw [HBX.out, HN2.out]; simp)
    go_wp2
    go_ret
    exact ⟨ret_bool HE.out.symm, B0.out⟩
  go_wp2_with fail
  refine (C5.out _).mono ?_
  rintro e w1 ⟨rfl, hw⟩
  subst hw
  cases p5
  · have HE := Lib.hid (show boxB b = false by rw [HBX.out, HN2.out]; simp)
    go_wp2
    go_ret
    exact ⟨ret_bool HE.out.symm, B0.out⟩
  go_wp2_with fail
  refine (C6.out _).mono ?_
  rintro e w1 ⟨rfl, hw⟩
  subst hw
  cases p6
  · have HE := Lib.hid (show boxB b = false by rw [HBX.out, HN2.out]; simp)
    go_wp2
    go_ret
    exact ⟨ret_bool HE.out.symm, B0.out⟩
  go_wp2_with fail
  refine (C7.out _).mono ?_
  rintro e w1 ⟨rfl, hw⟩
  subst hw
  cases p7
  · have HE := Lib.hid (show boxB b = false by rw [HBX.out, HN2.out]; simp)
    go_wp2
    go_ret
    exact ⟨ret_bool HE.out.symm, B0.out⟩
  have HNT := Lib.hid (show boxN b = true by rw [HN2.out]; simp)
  clear HN2 C1 C2 C4 C5 C6 C7 g3 h3 x0 x1 x2 x3 x4 x5 x6 x7
  obtain ⟨n1, n2, n3, n4, n5, n6, n7, n8, n9⟩ := HNB.out HNT.out
  clear HNB
  have HBX2 := Lib.hid (show boxB b = (msgsAll b.q && decide (b.ofr = b.rcv + b.q.length + b.drp + b.mrg)) by rw [HBX.out, HNT.out]; simp)
  clear HBX HNT
  go_upto_region 3 with (fail)
  go_wp2
  go_loopw [3] (fun i wr => ∃ k : Nat, k ≤ b.q.length ∧ i = .int .i64 k ∧ Hid (msgsAllTo b.q k = true) ∧ Hid (Below w0.heap.size w0 wr)) (fun i _ => b.q.length - (intOf i).toNat)
  case atStart => exact ⟨0, Nat.zero_le _, rfl, rfl, Lib.hid (Below.refl _ _)⟩
  case round =>
    obtain ⟨k, hk, rfl, HT, HB⟩ := hrel
    have rr := R0.out.below HB.out
    obtain ⟨x0, x1, x2, x3, x4, x5, x6, x7⟩ := rr.cells
    by_cases hlt : k < b.q.length
    · obtain ⟨bb, o, rfl, hin⟩ : ∃ bb o, ua = some ⟨bb, o, none⟩ ∧ MsgsIn w0 bb o b.q := by
        obtain ⟨_, _, he, _, _, h⟩ := V0.out
        cases he
        rcases h with h | h
        · rw [h] at hlt; simp at hlt
        · exact h
      obtain ⟨p0, p1, p2, p3⟩ := (hin.below HB.out) k hlt
      have CM := Lib.hid (fun wx => specMsgOk_any b.q[k] wx (HS.out _ (List.getElem_mem hlt)))
      have HBAD := Lib.hid (fun h => msgsAllTo_bad hlt h)
      have HGO : Hid (msgB b.q[k] = true → msgsAllTo b.q (k + 1) = true) := Lib.hid (fun h => by rw [msgsAllTo_succ b.q k hlt, HT.out, h]; rfl)
      obtain ⟨mb, hmb⟩ : ∃ mb, msgB b.q[k] = mb := ⟨_, rfl⟩
      rw [hmb] at CM HBAD HGO
      obtain ⟨x, hx⟩ : ∃ x, b.q[k] = x := ⟨_, rfl⟩
      rw [hx] at p0 p1 p2 p3 CM
      clear hmb hx hin HT rr
      go_wp2_with fail
      refine (CM.out _).mono ?_
      rintro e wa ⟨rfl, hb⟩
      have HB2 := Lib.hid (below_end HB.out hb)
      clear hb p0 p1 p2 p3 x0 x1 x2 x3 x4 x5 x6 x7
      cases mb
      · have HE := Lib.hid (show boxB b = false by rw [HBX2.out, HBAD.out rfl]; rfl)
        go_wp2
        go_ret
        exact ⟨ret_bool HE.out.symm, below_end B0.out (below_weak HB2.out R0.out.lt)⟩
      · have HN := Lib.hid (HGO.out rfl)
        go_wp2
        go_roundw
        case rel => exact ⟨k + 1, by omega, by go_num, HN, HB2⟩
        case measure => simp [intOf]; omega
    · obtain rfl : k = b.q.length := by omega
      have HE := Lib.hid (show boxB b = decide (b.ofr = b.rcv + b.q.length + b.drp + b.mrg) by rw [HBX2.out, show msgsAll b.q = true by have := HT.out; unfold msgsAllTo at this; rwa [List.take_length] at this]; simp)
      have g1 : IntKind.i64.wrap (b.rcv + (b.q.length : Int)) = b.rcv + (b.q.length : Int) := by rw [IntKind.wrap_i64]; omega
      have g2 : IntKind.i64.wrap (b.rcv + (b.q.length : Int) + b.drp) = b.rcv + (b.q.length : Int) + b.drp := by rw [IntKind.wrap_i64]; omega
      have g3 : IntKind.i64.wrap (b.rcv + (b.q.length : Int) + b.drp + b.mrg) = b.rcv + (b.q.length : Int) + b.drp + b.mrg := by rw [IntKind.wrap_i64]; omega
      go_wp2
      go_ret
      exact ⟨ret_bool (by rw [HE.out]; rfl), below_end B0.out (below_weak HB.out R0.out.lt)⟩

end Go.Proofs.YtgmlohgfkbjmlaaDoor
