/- Small texts, laid together. -/
import Derived.Test.YtgmlohgfkbjmlaaDoorZMsgK
import Derived.Test.YtgmlohgfkbjmlaaDoorZB2
import Derived.Test.YtgmlohgfkbjmlaaDoorZB1
import Derived.Deep.Cut
import Derived.Deep.CutBlock
import Derived.Lib.Hide
set_option linter.unusedSimpArgs false
set_option linter.unusedVariables false
/- Boxes: how they lie in memory; when they are right; what is offered to them. -/
namespace Go.Proofs.YtgmlohgfkbjmlaaDoor
open Go.RowKit

structure BoxM where
  cap : Int
  pol : Int
  q : List MsgM
  ofr : Int
  rcv : Int
  drp : Int
  mrg : Int
  shut : Bool

/-- The cells of a box whose queue is the value u. -/
abbrev bcells (b : BoxM) (u : Value) : Array Value := #[.int .i64 b.cap, .int .i64 b.pol, u, .int .i64 b.ofr, .int .i64 b.rcv, .int .i64 b.drp, .int .i64 b.mrg, .bool b.shut]
abbrev bagg (b : BoxM) (u : Value) : Value := .agg #[.int .i64 b.cap, .int .i64 b.pol, u, .int .i64 b.ofr, .int .i64 b.rcv, .int .i64 b.drp, .int .i64 b.mrg, .bool b.shut]
theorem bcells_one (b : BoxM) (a : Option Addr) (n c : Nat) : (bcells b (.slice a n c)).all (·.oneCell') = true := by simp [Value.oneCell']
def zeroBox : BoxM := ⟨0, 0, [], 0, 0, 0, 0, false⟩

/-- Is the box right, its queue's messages aside? -/
def boxN (b : BoxM) : Bool := inB b.cap 1 16 && inB b.pol 1 4 && decide ((b.q.length : Int) ≤ b.cap) && inB b.ofr 0 100000 && inB b.rcv 0 100000 && inB b.drp 0 100000 && inB b.mrg 0 100000
def msgsAll (l : List MsgM) : Bool := l.all msgB
def boxB (b : BoxM) : Bool := boxN b && (msgsAll b.q && decide (b.ofr = b.rcv + b.q.length + b.drp + b.mrg))

/-- Where one of that topic is, of those from k on. -/
def sameAt (l : List MsgM) (t : ByteArray) : Nat → Nat → Option Nat
  | _, 0 => none
  | k, n + 1 => if sameT ((l.getD k (0, 0, ⟨#[]⟩, 0)).2.2.1) t then some k else sameAt l t (k + 1) n
def sameQ (b : BoxM) (t : ByteArray) : Option Nat := if b.pol = 4 then sameAt b.q t 0 b.q.length else none

/-- OfferedTo: the box, the code. -/
def offerM (b : BoxM) (m : MsgM) : BoxM × Int :=
  if boxB b then
    if !(msgB m) || decide (100000 ≤ b.ofr) then (b, 6)
    else if b.shut then (b, 1)
    else match sameQ b m.2.2.1 with
      | some i => ({ b with q := b.q.set i m, ofr := b.ofr + 1, mrg := b.mrg + 1 }, 2)
      | none =>
        if (b.q.length : Int) = b.cap then
          if b.pol = 1 then (b, 3)
          else if b.pol = 3 then ({ b with ofr := b.ofr + 1, drp := b.drp + 1 }, 4)
          else ({ b with q := b.q.drop 1 ++ [m], ofr := b.ofr + 1, drp := b.drp + 1 }, 5)
        else ({ b with q := b.q ++ [m], ofr := b.ofr + 1 }, 0)
  else (zeroBox, 6)

/-- TakenFrom: the box, the message, whether there was one. -/
def takeM (b : BoxM) : BoxM × MsgM × Bool :=
  if boxB b then
    match b.q with
    | [] => (b, (0, 0, ⟨#[]⟩, 0), false)
    | x :: l => ({ b with q := l, rcv := b.rcv + 1 }, x, true)
  else (zeroBox, (0, 0, ⟨#[]⟩, 0), false)

def shutM (b : BoxM) : BoxM := if boxB b then { b with shut := true } else zeroBox
def endB (b : BoxM) : Bool := boxB b && b.shut && b.q.isEmpty

theorem boxB_len {b : BoxM} (h : boxB b = true) : b.q.length ≤ 16 ∧ (b.q.length : Int) ≤ b.cap ∧ ∀ x ∈ b.q, msgB x = true := by
  unfold boxB boxN inB at h
  simp only [Bool.and_eq_true, decide_eq_true_eq] at h
  refine ⟨by omega, by omega, ?_⟩
  have := h.2.1
  unfold msgsAll at this
  rw [List.all_eq_true] at this
  exact this

theorem offerM_len (b : BoxM) (m : MsgM) : (offerM b m).1.q.length ≤ b.q.length + 1 := by
  unfold offerM
  split
  · split
    · simp
    · split
      · simp
      · split
        · simp
        · split
          · split
            · simp
            · split
              · simp
              · simp
          · simp
  · simp [zeroBox]

theorem takeM_len (b : BoxM) : (takeM b).1.q.length ≤ b.q.length := by
  unfold takeM
  split
  · split
    · simp
    · rename_i h; rw [h]; simp
  · simp [zeroBox]

/-! ### Boxed -/

/-- The box lies in block B. -/
def BBox (w : World) (B : Nat) (T : TypeId) (b : BoxM) (u : Value) : Prop := w.heap[B]? = some (.cells (bcells b u) T (0, 0))
theorem BBox.new (w : World) (T : TypeId) (b : BoxM) (u : Value) : BBox (w.alloc (.cells (bcells b u) T)) w.heap.size T b u := heap_alloc_new _ _
theorem BBox.lt {w : World} {B : Nat} {T : TypeId} {b : BoxM} {u : Value} (h : BBox w B T b u) : B < w.heap.size := (Array.getElem?_eq_some_iff.1 h).1
theorem BBox.below {w w' : World} {B : Nat} {T : TypeId} {b : BoxM} {u : Value} (h : BBox w B T b u) (hb : Below w.heap.size w w') : BBox w' B T b u := (hb.block B h.lt).trans h
theorem BBox.grown {w w' : World} {B g : Nat} {T : TypeId} {b : BoxM} {u : Value} (h : BBox w B T b u) (hg : w.grownBy w' (some g)) (hne : B ≠ g) : BBox w' B T b u := (hg.block B h.lt (fun e => hne (by cases e; rfl))).trans h
theorem BBox.cells {w : World} {B : Nat} {T : TypeId} {b : BoxM} {u : Value} (h : BBox w B T b u) :
    w.cell? ⟨B, 0, none⟩ = some (.int .i64 b.cap) ∧ w.cell? ⟨B, 1, none⟩ = some (.int .i64 b.pol) ∧ w.cell? ⟨B, 2, none⟩ = some u ∧ w.cell? ⟨B, 3, none⟩ = some (.int .i64 b.ofr) ∧
    w.cell? ⟨B, 4, none⟩ = some (.int .i64 b.rcv) ∧ w.cell? ⟨B, 5, none⟩ = some (.int .i64 b.drp) ∧ w.cell? ⟨B, 6, none⟩ = some (.int .i64 b.mrg) ∧ w.cell? ⟨B, 7, none⟩ = some (.bool b.shut) :=
  ⟨cell_of_heap h 0, cell_of_heap h 1, cell_of_heap h 2, cell_of_heap h 3, cell_of_heap h 4, cell_of_heap h 5, cell_of_heap h 6, cell_of_heap h 7⟩
theorem BBox.fr {w : World} {B : Nat} {T : TypeId} {b : BoxM} {u : Value} (h : BBox w B T b u) (j : Nat) : w.frozen? ⟨B, j, none⟩ = false := frozen_of_row _ _ _ _ _ h
theorem BBox.off_row {w : World} {B : Nat} {T : TypeId} {b : BoxM} {u : Value} {B0 n : Nat} {v : Value} {xs : List Value} (h : BBox w B T b u) (hT : T ≠ 42) (ho : w.ownsRow B0 42 4 v n xs) : v.ownBlock ≠ some B := by
  rcases ho.2 with ⟨rfl, _⟩ | ⟨g, cap, cur, rfl, _, h3, _⟩
  · intro e; cases e
  · intro e
    have e2 : g = B := by cases e; rfl
    subst e2
    rw [h] at h3
    cases h3
    exact hT rfl

end Go.Proofs.YtgmlohgfkbjmlaaDoor

/- Boxes that come in as arguments: what their cells hold. -/
namespace Go.Proofs.YtgmlohgfkbjmlaaDoor
open Go.ChangeShapes Go.WideShapes Go.RowKit Go.Deep

section
variable {H : Type} {enc : TypeId × Value → H} {P : Program} {w : World} {base : Nat} {spare : Nat → Bool} {held : Bool}

theorem trod_struct8 {t : TypeId} {f0 f1 f2 f3 f4 f5 f6 f7 : Field} {fuel : Nat} {cs : List Value} {x : DataW H × List MemPlace} (ht : P.underlying t = some (.struct #[f0, f1, f2, f3, f4, f5, f6, f7])) (h : DataW.trod enc P w base spare held fuel t cs = some x) :
    ∃ n, cs.length = P.cellsOf t ∧ ∀ (j : Nat) (f : Field), [f0, f1, f2, f3, f4, f5, f6, f7][j]? = some f → ∃ y, DataW.trod enc P w base spare held n f.type ((cs.drop f.offset).take (P.cellsOf f.type)) = some y := by
  obtain ⟨xs, n, _, rfl, hl, hlen, hf⟩ := DataW.trod_struct ht h
  match xs, hlen with
  | [y0, y1, y2, y3, y4, y5, y6, y7], _ =>
    refine ⟨n, hl, fun j f hj => ?_⟩
    match j with
    | 0 => cases hj; exact ⟨y0, by simpa using hf 0 f0 rfl⟩
    | 1 => cases hj; exact ⟨y1, by simpa using hf 1 f1 rfl⟩
    | 2 => cases hj; exact ⟨y2, by simpa using hf 2 f2 rfl⟩
    | 3 => cases hj; exact ⟨y3, by simpa using hf 3 f3 rfl⟩
    | 4 => cases hj; exact ⟨y4, by simpa using hf 4 f4 rfl⟩
    | 5 => cases hj; exact ⟨y5, by simpa using hf 5 f5 rfl⟩
    | 6 => cases hj; exact ⟨y6, by simpa using hf 6 f6 rfl⟩
    | 7 => cases hj; exact ⟨y7, by simpa using hf 7 f7 rfl⟩
    | j + 8 => simp at hj

theorem box_read {tr tt t ti ts tb : TypeId} {g0 g1 g2 g3 g4 g5 g6 g7 f0 f1 f2 f3 : Field} {fuel : Nat} {cs : List Value} {x : DataW H × List MemPlace} (hr : P.underlying tr = some (.struct #[g0, g1, g2, g3, g4, g5, g6, g7])) (hR : P.cellsOf tr = 8)
    (hg0 : g0.type = ti ∧ g0.offset = 0) (hg1 : g1.type = ti ∧ g1.offset = 1) (hg2 : g2.type = tt ∧ g2.offset = 2) (hg3 : g3.type = ti ∧ g3.offset = 3) (hg4 : g4.type = ti ∧ g4.offset = 4) (hg5 : g5.type = ti ∧ g5.offset = 5) (hg6 : g6.type = ti ∧ g6.offset = 6) (hg7 : g7.type = tb ∧ g7.offset = 7)
    (hctt : P.cellsOf tt = 1) (hb : P.underlying tb = some .bool) (hcb : P.cellsOf tb = 1)
    (htt : P.underlying tt = some (.slice t)) (ht : P.underlying t = some (.struct #[f0, f1, f2, f3])) (hC : P.cellsOf t = 4)
    (h0 : f0.type = ti ∧ f0.offset = 0) (h1 : f1.type = ti ∧ f1.offset = 1) (h2 : f2.type = ts ∧ f2.offset = 2) (h3 : f3.type = ti ∧ f3.offset = 3)
    (hi : P.underlying ti = some (.int .i64)) (hci : P.cellsOf ti = 1) (hs : P.underlying ts = some .string) (hcs : P.cellsOf ts = 1)
    (h : DataW.trod enc P w base spare held fuel tr cs = some x) : ∃ (b : BoxM) (v : Value), cs = (bcells b v).toList ∧ MsgsAt w v b.q ∧ ∀ y ∈ b.q, y.2.2.1.size ≤ maxLen := by
  obtain ⟨n, hl, hf⟩ := trod_struct8 hr h
  rw [hR] at hl
  match cs, hl with
  | [c0, c1, c2, c3, c4, c5, c6, c7], _ =>
    obtain ⟨y0, q0⟩ := hf 0 g0 rfl
    obtain ⟨y1, q1⟩ := hf 1 g1 rfl
    obtain ⟨y2, q2⟩ := hf 2 g2 rfl
    obtain ⟨y3, q3⟩ := hf 3 g3 rfl
    obtain ⟨y4, q4⟩ := hf 4 g4 rfl
    obtain ⟨y5, q5⟩ := hf 5 g5 rfl
    obtain ⟨y6, q6⟩ := hf 6 g6 rfl
    obtain ⟨y7, q7⟩ := hf 7 g7 rfl
    rw [hg0.1, hg0.2, hci] at q0
    rw [hg1.1, hg1.2, hci] at q1
    rw [hg2.1, hg2.2, hctt] at q2
    rw [hg3.1, hg3.2, hci] at q3
    rw [hg4.1, hg4.2, hci] at q4
    rw [hg5.1, hg5.2, hci] at q5
    rw [hg6.1, hg6.2, hci] at q6
    rw [hg7.1, hg7.2, hcb] at q7
    obtain ⟨z0, e0, _, _⟩ := DataW.trod_int hi q0
    obtain ⟨z1, e1, _, _⟩ := DataW.trod_int hi q1
    obtain ⟨v, l, e2, hv, hsz⟩ := msgs_read htt ht hC h0 h1 h2 h3 hi hci hs hcs q2
    obtain ⟨z3, e3, _, _⟩ := DataW.trod_int hi q3
    obtain ⟨z4, e4, _, _⟩ := DataW.trod_int hi q4
    obtain ⟨z5, e5, _, _⟩ := DataW.trod_int hi q5
    obtain ⟨z6, e6, _, _⟩ := DataW.trod_int hi q6
    obtain ⟨z7, e7, _⟩ := DataW.trod_bool hb q7
    simp only [List.drop_zero, List.take_succ_cons, List.take_zero, List.cons.injEq, and_true, List.drop_succ_cons] at e0 e1 e2 e3 e4 e5 e6 e7
    subst e0 e1 e2 e3 e4 e5 e6 e7
    exact ⟨⟨z0, z1, l, z3, z4, z5, z6, z7⟩, _, rfl, hv, hsz⟩

end

end Go.Proofs.YtgmlohgfkbjmlaaDoor

/- The walks of the program's small tests of a box, and of its policies. -/
namespace Go.Proofs.YtgmlohgfkbjmlaaDoor
open Go.RowKit

theorem capOk_any (x : Int) (w : World) :
    Calls Tryd.prog 24 #[.int .i64 x] w fun e w' => e = .returned (.bool (inB x 1 16)) ∧ w = w' := by
  have HB : Hid (inB x 1 16 = (decide (1 ≤ x) && decide (x ≤ 16))) := Lib.hid rfl
  go_enter Tryd.func24, Tryd.ntmps24
  by_cases h1 : 1 ≤ x
  · have g1 : decide (1 ≤ x) = true := decide_eq_true h1
    by_cases h2 : x ≤ 16
    · have g2 : decide (x ≤ 16) = true := decide_eq_true h2
      go_wp2
      go_ret
      exact ⟨ret_bool (by rw [HB.out, g1, g2]; rfl), rfl⟩
    · have g2 : decide (x ≤ 16) = false := decide_eq_false h2
      go_wp2
      go_ret
      exact ⟨ret_bool (by rw [HB.out, g2]; simp), rfl⟩
  · have g1 : decide (1 ≤ x) = false := decide_eq_false h1
    go_wp2
    go_ret
    exact ⟨ret_bool (by rw [HB.out, g1]; rfl), rfl⟩

/-- What stands for a policy. -/
def polV (p : Int) : Value :=
  if p = 1 then .iface 80 (.agg #[]) else if p = 2 then .iface 81 (.agg #[])
  else if p = 3 then .iface 82 (.agg #[]) else if p = 4 then .iface 83 (.agg #[]) else .nilIface

theorem policyOf_any (p : Int) (w : World) :
    Calls Tryd.prog 38 #[.int .i64 p] w fun e w' => e = .returned (polV p) ∧ w = w' := by
  have HP : Hid (polV p = if p = 1 then .iface 80 (.agg #[]) else if p = 2 then .iface 81 (.agg #[])
  else if p = 3 then .iface 82 (.agg #[]) else if p = 4 then .iface 83 (.agg #[]) else .nilIface) := Lib.hid rfl
  generalize polV p = u at HP ⊢
  go_enter Tryd.func38, Tryd.ntmps38
  by_cases h1 : p = 1
  · have HE := Lib.hid (HP.out.trans (if_pos h1))
    have g1 : (p == 1) = true := by simp [h1]
    clear HP h1
    go_wp2
    go_ret
    exact ⟨by rw [HE.out]; rfl, rfl⟩
  have HP1 := Lib.hid (HP.out.trans (if_neg h1))
  have g1 : (p == 1) = false := by simp [h1]
  clear HP h1
  by_cases h2 : p = 2
  · have HE := Lib.hid (HP1.out.trans (if_pos h2))
    have g2 : (p == 2) = true := by simp [h2]
    clear HP1 h2
    go_wp2
    go_ret
    exact ⟨by rw [HE.out]; rfl, rfl⟩
  have HP2 := Lib.hid (HP1.out.trans (if_neg h2))
  have g2 : (p == 2) = false := by simp [h2]
  clear HP1 h2
  by_cases h3 : p = 3
  · have HE := Lib.hid (HP2.out.trans (if_pos h3))
    have g3 : (p == 3) = true := by simp [h3]
    clear HP2 h3
    go_wp2
    go_ret
    exact ⟨by rw [HE.out]; rfl, rfl⟩
  have HP3 := Lib.hid (HP2.out.trans (if_neg h3))
  have g3 : (p == 3) = false := by simp [h3]
  clear HP2 h3
  by_cases h4 : p = 4
  · have HE := Lib.hid (HP3.out.trans (if_pos h4))
    have g4 : (p == 4) = true := by simp [h4]
    clear HP3 h4
    go_wp2
    go_ret
    exact ⟨by rw [HE.out]; rfl, rfl⟩
  · have HE := Lib.hid (HP3.out.trans (if_neg h4))
    have g4 : (p == 4) = false := by simp [h4]
    clear HP3 h4
    go_wp2
    go_ret
    exact ⟨by rw [HE.out]; rfl, rfl⟩

theorem policyOk_any (p : Int) (w : World) :
    Calls Tryd.prog 25 #[.int .i64 p] w fun e w' => e = .returned (.bool (inB p 1 4)) ∧ w = w' := by
  have CP := policyOf_any p w
  by_cases h1 : p = 1
  · subst h1
    rw [show polV 1 = .iface 80 (.agg #[]) from rfl] at CP
    go_enter Tryd.func25, Tryd.ntmps25
    go_wp2_with fail
    refine CP.mono ?_
    rintro e w1 ⟨rfl, rfl⟩
    go_wp2
    go_ret
    exact ⟨rfl, rfl⟩
  by_cases h2 : p = 2
  · subst h2
    rw [show polV 2 = .iface 81 (.agg #[]) from rfl] at CP
    go_enter Tryd.func25, Tryd.ntmps25
    go_wp2_with fail
    refine CP.mono ?_
    rintro e w1 ⟨rfl, rfl⟩
    go_wp2
    go_ret
    exact ⟨rfl, rfl⟩
  by_cases h3 : p = 3
  · subst h3
    rw [show polV 3 = .iface 82 (.agg #[]) from rfl] at CP
    go_enter Tryd.func25, Tryd.ntmps25
    go_wp2_with fail
    refine CP.mono ?_
    rintro e w1 ⟨rfl, rfl⟩
    go_wp2
    go_ret
    exact ⟨rfl, rfl⟩
  by_cases h4 : p = 4
  · subst h4
    rw [show polV 4 = .iface 83 (.agg #[]) from rfl] at CP
    go_enter Tryd.func25, Tryd.ntmps25
    go_wp2_with fail
    refine CP.mono ?_
    rintro e w1 ⟨rfl, rfl⟩
    go_wp2
    go_ret
    exact ⟨rfl, rfl⟩
  · rw [show polV p = .nilIface by unfold polV; rw [if_neg h1, if_neg h2, if_neg h3, if_neg h4]] at CP
    have HB : Hid (inB p 1 4 = false) := Lib.hid (by
      unfold inB
      cases e : (decide (1 ≤ p) && decide (p ≤ 4))
      · rfl
      · simp only [Bool.and_eq_true, decide_eq_true_eq] at e
        omega)
    clear h1 h2 h3 h4
    go_enter Tryd.func25, Tryd.ntmps25
    go_wp2_with fail
    refine CP.mono ?_
    rintro e w1 ⟨rfl, rfl⟩
    go_wp2
    go_ret
    exact ⟨ret_bool HB.out.symm, rfl⟩

end Go.Proofs.YtgmlohgfkbjmlaaDoor

/- The walk of the program's look at the counts of a box. -/
namespace Go.Proofs.YtgmlohgfkbjmlaaDoor
open Go.RowKit

/-- The four counts. -/
def cntL (b : BoxM) : List Int := [b.ofr, b.rcv, b.drp, b.mrg]
def cntR (b : BoxM) : Bool := inB b.ofr 0 100000 && inB b.rcv 0 100000 && inB b.drp 0 100000 && inB b.mrg 0 100000
def countsB (b : BoxM) : Bool := cntR b && decide (b.ofr = b.rcv + b.q.length + b.drp + b.mrg)

theorem boxB_parts (b : BoxM) : boxB b = (inB b.cap 1 16 && (inB b.pol 1 4 && ((decide ((b.q.length : Int) ≤ b.cap) && msgsAll b.q) && countsB b))) := by
  unfold boxB boxN countsB cntR
  cases inB b.cap 1 16 <;> cases inB b.pol 1 4 <;> cases decide ((b.q.length : Int) ≤ b.cap) <;> cases inB b.ofr 0 100000 <;> cases inB b.rcv 0 100000 <;> cases inB b.drp 0 100000 <;> cases inB b.mrg 0 100000 <;> cases msgsAll b.q <;> rfl

theorem cntR_all {b : BoxM} (h : ∀ j, j < 4 → inB ((cntL b).getD j 0) 0 100000 = true) : cntR b = true := by
  have h0 := h 0 (by decide)
  have h1 := h 1 (by decide)
  have h2 := h 2 (by decide)
  have h3 := h 3 (by decide)
  simp only [cntL, List.getD_cons_zero, List.getD_cons_succ] at h0 h1 h2 h3
  unfold cntR
  rw [h0, h1, h2, h3]
  rfl

theorem cntR_bad {b : BoxM} {j : Nat} (hj : j < 4) (h : inB ((cntL b).getD j 0) 0 100000 = false) : cntR b = false := by
  unfold cntR
  match j, hj with
  | 0, _ => simp only [cntL, List.getD_cons_zero, List.getD_cons_succ] at h; rw [h]; rfl
  | 1, _ => simp only [cntL, List.getD_cons_zero, List.getD_cons_succ] at h; rw [h]; simp
  | 2, _ => simp only [cntL, List.getD_cons_zero, List.getD_cons_succ] at h; rw [h]; simp
  | 3, _ => simp only [cntL, List.getD_cons_zero, List.getD_cons_succ] at h; rw [h]; simp

theorem cntR_num {b : BoxM} (h : cntR b = true) : 0 ≤ b.ofr ∧ b.ofr ≤ 100000 ∧ 0 ≤ b.rcv ∧ b.rcv ≤ 100000 ∧ 0 ≤ b.drp ∧ b.drp ≤ 100000 ∧ 0 ≤ b.mrg ∧ b.mrg ≤ 100000 := by
  unfold cntR inB at h
  simp only [Bool.and_eq_true, decide_eq_true_eq] at h
  omega

set_option maxRecDepth 100000 in
set_option maxHeartbeats 1600000 in
theorem countsOk_any (b : BoxM) (ua : Option Addr) (uc : Nat) (w : World) (hl : b.q.length ≤ 1048576) :
    Calls Tryd.prog 27 #[bagg b (.slice ua b.q.length uc)] w fun e w' => e = .returned (.bool (countsB b)) ∧ Below w.heap.size w w' := by
  have HC : Hid (countsB b = (cntR b && decide (b.ofr = b.rcv + b.q.length + b.drp + b.mrg))) := Lib.hid rfl
  have HA := Lib.hid (fun h => cntR_all (b := b) h)
  have HBD := Lib.hid (fun j hj h => cntR_bad (b := b) (j := j) hj h)
  have HNUM := Lib.hid (fun h => cntR_num (b := b) h)
  go_enter Tryd.func27, Tryd.ntmps27
  go_upto_region 1 with (fail)
  have s1 : (w.alloc (.cells (bcells b (.slice ua b.q.length uc)) 29)).heap.size = w.heap.size + 1 := by simp
  have b1 : Below w.heap.size w (w.alloc (.cells (bcells b (.slice ua b.q.length uc)) 29)) := (Below.refl _ _).alloc (Nat.le_refl _) _
  have r1 : BBox (w.alloc (.cells (bcells b (.slice ua b.q.length uc)) 29)) w.heap.size 29 b (.slice ua b.q.length uc) := BBox.new _ _ _ _
  generalize w.alloc (.cells (bcells b (.slice ua b.q.length uc)) 29) = w1 at s1 b1 r1 ⊢
  have R1 := Lib.hid r1
  obtain ⟨x0, x1, x2, x3, x4, x5, x6, x7⟩ := r1.cells
  clear r1
  go_upto_block 0 with (fail)
  have s2 : (w1.alloc (.cells #[.int .i64 b.ofr, .int .i64 b.rcv, .int .i64 b.drp, .int .i64 b.mrg] 2)).heap.size = w.heap.size + 1 + 1 := by simp [s1]
  have b2 : Below w.heap.size w (w1.alloc (.cells #[.int .i64 b.ofr, .int .i64 b.rcv, .int .i64 b.drp, .int .i64 b.mrg] 2)) := b1.alloc (by omega) _
  have r2 := R1.out.below ((Below.refl _ w1).alloc (Nat.le_refl _) (.cells #[.int .i64 b.ofr, .int .i64 b.rcv, .int .i64 b.drp, .int .i64 b.mrg] 2))
  have q2 : (w1.alloc (.cells #[.int .i64 b.ofr, .int .i64 b.rcv, .int .i64 b.drp, .int .i64 b.mrg] 2)).heap[w.heap.size + 1]? = some (.cells #[.int .i64 b.ofr, .int .i64 b.rcv, .int .i64 b.drp, .int .i64 b.mrg] 2 (0, 0)) := by rw [← s1]; exact heap_alloc_new _ _
  have HQ : Hid (∀ j, j < 4 → (w1.alloc (.cells #[.int .i64 b.ofr, .int .i64 b.rcv, .int .i64 b.drp, .int .i64 b.mrg] 2)).cell? ⟨w.heap.size + 1, j, none⟩ = some (.int .i64 ((cntL b).getD j 0))) := Lib.hid (fun j hj => by
    match j, hj with
    | 0, _ => exact cell_of_heap q2 0
    | 1, _ => exact cell_of_heap q2 1
    | 2, _ => exact cell_of_heap q2 2
    | 3, _ => exact cell_of_heap q2 3)
  have R2 := Lib.hid r2
  have B2 := Lib.hid b2
  generalize w1.alloc (.cells #[.int .i64 b.ofr, .int .i64 b.rcv, .int .i64 b.drp, .int .i64 b.mrg] 2) = w2 at s2 HQ R2 B2 ⊢
  clear b2 r2 q2 s1 b1 R1 x0 x1 x2 x3 x4 x5 x6 x7
  go_wp2
  go_loopw [15] (fun i wr => ∃ k : Nat, k ≤ 4 ∧ i = .int .i64 k ∧ wr = w2 ∧ Hid (∀ j, j < k → inB ((cntL b).getD j 0) 0 100000 = true)) (fun i _ => 4 - (intOf i).toNat)
  case atStart => exact ⟨0, Nat.zero_le _, rfl, rfl, Lib.hid (fun j hj => absurd hj (Nat.not_lt_zero _))⟩
  case round =>
    obtain ⟨k, hk, rfl, rfl, HT⟩ := hrel
    by_cases hlt : k < 4
    · have c0 := HQ.out k hlt
      have HN : Hid (inB ((cntL b).getD k 0) 0 100000 = true → ∀ j, j < k + 1 → inB ((cntL b).getD j 0) 0 100000 = true) := Lib.hid (fun h j hj => by
        rcases Nat.lt_or_ge j k with h1 | h1
        · exact HT.out j h1
        · have : j = k := by omega
          subst this; exact h)
      have HBK := Lib.hid (HBD.out k hlt)
      have HIN : Hid (inB ((cntL b).getD k 0) 0 100000 = (decide (0 ≤ (cntL b).getD k 0) && decide ((cntL b).getD k 0 ≤ 100000))) := Lib.hid rfl
      generalize inB ((cntL b).getD k 0) 0 100000 = ib at HN HBK HIN
      generalize (cntL b).getD k 0 = z at c0 HIN
      have g0 : decide ((k : Int) < 4) = true := decide_eq_true (by omega)
      clear HT
      by_cases h1 : z < 0
      · have g1 : decide (z < 0) = true := decide_eq_true h1
        have HE := Lib.hid (HBK.out (by rw [HIN.out, decide_eq_false (show ¬ (0 ≤ z) by omega)]; rfl))
        clear h1
        go_wp2
        go_ret
        exact ⟨ret_bool (by rw [HC.out, HE.out]; rfl), B2.out⟩
      have g1 : decide (z < 0) = false := decide_eq_false h1
      by_cases h2 : 100000 < z
      · have g2 : decide (100000 < z) = true := decide_eq_true h2
        have HE := Lib.hid (HBK.out (by rw [HIN.out, decide_eq_false (show ¬ (z ≤ 100000) by omega)]; simp))
        clear h1 h2
        go_wp2
        go_ret
        exact ⟨ret_bool (by rw [HC.out, HE.out]; rfl), B2.out⟩
      have g2 : decide (100000 < z) = false := decide_eq_false h2
      have HO := Lib.hid (HN.out (by rw [HIN.out, decide_eq_true (show 0 ≤ z by omega), decide_eq_true (show z ≤ 100000 by omega)]; rfl))
      clear h1 h2
      go_wp2
      go_roundw
      case rel => exact ⟨k + 1, by omega, by go_num, by trivial, HO⟩
      case measure => simp [intOf]; omega
    · obtain rfl : k = 4 := by omega
      have HE := Lib.hid (HA.out HT.out)
      obtain ⟨n1, n2, n3, n4, n5, n6, n7, n8⟩ := HNUM.out HE.out
      obtain ⟨x0, x1, x2, x3, x4, x5, x6, x7⟩ := R2.out.cells
      have g1 : IntKind.i64.wrap (b.rcv + (b.q.length : Int)) = b.rcv + (b.q.length : Int) := by rw [IntKind.wrap_i64]; omega
      have g2 : IntKind.i64.wrap (b.rcv + (b.q.length : Int) + b.drp) = b.rcv + (b.q.length : Int) + b.drp := by rw [IntKind.wrap_i64]; omega
      have g3 : IntKind.i64.wrap (b.rcv + (b.q.length : Int) + b.drp + b.mrg) = b.rcv + (b.q.length : Int) + b.drp + b.mrg := by rw [IntKind.wrap_i64]; omega
      go_wp2
      go_ret
      exact ⟨ret_bool (by rw [HC.out, HE.out]; rfl), B2.out⟩

end Go.Proofs.YtgmlohgfkbjmlaaDoor

/- The walks of the program's look at a queue and at the counts. -/
namespace Go.Proofs.YtgmlohgfkbjmlaaDoor
open Go.RowKit

set_option maxRecDepth 100000 in
set_option maxHeartbeats 1600000 in
theorem containsG_any (u : Value) (l : List MsgM) (pr : MsgM → Bool) (g : Nat) (lb : Array Value) (eg : ∀ args w, (callFunc g args).run Tryd.prog w = .ok (.enter g args) w) (w : World) (hl : l.length ≤ 2000000) (hv : MsgsAt w u l) (hp : PredM g lb pr l w) :
    Calls Tryd.prog 39 #[u, .func (.func g) #[] lb] w fun e w' => e = .returned (.bool (l.any pr)) ∧ Below w.heap.size w w' := by
  have CI := Lib.hid (indexG_any u l pr g lb eg w hl hv hp)
  obtain ⟨ua, uc, rfl, _, _, _⟩ := hv
  clear hp hl
  go_enter Tryd.func39, Tryd.ntmps39
  go_wp2_with fail
  refine CI.out.mono ?_
  rintro e w1 ⟨z, rfl, hz, hb⟩
  have HB := Lib.hid hb
  clear hb CI
  rcases hz with ⟨rfl, hz⟩ | ⟨k, rfl, hk, hp, _⟩
  · have HE : Hid (l.any pr = false) := Lib.hid (by rw [List.any_eq_false]; exact fun x hx => by rw [hz x hx]; decide)
    clear hz
    go_wp2
    go_ret
    exact ⟨ret_bool HE.out.symm, HB.out⟩
  · have HE : Hid (l.any pr = true) := Lib.hid (by rw [List.any_eq_true]; exact ⟨l[k], List.getElem_mem hk, hp⟩)
    have g1 : decide ((0 : Int) ≤ (k : Int)) = true := decide_eq_true (by omega)
    clear hp
    go_wp2
    go_ret
    exact ⟨ret_bool HE.out.symm, HB.out⟩

set_option maxRecDepth 100000 in
set_option maxHeartbeats 1600000 in
theorem queueC_any (x : MsgM) (m : Int) (w : World) (hx : x.2.2.1.size ≤ 1048576) (hm : w.cell? ⟨0, 0, none⟩ = some (.int .i64 m)) :
    Calls Tryd.prog 40 #[magg x] w fun e w' => e = .returned (.bool (!msgB x)) ∧ Below w.heap.size w w' := by
  have CM := Lib.hid (fun w' hm => implMsgOk_any x m w' hx hm)
  generalize msgB x = b at CM ⊢
  have HM := Lib.hid hm
  obtain ⟨q, t, p, d⟩ := x
  have ha : Below w.heap.size w (w.alloc (.cells #[.int .i64 q, .int .i64 t, .string p, .int .i64 d] 42)) := (Below.refl _ _).alloc (Nat.le_refl _) _
  clear hm
  go_enter Tryd.func40, Tryd.ntmps40
  go_wp2_with fail
  refine (CM.out _ ((ha.cell (World.block_lt_of_cell? _ _ HM.out)).trans HM.out)).mono ?_
  rintro e w1 ⟨rfl, hb⟩
  have HE := Lib.hid (below_end ha hb)
  clear ha hb
  go_wp2
  go_ret
  exact ⟨rfl, HE.out⟩

/-- The look at the queue. -/
def queueB (l : List MsgM) (c : Int) : Bool := decide ((l.length : Int) ≤ c) && msgsAll l

set_option maxRecDepth 100000 in
set_option maxHeartbeats 1600000 in
theorem queueOk_any (u : Value) (l : List MsgM) (c : Int) (m : Int) (w : World) (hl : l.length ≤ 1048576) (hs : ∀ x ∈ l, x.2.2.1.size ≤ 1048576) (hv : MsgsAt w u l) (hm : w.cell? ⟨0, 0, none⟩ = some (.int .i64 m)) :
    Calls Tryd.prog 26 #[u, .int .i64 c] w fun e w' => e = .returned (.bool (queueB l c)) ∧ Below w.heap.size w w' := by
  have CC := Lib.hid (containsG_any u l (fun x => !msgB x) 40 #[] (enters_of Tryd.func40 (by kernel_rfl) rfl) w (by omega) hv (fun W x hx hb => queueC_any x m W (hs x hx) ((hb.cell (World.block_lt_of_cell? _ _ hm)).trans hm)))
  have HQ : Hid (queueB l c = (decide ((l.length : Int) ≤ c) && msgsAll l)) := Lib.hid rfl
  have HA : Hid (msgsAll l = !l.any (fun x => !msgB x)) := Lib.hid (by
    unfold msgsAll
    rw [List.not_any_eq_all_not]
    congr 1
    funext x
    simp)
  generalize l.any (fun x => !msgB x) = an at CC HA
  generalize msgsAll l = ma at HA HQ
  obtain ⟨ua, uc, rfl, _, _, _⟩ := hv
  clear hs hm
  go_enter Tryd.func26, Tryd.ntmps26
  by_cases h1 : (l.length : Int) ≤ c
  · have g1 : decide ((l.length : Int) ≤ c) = true := decide_eq_true h1
    go_wp2_with fail
    refine CC.out.mono ?_
    rintro e w1 ⟨rfl, hb⟩
    have HB := Lib.hid hb
    clear hb CC
    go_wp2
    go_ret
    exact ⟨ret_bool (by rw [HQ.out, HA.out, g1]; simp), HB.out⟩
  · have g1 : decide ((l.length : Int) ≤ c) = false := decide_eq_false h1
    go_wp2
    go_ret
    exact ⟨ret_bool (by rw [HQ.out, g1]; rfl), Below.refl _ _⟩

end Go.Proofs.YtgmlohgfkbjmlaaDoor

/- An answer that is a part of an own row of messages: what it holds, and the exact laws' marks laid into it. -/
namespace Go.Proofs.YtgmlohgfkbjmlaaDoor
open Go.RowKit

theorem pmarked_next (pre l post : List MsgM) (k0 k : Nat) (h : k < l.length) : (pre ++ mmarked l k0 k ++ post).set (pre.length + k) (mmark (k0 + k * 4)) = pre ++ mmarked l k0 (k + 1) ++ post := by
  have h2 := mmarked_length l k0 k (by omega)
  rw [List.append_assoc, List.set_append_right _ _ (by omega), show pre.length + k - pre.length = k by omega, List.set_append_left _ _ (by omega), mmarked_next l k0 k h, List.append_assoc]

set_option maxRecDepth 100000 in
set_option maxHeartbeats 1600000 in
theorem markPart_any (V u : Value) (pre l post : List MsgM) (k0 B : Nat) (w : World) (hk0 : 1 ≤ k0) (hk1 : k0 + l.length * 4 ≤ 8000000) (hown : MOwn w B V (pre ++ l ++ post)) (hpt : PartOf V pre.length l.length u) :
    Calls Tryd.prog 29 #[u, .int .i64 k0] w fun e w' =>
      e = .returned (.int .i64 (k0 + l.length * 4 : Nat)) ∧ MOwn w' B V (pre ++ mmarks k0 l.length ++ post) ∧ w.grownBy w' V.ownBlock := by
  have hlz : l.length = 0 ∨ ∃ g o c C, V = .slice (some ⟨g, 0, none⟩) (pre ++ l ++ post).length C ∧ u = .slice (some ⟨g, o, none⟩) l.length c ∧ l.length ≤ c ∧ c ≤ maxLen ∧ o = pre.length * 4 := by
    rcases hpt with ⟨_, _, h0⟩ | ⟨g, o, c, C, N, rfl, rfl, h1, h2, h3⟩
    · exact .inl h0
    · rcases h3 with h3 | h3
      · exact .inl h3
      · obtain ⟨_, _, e⟩ := own_slice hown
        cases e
        exact .inr ⟨g, o, c, C, rfl, rfl, h1, h2, h3⟩
  rcases hlz with hl0 | ⟨g, o, cu, C, rfl, rfl, hlc, hcm, ho⟩
  · obtain ⟨ua, uc, rfl⟩ := hpt.slice
    have hl1 : l = [] := List.length_eq_zero_iff.1 hl0
    subst hl1
    go_enter Tryd.func29, Tryd.ntmps29
    go_wp2
    go_loopw [1, 5] (fun m i wr => i = .int .i64 0 ∧ m = .int .i64 k0 ∧ wr = w) (fun _ _ _ => 0)
    case atStart => exact ⟨rfl, rfl, rfl⟩
    case round =>
      obtain ⟨rfl, rfl, rfl⟩ := hrel
      go_wp2
      go_ret
      exact ⟨rfl, hown, grown_refl _ _⟩
  unfold maxLen at hcm
  have HO : Hid (MOwn w B (.slice (some ⟨g, 0, none⟩) (pre ++ l ++ post).length C) (pre ++ mmarked l k0 0 ++ post)) := Lib.hid (by simpa [mmarked, mmarks] using hown)
  obtain ⟨N, hN⟩ : ∃ N, (pre ++ l ++ post).length = N := ⟨_, rfl⟩
  have HN2 : Hid (N = pre.length + l.length + post.length ∧ o = pre.length * 4) := Lib.hid ⟨by rw [← hN]; simp; omega, ho⟩
  rw [hN] at HO ⊢
  clear hown hpt hN ho
  go_enter Tryd.func29, Tryd.ntmps29
  go_wp2
  go_loopw [1, 5] (fun m i wr => ∃ k q : Nat, k ≤ l.length ∧ i = .int .i64 k ∧ m = .int .i64 q ∧ q = k0 + k * 4 ∧ Hid (MOwn wr B (.slice (some ⟨g, 0, none⟩) N C) (pre ++ mmarked l k0 k ++ post)) ∧ Hid (w.grownBy wr (some g))) (fun _ i _ => l.length - (intOf i).toNat)
  case atStart => exact ⟨0, k0, Nat.zero_le _, rfl, rfl, by omega, HO, grown_refl _ _⟩
  case round =>
    obtain ⟨k, q, hk, rfl, rfl, hq, H1, H2⟩ := hrel
    by_cases hlt : k < l.length
    · obtain ⟨hN2, ho⟩ := HN2.out
      have hlen : (pre ++ mmarked l k0 k ++ post).length = N := by have := mmarked_length l k0 k hk; simp; omega
      have CM := Lib.hid (fun wx => markText_any (q + 2) wx (by omega) (by omega))
      rw [show ((q + 2 : Nat) : Int) = (k0 : Int) + (k : Int) * 4 + 1 + 1 by omega] at CM
      have hn1 := pmarked_next pre l post k0 k hlt
      rw [← hq] at hn1
      have HN := Lib.hid hn1
      have hrow : wr.ownsRow B 42 4 (.slice (some ⟨g, 0, none⟩) N C) N (mcells (pre ++ mmarked l k0 k ++ post)) := by have := H1.out; unfold MOwn at this; rw [hlen] at this; exact this
      have f0 := hrow.frozenAt (o + k * 4)
      have f1 := hrow.frozenAt (o + k * 4 + 1)
      have hex : ∀ j, j < 4 → ∃ u, wr.cell? ⟨g, o + k * 4 + j, none⟩ = some u := fun j hj => ⟨_, (hrow.cellAt _ (by omega)).trans (List.getElem?_eq_getElem (by rw [hrow.1]; omega))⟩
      obtain ⟨z0, c0⟩ := hex 0 (by omega)
      obtain ⟨z1, c1⟩ := hex 1 (by omega)
      rw [Nat.add_zero] at c0
      have HR := Lib.hid hrow
      clear hrow hex hn1
      have HC4 : Hid (((((mcells (pre ++ mmarked l k0 k ++ post)).set (o + k * 4) (.int .i64 ((k0 : Int) + (k : Int) * 4))).set (o + k * 4 + 1) (.int .i64 ((k0 : Int) + (k : Int) * 4 + 1))).set (o + k * 4 + 2) (.string (mtext (q + 2)))).set (o + k * 4 + 3) (.int .i64 ((k0 : Int) + (k : Int) * 4 + 1 + 1 + 1)) = mcells (pre ++ mmarked l k0 (k + 1) ++ post)) := Lib.hid (by
        rw [← HN.out, ← mcells_set _ _ (mmark q) (by rw [hlen]; omega)]
        have e0 : ((q : Nat) : Int) = (k0 : Int) + (k : Int) * 4 := by omega
        have e1 : ((q + 1 : Nat) : Int) = (k0 : Int) + (k : Int) * 4 + 1 := by omega
        have e3 : ((q + 3 : Nat) : Int) = (k0 : Int) + (k : Int) * 4 + 1 + 1 + 1 := by omega
        have e4 : (pre.length + k) * 4 = o + k * 4 := by omega
        simp only [mmark, e0, e1, e3, e4])
      have hlen2 : (pre ++ mmarked l k0 (k + 1) ++ post).length = N := by have := mmarked_length l k0 (k + 1) (by omega); simp; omega
      obtain ⟨t, ht⟩ : ∃ t, mtext (q + 2) = t := ⟨_, rfl⟩
      rw [ht] at CM HC4
      have hR1 := HR.out.1
      rw [mcells_length, hlen] at hR1
      clear HN ht ho
      go_wp2_with fail
      have row2 := ((HR.out.stored (o + k * 4) (.int .i64 ((k0 : Int) + (k : Int) * 4))).1.stored (o + k * 4 + 1) (.int .i64 ((k0 : Int) + (k : Int) * 4 + 1))).1
      have grow2 := grown_trans H2.out (grown_trans (grown_setCell wr g (o + k * 4) (.int .i64 ((k0 : Int) + (k : Int) * 4))) (grown_setCell _ g (o + k * 4 + 1) (.int .i64 ((k0 : Int) + (k : Int) * 4 + 1))))
      refine (CM.out _).mono ?_
      clear CM
      rintro e w1 ⟨rfl, hb⟩
      have row3 := row_below row2 hb
      have G3 := Lib.hid (grown_trans grow2 (grown_below (r := some g) hb))
      have hrow4 := ((row3.stored (o + k * 4 + 2) (.string t)).1.stored (o + k * 4 + 3) (.int .i64 ((k0 : Int) + (k : Int) * 4 + 1 + 1 + 1))).1
      rw [HC4.out] at hrow4
      have R4 : Hid (MOwn _ B (.slice (some ⟨g, 0, none⟩) N C) (pre ++ mmarked l k0 (k + 1) ++ post)) := Lib.hid (by unfold MOwn; rw [hlen2]; exact hrow4)
      have G4 := Lib.hid (grown_trans G3.out (grown_trans (grown_setCell w1 g (o + k * 4 + 2) (.string t)) (grown_setCell _ g (o + k * 4 + 3) (.int .i64 ((k0 : Int) + (k : Int) * 4 + 1 + 1 + 1)))))
      have f2 := row3.frozenAt (o + k * 4 + 2)
      have f3 := row3.frozenAt (o + k * 4 + 3)
      have hex : ∀ j, j < 4 → ∃ u, w1.cell? ⟨g, o + k * 4 + j, none⟩ = some u := fun j hj => ⟨_, (row3.cellAt _ (by have h5 := HN2.out.2; have h6 := HN2.out.1; omega)).trans (List.getElem?_eq_getElem (by rw [row3.1]; have h5 := HN2.out.2; have h6 := HN2.out.1; omega))⟩
      obtain ⟨z2, c2⟩ := hex 2 (by omega)
      obtain ⟨z3, c3⟩ := hex 3 (by omega)
      clear row2 grow2 row3 hrow4 hb hex HC4 HR G3 H1 H2 c0 c1 f0 f1 hlen hlen2 hN2 hR1
      go_wp2
      go_roundw
      case rel => exact ⟨k + 1, k0 + (k + 1) * 4, by omega, by go_num, congrArg (Value.int .i64) (by omega), rfl, R4, G4⟩
      case measure => simp [intOf]; omega
    · obtain rfl : k = l.length := by omega
      have HE : Hid (MOwn wr B (.slice (some ⟨g, 0, none⟩) N C) (pre ++ mmarks k0 l.length ++ post)) := Lib.hid (by rw [← mmarked_all]; exact H1.out)
      go_wp2
      go_ret
      exact ⟨congrArg (fun x : Nat => Ending.returned (Value.int .i64 x)) hq, HE.out, H2.out⟩

/-- All that a walk wants of a part. -/
theorem part_kit {V u : Value} {pre L post : List MsgM} (hp : PartOf V pre.length L.length u) (hl : 1 + L.length * 4 ≤ 8000000) :
    ∃ X Y : List MsgM, pre ++ L ++ post = X ∧ Y.length = X.length ∧ (∀ B wx, MOwn wx B V X → MsgsAt wx u L) ∧
      (∀ B wx, MOwn wx B V X → Calls Tryd.prog 29 #[u, .int .i64 ((1 : Nat) : Int)] wx fun e w' => e = .returned (.int .i64 (1 + L.length * 4 : Nat)) ∧ MOwn w' B V Y ∧ wx.grownBy w' V.ownBlock) ∧
      (∀ B wx, MOwn wx B V Y → MsgsAt wx u (mmarks 1 L.length)) :=
  ⟨pre ++ L ++ post, pre ++ mmarks 1 L.length ++ post, rfl, by simp [mmarks_length], fun _ _ h => part_at h hp, fun B wx h => markPart_any V u pre L post 1 B wx (Nat.le_refl _) hl h hp,
    fun _ _ h => part_at h (by rw [mmarks_length]; exact hp)⟩

end Go.Proofs.YtgmlohgfkbjmlaaDoor

/- A new box: mathematics. -/
namespace Go.Proofs.YtgmlohgfkbjmlaaDoor
open Go.RowKit

/-- NewBox: the box, whether it is right. -/
def bareBox (cap pol : Int) : BoxM := ⟨cap, pol, [], 0, 0, 0, 0, false⟩
def newB (cap pol : Int) : BoxM × Bool := if boxB (bareBox cap pol) then (bareBox cap pol, true) else (zeroBox, false)

end Go.Proofs.YtgmlohgfkbjmlaaDoor

/- The walk of the reference's BoxOk. -/
namespace Go.Proofs.YtgmlohgfkbjmlaaDoor
open Go.RowKit

theorem specCount_any (x : Int) (w : World) :
    Calls Tryd.prog 21 #[.int .i64 x] w fun e w' => e = .returned (.bool (inB x 0 100000)) ∧ w = w' := by
  have C := Lib.hid (fun w' => specIn_any x 0 100000 w')
  go_enter Tryd.func21, Tryd.ntmps21
  go_wp2_with fail
  refine (C.out _).mono ?_
  rintro e w1 ⟨rfl, rfl⟩
  go_wp2
  go_ret
  exact ⟨rfl, rfl⟩

/-- Of a queue, the first k are right. -/
def msgsAllTo (l : List MsgM) (k : Nat) : Bool := msgsAll (l.take k)
theorem msgsAllTo_succ (l : List MsgM) (k : Nat) (h : k < l.length) : msgsAllTo l (k + 1) = (msgsAllTo l k && msgB l[k]) := by
  unfold msgsAllTo msgsAll
  rw [List.take_succ_eq_append_getElem h, List.all_append]
  simp
theorem msgsAllTo_bad {l : List MsgM} {k : Nat} (h : k < l.length) (hb : msgB l[k] = false) : msgsAll l = false := by
  unfold msgsAll
  rw [List.all_eq_false]
  exact ⟨l[k], List.getElem_mem h, by simp [hb]⟩

theorem below_weak {w0 w1 : World} {n : Nat} (h : Below w0.heap.size w0 w1) (_ : n < w0.heap.size) : Below w0.heap.size w0 w1 := h

set_option maxRecDepth 100000 in
set_option maxHeartbeats 1600000 in
theorem specBoxOk_any (b : BoxM) (v : Value) (w : World) (hs : ∀ x ∈ b.q, x.2.2.1.size ≤ 1048576) (hv : MsgsAt w v b.q) :
    Calls Tryd.prog 7 #[bagg b v] w fun e w' => e = .returned (.bool (boxB b)) ∧ Below w.heap.size w w' := by
  have C1 := Lib.hid (fun w' => specIn_any b.cap 1 16 w')
  have C2 := Lib.hid (fun w' => specIn_any b.pol 1 4 w')
  have C4 := Lib.hid (fun w' => specCount_any b.ofr w')
  have C5 := Lib.hid (fun w' => specCount_any b.rcv w')
  have C6 := Lib.hid (fun w' => specCount_any b.drp w')
  have C7 := Lib.hid (fun w' => specCount_any b.mrg w')
  have HN : Hid (boxN b = ((decide (1 ≤ b.cap) && decide (b.cap ≤ 16)) && (decide (1 ≤ b.pol) && decide (b.pol ≤ 4)) && decide ((b.q.length : Int) ≤ b.cap) && inB b.ofr 0 100000 && inB b.rcv 0 100000 && inB b.drp 0 100000 && inB b.mrg 0 100000)) := Lib.hid rfl
  have HNB : Hid (boxN b = true → 0 ≤ b.ofr ∧ b.ofr ≤ 100000 ∧ 0 ≤ b.rcv ∧ b.rcv ≤ 100000 ∧ 0 ≤ b.drp ∧ b.drp ≤ 100000 ∧ 0 ≤ b.mrg ∧ b.mrg ≤ 100000 ∧ b.q.length ≤ 16) := Lib.hid (fun h => by
    unfold boxN inB at h
    simp only [Bool.and_eq_true, decide_eq_true_eq] at h
    omega)
  have HBX : Hid (boxB b = (boxN b && (msgsAll b.q && decide (b.ofr = b.rcv + b.q.length + b.drp + b.mrg)))) := Lib.hid rfl
  have HV := Lib.hid hv
  obtain ⟨ua, uc, rfl, _, _, _⟩ := hv
  have HS := Lib.hid hs
  clear hs
  generalize (decide (1 ≤ b.cap) && decide (b.cap ≤ 16)) = p1 at C1 HN
  generalize (decide (1 ≤ b.pol) && decide (b.pol ≤ 4)) = p2 at C2 HN
  generalize inB b.ofr 0 100000 = p4 at C4 HN
  generalize inB b.rcv 0 100000 = p5 at C5 HN
  generalize inB b.drp 0 100000 = p6 at C6 HN
  generalize inB b.mrg 0 100000 = p7 at C7 HN
  go_enter Tryd.func7, Tryd.ntmps7
  go_upto_region 1 with (fail)
  have b0 : Below w.heap.size w (w.alloc (.cells (bcells b (.slice ua b.q.length uc)) 29)) := (Below.refl _ _).alloc (Nat.le_refl _) _
  have r0 : BBox (w.alloc (.cells (bcells b (.slice ua b.q.length uc)) 29)) w.heap.size 29 b (.slice ua b.q.length uc) := BBox.new _ _ _ _
  have v0 := HV.out.alloc (.cells (bcells b (.slice ua b.q.length uc)) 29)
  generalize w.alloc (.cells (bcells b (.slice ua b.q.length uc)) 29) = w0 at b0 r0 v0 ⊢
  have B0 := Lib.hid b0
  have V0 := Lib.hid v0
  have R0 := Lib.hid r0
  obtain ⟨x0, x1, x2, x3, x4, x5, x6, x7⟩ := r0.cells
  clear b0 v0 r0
  go_wp2_with fail
  refine (C1.out _).mono ?_
  rintro e w1 ⟨rfl, hw⟩
  subst hw
  cases p1
  · have HE := Lib.hid (show boxB b = false by rw [HBX.out, HN.out]; simp)
    go_wp2
    go_ret
    exact ⟨ret_bool HE.out.symm, B0.out⟩
  go_wp2_with fail
  refine (C2.out _).mono ?_
  rintro e w1 ⟨rfl, hw⟩
  subst hw
  cases p2
  · have HE := Lib.hid (show boxB b = false by rw [HBX.out, HN.out]; simp)
    go_wp2
    go_ret
    exact ⟨ret_bool HE.out.symm, B0.out⟩
  by_cases h3 : b.cap < b.q.length
  · have g3 : decide (b.cap < b.q.length) = true := decide_eq_true h3
    have HE := Lib.hid (show boxB b = false by rw [HBX.out, HN.out, decide_eq_false (show ¬ ((b.q.length : Int) ≤ b.cap) by omega)]; simp)
    go_wp2
    go_ret
    exact ⟨ret_bool HE.out.symm, B0.out⟩
  have g3 : decide (b.cap < b.q.length) = false := decide_eq_false h3
  have HN2 := Lib.hid (show boxN b = (p4 && p5 && p6 && p7) by rw [HN.out, decide_eq_true (show (b.q.length : Int) ≤ b.cap by omega)]; simp)
  clear HN
  go_wp2_with fail
  refine (C4.out _).mono ?_
  rintro e w1 ⟨rfl, hw⟩
  subst hw
  cases p4
  · have HE := Lib.hid (show boxB b = false by rw [HBX.out, HN2.out]; simp)
    go_wp2
    go_ret
    exact ⟨ret_bool HE.out.symm, B0.out⟩
  go_wp2_with fail
  refine (C5.out _).mono ?_
  rintro e w1 ⟨rfl, hw⟩
  subst hw
  cases p5
  · have HE := Lib.hid (show boxB b = false by rw [HBX.out, HN2.out]; simp)
    go_wp2
    go_ret
    exact ⟨ret_bool HE.out.symm, B0.out⟩
  go_wp2_with fail
  refine (C6.out _).mono ?_
  rintro e w1 ⟨rfl, hw⟩
  subst hw
  cases p6
  · have HE := Lib.hid (show boxB b = false by rw [HBX.out, HN2.out]; simp)
    go_wp2
    go_ret
    exact ⟨ret_bool HE.out.symm, B0.out⟩
  go_wp2_with fail
  refine (C7.out _).mono ?_
  rintro e w1 ⟨rfl, hw⟩
  subst hw
  cases p7
  · have HE := Lib.hid (show boxB b = false by rw [HBX.out, HN2.out]; simp)
    go_wp2
    go_ret
    exact ⟨ret_bool HE.out.symm, B0.out⟩
  have HNT := Lib.hid (show boxN b = true by rw [HN2.out]; simp)
  clear HN2 C1 C2 C4 C5 C6 C7 g3 h3 x0 x1 x2 x3 x4 x5 x6 x7
  obtain ⟨n1, n2, n3, n4, n5, n6, n7, n8, n9⟩ := HNB.out HNT.out
  clear HNB
  have HBX2 := Lib.hid (show boxB b = (msgsAll b.q && decide (b.ofr = b.rcv + b.q.length + b.drp + b.mrg)) by rw [HBX.out, HNT.out]; simp)
  clear HBX HNT
  go_upto_region 3 with (fail)
  go_wp2
  go_loopw [3] (fun i wr => ∃ k : Nat, k ≤ b.q.length ∧ i = .int .i64 k ∧ Hid (msgsAllTo b.q k = true) ∧ Hid (Below w0.heap.size w0 wr)) (fun i _ => b.q.length - (intOf i).toNat)
  case atStart => exact ⟨0, Nat.zero_le _, rfl, rfl, Lib.hid (Below.refl _ _)⟩
  case round =>
    obtain ⟨k, hk, rfl, HT, HB⟩ := hrel
    have rr := R0.out.below HB.out
    obtain ⟨x0, x1, x2, x3, x4, x5, x6, x7⟩ := rr.cells
    by_cases hlt : k < b.q.length
    · obtain ⟨bb, o, rfl, hin⟩ : ∃ bb o, ua = some ⟨bb, o, none⟩ ∧ MsgsIn w0 bb o b.q := by
        obtain ⟨_, _, he, _, _, h⟩ := V0.out
        cases he
        rcases h with h | h
        · rw [h] at hlt; simp at hlt
        · exact h
      obtain ⟨p0, p1, p2, p3⟩ := (hin.below HB.out) k hlt
      have CM := Lib.hid (fun wx => specMsgOk_any b.q[k] wx (HS.out _ (List.getElem_mem hlt)))
      have HBAD := Lib.hid (fun h => msgsAllTo_bad hlt h)
      have HGO : Hid (msgB b.q[k] = true → msgsAllTo b.q (k + 1) = true) := Lib.hid (fun h => by rw [msgsAllTo_succ b.q k hlt, HT.out, h]; rfl)
      obtain ⟨mb, hmb⟩ : ∃ mb, msgB b.q[k] = mb := ⟨_, rfl⟩
      rw [hmb] at CM HBAD HGO
      obtain ⟨x, hx⟩ : ∃ x, b.q[k] = x := ⟨_, rfl⟩
      rw [hx] at p0 p1 p2 p3 CM
      clear hmb hx hin HT rr
      go_wp2_with fail
      refine (CM.out _).mono ?_
      rintro e wa ⟨rfl, hb⟩
      have HB2 := Lib.hid (below_end HB.out hb)
      clear hb p0 p1 p2 p3 x0 x1 x2 x3 x4 x5 x6 x7
      cases mb
      · have HE := Lib.hid (show boxB b = false by rw [HBX2.out, HBAD.out rfl]; rfl)
        go_wp2
        go_ret
        exact ⟨ret_bool HE.out.symm, below_end B0.out (below_weak HB2.out R0.out.lt)⟩
      · have HN := Lib.hid (HGO.out rfl)
        go_wp2
        go_roundw
        case rel => exact ⟨k + 1, by omega, by go_num, HN, HB2⟩
        case measure => simp [intOf]; omega
    · obtain rfl : k = b.q.length := by omega
      have HE := Lib.hid (show boxB b = decide (b.ofr = b.rcv + b.q.length + b.drp + b.mrg) by rw [HBX2.out, show msgsAll b.q = true by have := HT.out; unfold msgsAllTo at this; rwa [List.take_length] at this]; simp)
      have g1 : IntKind.i64.wrap (b.rcv + (b.q.length : Int)) = b.rcv + (b.q.length : Int) := by rw [IntKind.wrap_i64]; omega
      have g2 : IntKind.i64.wrap (b.rcv + (b.q.length : Int) + b.drp) = b.rcv + (b.q.length : Int) + b.drp := by rw [IntKind.wrap_i64]; omega
      have g3 : IntKind.i64.wrap (b.rcv + (b.q.length : Int) + b.drp + b.mrg) = b.rcv + (b.q.length : Int) + b.drp + b.mrg := by rw [IntKind.wrap_i64]; omega
      go_wp2
      go_ret
      exact ⟨ret_bool (by rw [HE.out]; rfl), below_end B0.out (below_weak HB.out R0.out.lt)⟩

end Go.Proofs.YtgmlohgfkbjmlaaDoor

/- The walks of the reference's copy of a box, and of NewBox. -/
namespace Go.Proofs.YtgmlohgfkbjmlaaDoor
open Go.RowKit

set_option maxRecDepth 100000 in
set_option maxHeartbeats 800000 in
theorem specCopyB_any (b : BoxM) (v : Value) (w : World) (hl : b.q.length ≤ 2000000) (hv : MsgsAt w v b.q) :
    Calls Tryd.prog 31 #[bagg b v] w fun e w' => ∃ u, e = .returned (bagg b u) ∧ MOwn w' w.heap.size u b.q ∧ Below w.heap.size w w' := by
  have CT := Lib.hid (fun wx (h : MsgsAt wx v b.q) => specCopyM_any v b.q wx hl h)
  have HV := Lib.hid hv
  obtain ⟨ua, uc, rfl, _, _, _⟩ := hv
  clear hl
  go_enter Tryd.func31, Tryd.ntmps31
  go_upto_region 1 with (fail)
  have s1 : (w.alloc (.cells (bcells b (.slice ua b.q.length uc)) 29)).heap.size = w.heap.size + 1 := by simp
  have b1 : Below w.heap.size w (w.alloc (.cells (bcells b (.slice ua b.q.length uc)) 29)) := (Below.refl _ _).alloc (Nat.le_refl _) _
  have r1 : BBox (w.alloc (.cells (bcells b (.slice ua b.q.length uc)) 29)) w.heap.size 29 b (.slice ua b.q.length uc) := BBox.new _ _ _ _
  generalize w.alloc (.cells (bcells b (.slice ua b.q.length uc)) 29) = w1 at s1 b1 r1 ⊢
  have s2 : (w1.alloc (.cells (bcells zeroBox (.slice none 0 0)) 29)).heap.size = w.heap.size + 1 + 1 := by simp [s1]
  have b2 : Below w.heap.size w (w1.alloc (.cells (bcells zeroBox (.slice none 0 0)) 29)) := b1.alloc (by omega) _
  have r2 : BBox (w1.alloc (.cells (bcells zeroBox (.slice none 0 0)) 29)) (w.heap.size + 1) 29 zeroBox (.slice none 0 0) := by rw [← s1]; exact BBox.new _ _ _ _
  have q2 := r1.below ((Below.refl _ w1).alloc (Nat.le_refl _) (.cells (bcells zeroBox (.slice none 0 0)) 29))
  change Code.wp _ _ _ _ (w1.alloc (.cells (bcells zeroBox (.slice none 0 0)) 29))
  generalize w1.alloc (.cells (bcells zeroBox (.slice none 0 0)) 29) = w2 at s2 b2 r2 q2 ⊢
  clear s1 b1 r1
  have x2 := q2.cells.2.2.1
  go_wp2_with fail
  refine (CT.out _ (HV.out.below b2)).mono ?_
  rintro e w3 ⟨u, rfl, ho, hb⟩
  obtain ⟨xa, xc, hu⟩ := own_slice ho
  subst hu
  have q3 : w3.heap[w.heap.size]? = some (.cells (bcells b (.slice ua b.q.length uc)) 29 (0, 0)) := q2.below hb
  have r3 := r2.below hb
  have fr := frozen_of_row w3 w.heap.size 2 _ _ q3
  have x3 : w3.cell? ⟨w.heap.size, 2, none⟩ = some (.slice ua b.q.length uc) := cell_of_heap q3 2
  have b3 : Below w.heap.size w w3 := b2.trans (hb.mono (by omega))
  go_upto_region 2 with (fail)
  have q4 := heap_setCell_same _ _ 2 _ _ (.slice xa b.q.length xc) q3
  have g4 := grown_setCell w3 w.heap.size 2 (.slice xa b.q.length xc)
  have r4 := r3.grown g4 (by omega)
  have o4 := own_grownN ho (by omega) g4
  have b4 := b3.trans (below_of_grown g4 (Nat.le_refl _) b3.size)
  generalize w3.setCell ⟨w.heap.size, 2, none⟩ (.slice xa b.q.length xc) = w4 at q4 g4 r4 o4 b4 ⊢
  clear q3 r3 fr x3 b3 g4 x2 q2 r2 b2 hb ho
  go_wp2_with (first
    | refine wpList_load_row rfl 29 (.tmp 1) rfl w.heap.size rfl 29 (bcells b (.slice xa b.q.length xc)) (0, 0) _ q4 Tryd.underlying29 rfl (by kernel_rfl) ?_
    | refine wpList_store_rowTo rfl 29 (.tmp 2) (.tmp 7) rfl rfl (w.heap.size + 1) (bcells b (.slice xa b.q.length xc)) rfl rfl 29 _ r4 (by kernel_rfl) rfl (bcells_one _ _ _ _) ?_)
  have G := grown_setRow w4 (w.heap.size + 1) (bcells b (.slice xa b.q.length xc))
  have HR := setRow_heap (bcells b (.slice xa b.q.length xc)) r4
  have HO := own_mono (own_grownN o4 (by omega) G) (A := w.heap.size) (by omega)
  have HB := b4.trans (below_of_grown (n := w.heap.size) G (by omega) b4.size)
  refine bodyPost_ret (results_cell_row rfl _ _ _ _ _ _ _ rfl HR Tryd.underlying29 rfl (by kernel_rfl)) rfl ⟨_, rfl, HO, HB⟩

set_option maxRecDepth 100000 in
set_option maxHeartbeats 800000 in
theorem specNewBox_any (cap pol : Int) (w : World) :
    Calls Tryd.prog 11 #[.int .i64 cap, .int .i64 pol] w fun e w' => e = .returned (.tuple #[bagg (newB cap pol).1 (.slice none 0 0), .bool (newB cap pol).2]) ∧ Below w.heap.size w w' := by
  have CB := Lib.hid (fun wx => specBoxOk_any (bareBox cap pol) (.slice none 0 0) wx (by simp [bareBox]) ⟨none, 0, rfl, by simp [bareBox], by unfold maxLen; omega, Or.inl rfl⟩)
  have HN : Hid (newB cap pol = if boxB (bareBox cap pol) then (bareBox cap pol, true) else (zeroBox, false)) := Lib.hid rfl
  generalize newB cap pol = nb at HN ⊢
  generalize boxB (bareBox cap pol) = ok at CB HN
  go_enter Tryd.func11, Tryd.ntmps11
  go_upto_region 1 with (fail)
  have s1 : (w.alloc (.cells (bcells zeroBox (.slice none 0 0)) 29)).heap.size = w.heap.size + 1 := by simp
  have b1 : Below w.heap.size w (w.alloc (.cells (bcells zeroBox (.slice none 0 0)) 29)) := (Below.refl _ _).alloc (Nat.le_refl _) _
  have r1 : BBox (w.alloc (.cells (bcells zeroBox (.slice none 0 0)) 29)) w.heap.size 29 zeroBox (.slice none 0 0) := BBox.new _ _ _ _
  change Code.wp _ _ _ _ (w.alloc (.cells (bcells zeroBox (.slice none 0 0)) 29))
  generalize w.alloc (.cells (bcells zeroBox (.slice none 0 0)) 29) = w1 at s1 b1 r1 ⊢
  go_upto_region 2 with (fail)
  have s2 : (w1.alloc (.cells (bcells (bareBox cap pol) (.slice none 0 0)) 29)).heap.size = w.heap.size + 1 + 1 := by simp [s1]
  have b2 : Below w.heap.size w (w1.alloc (.cells (bcells (bareBox cap pol) (.slice none 0 0)) 29)) := b1.alloc (by omega) _
  have q2 : (w1.alloc (.cells (bcells (bareBox cap pol) (.slice none 0 0)) 29)).heap[w.heap.size + 1]? = some (.cells (bcells (bareBox cap pol) (.slice none 0 0)) 29 (0, 0)) := by rw [← s1]; exact heap_alloc_new _ _
  have r2 := r1.below ((Below.refl _ w1).alloc (Nat.le_refl _) (.cells (bcells (bareBox cap pol) (.slice none 0 0)) 29))
  change Code.wp _ _ _ _ (w1.alloc (.cells (bcells (bareBox cap pol) (.slice none 0 0)) 29))
  generalize w1.alloc (.cells (bcells (bareBox cap pol) (.slice none 0 0)) 29) = w2 at s2 b2 r2 q2 ⊢
  clear s1 b1 r1
  go_wp2_with (first
    | refine wpList_load_row rfl 29 (.tmp 6) rfl (w.heap.size + 1) rfl 29 (bcells (bareBox cap pol) (.slice none 0 0)) (0, 0) _ q2 Tryd.underlying29 rfl (by kernel_rfl) ?_)
  refine (CB.out _).mono ?_
  rintro e w3 ⟨rfl, hb⟩
  have q3 := (hb.block _ (by omega)).trans q2
  have r3 := r2.below hb
  have b3 : Below w.heap.size w w3 := b2.trans (hb.mono (by omega))
  clear s2 b2 r2 q2 hb
  cases ok
  · have HE := Lib.hid (show nb = (zeroBox, false) by rw [HN.out]; rfl)
    go_wp2_with (first
      | refine wpList_store_rowTo rfl 29 (.tmp 4) (.tmp 13) rfl rfl w.heap.size (bcells zeroBox (.slice none 0 0)) rfl rfl 29 _ r3 (by kernel_rfl) rfl (bcells_one _ _ _ _) ?_)
    have G := grown_setRow w3 w.heap.size (bcells zeroBox (.slice none 0 0))
    have HR := setRow_heap (bcells zeroBox (.slice none 0 0)) r3
    have HB := b3.trans (below_of_grown (n := w.heap.size) G (Nat.le_refl _) b3.size)
    refine bodyPost_ret (results_row_tmp rfl _ _ _ _ _ _ _ rfl HR Tryd.underlying29 rfl (by kernel_rfl)) rfl ⟨by rw [HE.out]; rfl, HB⟩
  · have HE := Lib.hid (show nb = (bareBox cap pol, true) by rw [HN.out]; rfl)
    go_wp2_with (first
      | refine wpList_load_row rfl 29 (.tmp 6) rfl (w.heap.size + 1) rfl 29 (bcells (bareBox cap pol) (.slice none 0 0)) (0, 0) _ q3 Tryd.underlying29 rfl (by kernel_rfl) ?_
      | refine wpList_store_rowTo rfl 29 (.tmp 4) (.tmp 14) rfl rfl w.heap.size (bcells (bareBox cap pol) (.slice none 0 0)) rfl rfl 29 _ r3 (by kernel_rfl) rfl (bcells_one _ _ _ _) ?_)
    have G := grown_setRow w3 w.heap.size (bcells (bareBox cap pol) (.slice none 0 0))
    have HR := setRow_heap (bcells (bareBox cap pol) (.slice none 0 0)) r3
    have HB := b3.trans (below_of_grown (n := w.heap.size) G (Nat.le_refl _) b3.size)
    refine bodyPost_ret (results_row_tmp rfl _ _ _ _ _ _ _ rfl HR Tryd.underlying29 rfl (by kernel_rfl)) rfl ⟨by rw [HE.out]; rfl, HB⟩

end Go.Proofs.YtgmlohgfkbjmlaaDoor

/- Where one of that topic is: mathematics. -/
namespace Go.Proofs.YtgmlohgfkbjmlaaDoor
open Go.RowKit

/-- Where one of that topic is, as the program tells. -/
def sameN (b : BoxM) (t : ByteArray) : Int := match sameQ b t with | some i => (i : Int) | none => -1

/-- None of that topic ahead of k. -/
def noneQTo (l : List MsgM) (t : ByteArray) (k : Nat) : Bool := (l.take k).all (fun x => !(sameT x.2.2.1 t))
theorem noneQTo_succ (l : List MsgM) (t : ByteArray) (k : Nat) (h : k < l.length) : noneQTo l t (k + 1) = (noneQTo l t k && !(sameT l[k].2.2.1 t)) := by
  unfold noneQTo
  rw [List.take_succ_eq_append_getElem h, List.all_append]
  simp
theorem sameAt_none {l : List MsgM} {t : ByteArray} : ∀ (n k : Nat), k + n ≤ l.length → (∀ j, k ≤ j → j < k + n → ∀ h : j < l.length, sameT l[j].2.2.1 t = false) → sameAt l t k n = none
  | 0, _, _, _ => rfl
  | n + 1, k, hk, h => by
    have hlt : k < l.length := by omega
    have h1 := h k (Nat.le_refl _) (by omega) hlt
    unfold sameAt
    rw [List.getD_eq_getElem?_getD, List.getElem?_eq_getElem hlt, Option.getD_some, h1]
    exact sameAt_none n (k + 1) (by omega) (fun j h2 h3 h4 => h j (by omega) (by omega) h4)
theorem sameAt_some {l : List MsgM} {t : ByteArray} {i : Nat} (hi : i < l.length) (hs : sameT l[i].2.2.1 t = true) : ∀ (n k : Nat), k ≤ i → i < k + n → (∀ j, k ≤ j → j < i → ∀ h : j < l.length, sameT l[j].2.2.1 t = false) → sameAt l t k n = some i
  | 0, k, h1, h2, _ => by omega
  | n + 1, k, h1, h2, h => by
    have hlt : k < l.length := by omega
    unfold sameAt
    rw [List.getD_eq_getElem?_getD, List.getElem?_eq_getElem hlt, Option.getD_some]
    by_cases hk : k = i
    · subst hk; rw [hs]; rfl
    · rw [h k (Nat.le_refl _) (by omega) hlt]
      exact sameAt_some hi hs n (k + 1) (by omega) (by omega) (fun j h3 h4 h5 => h j (by omega) h4 h5)
theorem sameAt_lt {l : List MsgM} {t : ByteArray} : ∀ (n k : Nat) {i : Nat}, sameAt l t k n = some i → i < k + n
  | 0, _, _, h => by unfold sameAt at h; cases h
  | n + 1, k, i, h => by
    unfold sameAt at h
    split at h
    · cases h; omega
    · have := sameAt_lt n (k + 1) h; omega
theorem sameQ_lt {b : BoxM} {t : ByteArray} {i : Nat} (h : sameQ b t = some i) : i < b.q.length := by
  unfold sameQ at h
  split at h
  · have := sameAt_lt _ _ h; omega
  · cases h
theorem noneQTo_each {l : List MsgM} {t : ByteArray} {k : Nat} (h : noneQTo l t k = true) (j : Nat) (hj : j < k) (hl : j < l.length) : sameT l[j].2.2.1 t = false := by
  unfold noneQTo at h
  rw [List.all_eq_true] at h
  have := h l[j] (List.mem_take_iff_getElem.2 ⟨j, by omega, rfl⟩)
  simpa using this
theorem sameN_four {b : BoxM} {t : ByteArray} (h : b.pol ≠ 4) : sameN b t = -1 := by
  unfold sameN sameQ; rw [if_neg h]
theorem sameN_none {b : BoxM} {t : ByteArray} (h : noneQTo b.q t b.q.length = true) : sameN b t = -1 := by
  unfold sameN sameQ
  split
  · rename_i i hi
    by_cases hp : b.pol = 4
    · rw [if_pos hp, sameAt_none b.q.length 0 (by omega) (fun j _ h2 h3 => noneQTo_each h j h3 h3)] at hi; cases hi
    · rw [if_neg hp] at hi; cases hi
  · rfl
theorem sameN_some {b : BoxM} {t : ByteArray} {k : Nat} (hp : b.pol = 4) (hk : k < b.q.length) (h : noneQTo b.q t k = true) (hs : sameT b.q[k].2.2.1 t = true) : sameN b t = (k : Int) := by
  unfold sameN sameQ
  rw [if_pos hp, sameAt_some hk hs b.q.length 0 (Nat.zero_le _) (by omega) (fun j _ h3 h4 => noneQTo_each h j h3 h4)]

end Go.Proofs.YtgmlohgfkbjmlaaDoor

/- The walk of the reference's look for one of that topic. -/
namespace Go.Proofs.YtgmlohgfkbjmlaaDoor
open Go.RowKit

set_option maxRecDepth 100000 in
set_option maxHeartbeats 1600000 in
theorem specSame_any (b : BoxM) (v : Value) (t : ByteArray) (w : World) (hl : b.q.length ≤ 2000000) (hv : MsgsAt w v b.q) :
    Calls Tryd.prog 32 #[bagg b v, .string t] w fun e w' => e = .returned (.int .i64 (sameN b t)) ∧ Below w.heap.size w w' := by
  have HV := Lib.hid hv
  obtain ⟨ua, uc, rfl, _, _, _⟩ := hv
  go_enter Tryd.func32, Tryd.ntmps32
  go_upto_region 1 with (fail)
  have b0 : Below w.heap.size w (w.alloc (.cells (bcells b (.slice ua b.q.length uc)) 29)) := (Below.refl _ _).alloc (Nat.le_refl _) _
  have r0 : BBox (w.alloc (.cells (bcells b (.slice ua b.q.length uc)) 29)) w.heap.size 29 b (.slice ua b.q.length uc) := BBox.new _ _ _ _
  have v0 := HV.out.alloc (.cells (bcells b (.slice ua b.q.length uc)) 29)
  generalize w.alloc (.cells (bcells b (.slice ua b.q.length uc)) 29) = w0 at b0 r0 v0 ⊢
  have B0 := Lib.hid b0
  obtain ⟨x0, x1, x2, x3, x4, x5, x6, x7⟩ := r0.cells
  clear b0 HV r0
  go_wp2
  go_loopw [5] (fun i wr => ∃ k : Nat, k ≤ b.q.length ∧ i = .int .i64 k ∧ Hid (noneQTo b.q t k = true) ∧ w0 = wr) (fun i _ => b.q.length - (intOf i).toNat)
  case atStart => exact ⟨0, Nat.zero_le _, rfl, rfl, rfl⟩
  case round =>
    obtain ⟨k, hk, rfl, HT, rfl⟩ := hrel
    by_cases hlt : k < b.q.length
    · have g0 : decide (k < b.q.length) = true := decide_eq_true hlt
      by_cases hp : b.pol = 4
      · have g1 : decide (b.pol = 4) = true := decide_eq_true hp
        obtain ⟨bb, o, rfl, hin⟩ : ∃ bb o, ua = some ⟨bb, o, none⟩ ∧ MsgsIn w0 bb o b.q := by
          obtain ⟨_, _, he, _, _, h⟩ := v0
          cases he
          rcases h with h | h
          · rw [h] at hlt; simp at hlt
          · exact h
        obtain ⟨p0, p1, p2, p3⟩ := hin k hlt
        have HYES := Lib.hid (fun hs => sameN_some hp hlt HT.out (t := t) hs)
        have HGO : Hid (sameT b.q[k].2.2.1 t = false → noneQTo b.q t (k + 1) = true) := Lib.hid (fun h => by rw [noneQTo_succ b.q t k hlt, HT.out, h]; rfl)
        obtain ⟨st, hst⟩ : ∃ st, sameT b.q[k].2.2.1 t = st := ⟨_, rfl⟩
        rw [hst] at HYES HGO
        obtain ⟨x, hx⟩ : ∃ x, b.q[k] = x := ⟨_, rfl⟩
        have g2 : (x.2.2.1.toList == t.toList) = st := by rw [← hst, hx]; rfl
        rw [hx] at p0 p1 p2 p3
        clear hst hx hin HT
        cases st
        · have HN := Lib.hid (HGO.out rfl)
          go_wp2
          go_roundw
          case rel => exact ⟨k + 1, by omega, by go_num, HN, trivial⟩
          case measure => simp [intOf]; omega
        · have HE := Lib.hid (HYES.out rfl)
          go_wp2
          go_ret
          exact ⟨by rw [HE.out]; rfl, B0.out⟩
      · have g1 : decide (b.pol = 4) = false := decide_eq_false hp
        have HE := Lib.hid (sameN_four (t := t) hp)
        go_wp2
        go_ret
        exact ⟨by first | (rw [HE.out]; rfl) | rw [HE.out], B0.out⟩
    · obtain rfl : k = b.q.length := by omega
      have g0 : decide (b.q.length < b.q.length) = false := decide_eq_false (by omega)
      have HE := Lib.hid (sameN_none (t := t) HT.out)
      go_wp2
      go_ret
      exact ⟨by first | (rw [HE.out]; rfl) | rw [HE.out], B0.out⟩

end Go.Proofs.YtgmlohgfkbjmlaaDoor
