/- Small texts, laid together. -/
import Derived.Test.YtnclkdhaabggkaaDoorZB2
import Derived.Test.YtnclkdhaabggkaaDoorZB1
import Derived.Deep.Cut
import Derived.Deep.CutBlock
import Derived.Lib.Hide
set_option linter.unusedSimpArgs false
set_option linter.unusedVariables false
/- The walk of the program's look at the counts of a box. -/
namespace Go.Proofs.YtnclkdhaabggkaaDoor
open Go.RowKit

/-- The four counts. -/
def cntL (b : BoxM) : List Int := [b.ofr, b.rcv, b.drp, b.mrg]
def cntR (b : BoxM) : Bool := inB b.ofr 0 100000 && inB b.rcv 0 100000 && inB b.drp 0 100000 && inB b.mrg 0 100000
def countsB (b : BoxM) : Bool := cntR b && decide (b.ofr = b.rcv + b.q.length + b.drp + b.mrg)

theorem boxB_parts (b : BoxM) : boxB b = (inB b.cap 1 16 && (inB b.pol 1 4 && ((decide ((b.q.length : Int) ≤ b.cap) && msgsAll b.q) && countsB b))) := by
  unfold boxB boxN countsB cntR
  cases inB b.cap 1 16 <;> cases inB b.pol 1 4 <;> cases decide ((b.q.length : Int) ≤ b.cap) <;> cases inB b.ofr 0 100000 <;> cases inB b.rcv 0 100000 <;> cases inB b.drp 0 100000 <;> cases inB b.mrg 0 100000 <;> cases msgsAll b.q <;> rfl

theorem cntR_all {b : BoxM} (h : ∀ j, j < 4 → inB ((cntL b).getD j 0) 0 100000 = true) : cntR b = true := by
  have h0 := h 0 (by decide)
  have h1 := h 1 (by decide)
  have h2 := h 2 (by decide)
  have h3 := h 3 (by decide)
  simp only [cntL, List.getD_cons_zero, List.getD_cons_succ] at h0 h1 h2 h3
  unfold cntR
  rw [h0, h1, h2, h3]
  rfl

theorem cntR_bad {b : BoxM} {j : Nat} (hj : j < 4) (h : inB ((cntL b).getD j 0) 0 100000 = false) : cntR b = false := by
  unfold cntR
  match j, hj with
  | 0, _ => simp only [cntL, List.getD_cons_zero, List.getD_cons_succ] at h; rw [h]; rfl
  | 1, _ => simp only [cntL, List.getD_cons_zero, List.getD_cons_succ] at h; rw [h]; simp
  | 2, _ => simp only [cntL, List.getD_cons_zero, List.getD_cons_succ] at h; rw [h]; simp
  | 3, _ => simp only [cntL, List.getD_cons_zero, List.getD_cons_succ] at h; rw [h]; simp

theorem cntR_num {b : BoxM} (h : cntR b = true) : 0 ≤ b.ofr ∧ b.ofr ≤ 100000 ∧ 0 ≤ b.rcv ∧ b.rcv ≤ 100000 ∧ 0 ≤ b.drp ∧ b.drp ≤ 100000 ∧ 0 ≤ b.mrg ∧ b.mrg ≤ 100000 := by
  unfold cntR inB at h
  simp only [Bool.and_eq_true, decide_eq_true_eq] at h
  omega

set_option maxRecDepth 100000 in
set_option maxHeartbeats 1600000 in
theorem countsOk_any (b : BoxM) (ua : Option Addr) (uc : Nat) (w : World) (hl : b.q.length ≤ 1048576) :
    Calls Tryd.prog 38 #[bagg b (.slice ua b.q.length uc)] w fun e w' => e = .returned (.bool (countsB b)) ∧ Below w.heap.size w w' := by
  have HC : Hid (countsB b = (cntR b && decide (b.ofr = b.rcv + b.q.length + b.drp + b.mrg))) := Lib.hid rfl
  have HA := Lib.hid (fun h => cntR_all (b := b) h)
  have HBD := Lib.hid (fun j hj h => cntR_bad (b := b) (j := j) hj h)
  have HNUM := Lib.hid (fun h => cntR_num (b := b) h)
  go_enter Tryd.func38, Tryd.ntmps38
  go_upto_region 1 with (fail)
  have s1 : (w.alloc (.cells (bcells b (.slice ua b.q.length uc)) 28)).heap.size = w.heap.size + 1 := by simp
  have b1 : Below w.heap.size w (w.alloc (.cells (bcells b (.slice ua b.q.length uc)) 28)) := (Below.refl _ _).alloc (Nat.le_refl _) _
  have r1 : BBox (w.alloc (.cells (bcells b (.slice ua b.q.length uc)) 28)) w.heap.size 28 b (.slice ua b.q.length uc) := BBox.new _ _ _ _
  generalize w.alloc (.cells (bcells b (.slice ua b.q.length uc)) 28) = w1 at s1 b1 r1 ⊢
  have R1 := Lib.hid r1
  obtain ⟨x0, x1, x2, x3, x4, x5, x6, x7⟩ := r1.cells
  clear r1
  go_upto_block 0 with (fail)
  have s2 : (w1.alloc (.cells #[.int .i64 b.ofr, .int .i64 b.rcv, .int .i64 b.drp, .int .i64 b.mrg] 2)).heap.size = w.heap.size + 1 + 1 := by simp [s1]
  have b2 : Below w.heap.size w (w1.alloc (.cells #[.int .i64 b.ofr, .int .i64 b.rcv, .int .i64 b.drp, .int .i64 b.mrg] 2)) := b1.alloc (by omega) _
  have r2 := R1.out.below ((Below.refl _ w1).alloc (Nat.le_refl _) (.cells #[.int .i64 b.ofr, .int .i64 b.rcv, .int .i64 b.drp, .int .i64 b.mrg] 2))
  have q2 : (w1.alloc (.cells #[.int .i64 b.ofr, .int .i64 b.rcv, .int .i64 b.drp, .int .i64 b.mrg] 2)).heap[w.heap.size + 1]? = some (.cells #[.int .i64 b.ofr, .int .i64 b.rcv, .int .i64 b.drp, .int .i64 b.mrg] 2 (0, 0)) := by rw [← s1]; exact heap_alloc_new _ _
  have HQ : Hid (∀ j, j < 4 → (w1.alloc (.cells #[.int .i64 b.ofr, .int .i64 b.rcv, .int .i64 b.drp, .int .i64 b.mrg] 2)).cell? ⟨w.heap.size + 1, j, none⟩ = some (.int .i64 ((cntL b).getD j 0))) := Lib.hid (fun j hj => by
    match j, hj with
    | 0, _ => exact cell_of_heap q2 0
    | 1, _ => exact cell_of_heap q2 1
    | 2, _ => exact cell_of_heap q2 2
    | 3, _ => exact cell_of_heap q2 3)
  have R2 := Lib.hid r2
  have B2 := Lib.hid b2
  generalize w1.alloc (.cells #[.int .i64 b.ofr, .int .i64 b.rcv, .int .i64 b.drp, .int .i64 b.mrg] 2) = w2 at s2 HQ R2 B2 ⊢
  clear b2 r2 q2 s1 b1 R1 x0 x1 x2 x3 x4 x5 x6 x7
  go_wp2
  go_loopw [15] (fun i wr => ∃ k : Nat, k ≤ 4 ∧ i = .int .i64 k ∧ wr = w2 ∧ Hid (∀ j, j < k → inB ((cntL b).getD j 0) 0 100000 = true)) (fun i _ => 4 - (intOf i).toNat)
  case atStart => exact ⟨0, Nat.zero_le _, rfl, rfl, Lib.hid (fun j hj => absurd hj (Nat.not_lt_zero _))⟩
  case round =>
    obtain ⟨k, hk, rfl, rfl, HT⟩ := hrel
    by_cases hlt : k < 4
    · have c0 := HQ.out k hlt
      have HN : Hid (inB ((cntL b).getD k 0) 0 100000 = true → ∀ j, j < k + 1 → inB ((cntL b).getD j 0) 0 100000 = true) := Lib.hid (fun h j hj => by
        rcases Nat.lt_or_ge j k with h1 | h1
        · exact HT.out j h1
        · have : j = k := by omega
          subst this; exact h)
      have HBK := Lib.hid (HBD.out k hlt)
      have HIN : Hid (inB ((cntL b).getD k 0) 0 100000 = (decide (0 ≤ (cntL b).getD k 0) && decide ((cntL b).getD k 0 ≤ 100000))) := Lib.hid rfl
      generalize inB ((cntL b).getD k 0) 0 100000 = ib at HN HBK HIN
      generalize (cntL b).getD k 0 = z at c0 HIN
      have g0 : decide ((k : Int) < 4) = true := decide_eq_true (by omega)
      clear HT
      by_cases h1 : z < 0
      · have g1 : decide (z < 0) = true := decide_eq_true h1
        have HE := Lib.hid (HBK.out (by rw [HIN.out, decide_eq_false (show ¬ (0 ≤ z) by omega)]; rfl))
        clear h1
        go_wp2
        go_ret
        exact ⟨ret_bool (by rw [HC.out, HE.out]; rfl), B2.out⟩
      have g1 : decide (z < 0) = false := decide_eq_false h1
      by_cases h2 : 100000 < z
      · have g2 : decide (100000 < z) = true := decide_eq_true h2
        have HE := Lib.hid (HBK.out (by rw [HIN.out, decide_eq_false (show ¬ (z ≤ 100000) by omega)]; simp))
        clear h1 h2
        go_wp2
        go_ret
        exact ⟨ret_bool (by rw [HC.out, HE.out]; rfl), B2.out⟩
      have g2 : decide (100000 < z) = false := decide_eq_false h2
      have HO := Lib.hid (HN.out (by rw [HIN.out, decide_eq_true (show 0 ≤ z by omega), decide_eq_true (show z ≤ 100000 by omega)]; rfl))
      clear h1 h2
      go_wp2
      go_roundw
      case rel => exact ⟨k + 1, by omega, by go_num, by trivial, HO⟩
      case measure => simp [intOf]; omega
    · obtain rfl : k = 4 := by omega
      have HE := Lib.hid (HA.out HT.out)
      obtain ⟨n1, n2, n3, n4, n5, n6, n7, n8⟩ := HNUM.out HE.out
      obtain ⟨x0, x1, x2, x3, x4, x5, x6, x7⟩ := R2.out.cells
      have g1 : IntKind.i64.wrap (b.rcv + (b.q.length : Int)) = b.rcv + (b.q.length : Int) := by rw [IntKind.wrap_i64]; omega
      have g2 : IntKind.i64.wrap (b.rcv + (b.q.length : Int) + b.drp) = b.rcv + (b.q.length : Int) + b.drp := by rw [IntKind.wrap_i64]; omega
      have g3 : IntKind.i64.wrap (b.rcv + (b.q.length : Int) + b.drp + b.mrg) = b.rcv + (b.q.length : Int) + b.drp + b.mrg := by rw [IntKind.wrap_i64]; omega
      go_wp2
      go_ret
      exact ⟨ret_bool (by rw [HC.out, HE.out]; rfl), B2.out⟩

end Go.Proofs.YtnclkdhaabggkaaDoor

/- The walks of the program's look at a queue and at the counts. -/
namespace Go.Proofs.YtnclkdhaabggkaaDoor
open Go.RowKit

set_option maxRecDepth 100000 in
set_option maxHeartbeats 1600000 in
theorem containsG_any (u : Value) (l : List MsgM) (pr : MsgM → Bool) (g : Nat) (lb : Array Value) (eg : ∀ args w, (callFunc g args).run Tryd.prog w = .ok (.enter g args) w) (w : World) (hl : l.length ≤ 2000000) (hv : MsgsAt w u l) (hp : PredM g lb pr l w) :
    Calls Tryd.prog 43 #[u, .func (.func g) #[] lb] w fun e w' => e = .returned (.bool (l.any pr)) ∧ Below w.heap.size w w' := by
  have CI := Lib.hid (indexG_any u l pr g lb eg w hl hv hp)
  obtain ⟨ua, uc, rfl, _, _, _⟩ := hv
  clear hp hl
  go_enter Tryd.func43, Tryd.ntmps43
  go_wp2_with fail
  refine CI.out.mono ?_
  rintro e w1 ⟨z, rfl, hz, hb⟩
  have HB := Lib.hid hb
  clear hb CI
  rcases hz with ⟨rfl, hz⟩ | ⟨k, rfl, hk, hp, _⟩
  · have HE : Hid (l.any pr = false) := Lib.hid (by rw [List.any_eq_false]; exact fun x hx => by rw [hz x hx]; decide)
    clear hz
    go_wp2
    go_ret
    exact ⟨ret_bool HE.out.symm, HB.out⟩
  · have HE : Hid (l.any pr = true) := Lib.hid (by rw [List.any_eq_true]; exact ⟨l[k], List.getElem_mem hk, hp⟩)
    have g1 : decide ((0 : Int) ≤ (k : Int)) = true := decide_eq_true (by omega)
    clear hp
    go_wp2
    go_ret
    exact ⟨ret_bool HE.out.symm, HB.out⟩

set_option maxRecDepth 100000 in
set_option maxHeartbeats 1600000 in
theorem queueC_any (x : MsgM) (m : Int) (w : World) (hx : x.2.2.1.size ≤ 1048576) (hm : w.cell? ⟨0, 0, none⟩ = some (.int .i64 m)) :
    Calls Tryd.prog 44 #[magg x] w fun e w' => e = .returned (.bool (!msgB x)) ∧ Below w.heap.size w w' := by
  have CM := Lib.hid (fun w' hm => implMsgOk_any x m w' hx hm)
  generalize msgB x = b at CM ⊢
  have HM := Lib.hid hm
  obtain ⟨q, t, p, d⟩ := x
  have ha : Below w.heap.size w (w.alloc (.cells #[.int .i64 q, .int .i64 t, .string p, .int .i64 d] 30)) := (Below.refl _ _).alloc (Nat.le_refl _) _
  clear hm
  go_enter Tryd.func44, Tryd.ntmps44
  go_wp2_with fail
  refine (CM.out _ ((ha.cell (World.block_lt_of_cell? _ _ HM.out)).trans HM.out)).mono ?_
  rintro e w1 ⟨rfl, hb⟩
  have HE := Lib.hid (below_end ha hb)
  clear ha hb
  go_wp2
  go_ret
  exact ⟨rfl, HE.out⟩

/-- The look at the queue. -/
def queueB (l : List MsgM) (c : Int) : Bool := decide ((l.length : Int) ≤ c) && msgsAll l

set_option maxRecDepth 100000 in
set_option maxHeartbeats 1600000 in
theorem queueOk_any (u : Value) (l : List MsgM) (c : Int) (m : Int) (w : World) (hl : l.length ≤ 1048576) (hs : ∀ x ∈ l, x.2.2.1.size ≤ 1048576) (hv : MsgsAt w u l) (hm : w.cell? ⟨0, 0, none⟩ = some (.int .i64 m)) :
    Calls Tryd.prog 37 #[u, .int .i64 c] w fun e w' => e = .returned (.bool (queueB l c)) ∧ Below w.heap.size w w' := by
  have CC := Lib.hid (containsG_any u l (fun x => !msgB x) 44 #[] (enters_of Tryd.func44 (by kernel_rfl) rfl) w (by omega) hv (fun W x hx hb => queueC_any x m W (hs x hx) ((hb.cell (World.block_lt_of_cell? _ _ hm)).trans hm)))
  have HQ : Hid (queueB l c = (decide ((l.length : Int) ≤ c) && msgsAll l)) := Lib.hid rfl
  have HA : Hid (msgsAll l = !l.any (fun x => !msgB x)) := Lib.hid (by
    unfold msgsAll
    rw [List.not_any_eq_all_not]
    congr 1
    funext x
    simp)
  generalize l.any (fun x => !msgB x) = an at CC HA
  generalize msgsAll l = ma at HA HQ
  obtain ⟨ua, uc, rfl, _, _, _⟩ := hv
  clear hs hm
  go_enter Tryd.func37, Tryd.ntmps37
  by_cases h1 : (l.length : Int) ≤ c
  · have g1 : decide ((l.length : Int) ≤ c) = true := decide_eq_true h1
    go_wp2_with fail
    refine CC.out.mono ?_
    rintro e w1 ⟨rfl, hb⟩
    have HB := Lib.hid hb
    clear hb CC
    go_wp2
    go_ret
    exact ⟨ret_bool (by rw [HQ.out, HA.out, g1]; simp), HB.out⟩
  · have g1 : decide ((l.length : Int) ≤ c) = false := decide_eq_false h1
    go_wp2
    go_ret
    exact ⟨ret_bool (by rw [HQ.out, g1]; rfl), Below.refl _ _⟩

end Go.Proofs.YtnclkdhaabggkaaDoor

/- The walks of impl.BoxOk and impl.NewBox. -/
namespace Go.Proofs.YtnclkdhaabggkaaDoor
open Go.RowKit

set_option maxRecDepth 100000 in
set_option maxHeartbeats 3200000 in
theorem implBoxOk_any (b : BoxM) (v : Value) (m : Int) (w : World) (hl : b.q.length ≤ 1048576) (hs : ∀ x ∈ b.q, x.2.2.1.size ≤ 1048576) (hv : MsgsAt w v b.q) (hm : w.cell? ⟨0, 0, none⟩ = some (.int .i64 m)) :
    Calls Tryd.prog 22 #[bagg b v] w fun e w' => e = .returned (.bool (boxB b)) ∧ Below w.heap.size w w' := by
  have C1 := Lib.hid (fun w' => capOk_any b.cap w')
  have C2 := Lib.hid (fun w' => policyOk_any b.pol w')
  have C3 := Lib.hid (fun w' (h : MsgsAt w' v b.q) hm => queueOk_any v b.q b.cap m w' hl hs h hm)
  have HB := Lib.hid (boxB_parts b)
  have HQ : Hid (queueB b.q b.cap = (decide ((b.q.length : Int) ≤ b.cap) && msgsAll b.q)) := Lib.hid rfl
  have HV := Lib.hid hv
  have HM := Lib.hid hm
  obtain ⟨ua, uc, rfl, _, _, _⟩ := hv
  have C4 := Lib.hid (fun w' => countsOk_any b ua uc w' hl)
  clear hs hm
  rw [← HQ.out] at HB
  generalize inB b.cap 1 16 = p1 at C1 HB
  generalize inB b.pol 1 4 = p2 at C2 HB
  generalize queueB b.q b.cap = p3 at C3 HB
  generalize countsB b = p4 at C4 HB
  generalize boxB b = R at HB ⊢
  go_enter Tryd.func22, Tryd.ntmps22
  go_upto_region 1 with (fail)
  have b0 : Below w.heap.size w (w.alloc (.cells (bcells b (.slice ua b.q.length uc)) 28)) := (Below.refl _ _).alloc (Nat.le_refl _) _
  have r0 : BBox (w.alloc (.cells (bcells b (.slice ua b.q.length uc)) 28)) w.heap.size 28 b (.slice ua b.q.length uc) := BBox.new _ _ _ _
  generalize w.alloc (.cells (bcells b (.slice ua b.q.length uc)) 28) = w0 at b0 r0 ⊢
  have x0 := r0.cells.1
  have x1 := r0.cells.2.1
  have x2 := r0.cells.2.2.1
  go_wp2_with fail
  refine (C1.out _).mono ?_
  rintro e w1 ⟨rfl, hw⟩
  subst hw
  cases p1
  · have HE := Lib.hid (show R = false by rw [HB.out]; rfl)
    clear HB
    go_wp2
    go_ret
    exact ⟨ret_bool HE.out.symm, b0⟩
  go_wp2_with fail
  refine (C2.out _).mono ?_
  rintro e w1 ⟨rfl, hw⟩
  subst hw
  cases p2
  · have HE := Lib.hid (show R = false by rw [HB.out]; rfl)
    clear HB
    go_wp2
    go_ret
    exact ⟨ret_bool HE.out.symm, b0⟩
  go_wp2_with fail
  refine (C3.out _ (HV.out.below b0) ((b0.cell (World.block_lt_of_cell? _ _ HM.out)).trans HM.out)).mono ?_
  rintro e w1 ⟨rfl, hb⟩
  have r1 := r0.below hb
  have b1 := below_end b0 hb
  clear r0 b0 hb x0 x1 x2 C1 C2 C3
  cases p3
  · have HE := Lib.hid (show R = false by rw [HB.out]; rfl)
    clear HB
    go_wp2
    go_ret
    exact ⟨ret_bool HE.out.symm, b1⟩
  have HE := Lib.hid (show R = p4 by rw [HB.out]; simp)
  clear HB
  obtain ⟨x0, x1, x2, x3, x4, x5, x6, x7⟩ := BBox.cells r1
  clear r1
  go_wp2_with fail
  clear x0 x1 x2 x3 x4 x5 x6 x7
  refine (C4.out _).mono ?_
  rintro e w2 ⟨rfl, hb⟩
  have b2 := below_end b1 hb
  clear b1 hb C4
  go_wp2
  go_ret
  exact ⟨ret_bool HE.out.symm, b2⟩

end Go.Proofs.YtnclkdhaabggkaaDoor

/- The walk of the reference's BoxOk. -/
namespace Go.Proofs.YtnclkdhaabggkaaDoor
open Go.RowKit

theorem specCount_any (x : Int) (w : World) :
    Calls Tryd.prog 31 #[.int .i64 x] w fun e w' => e = .returned (.bool (inB x 0 100000)) ∧ w = w' := by
  have C := Lib.hid (fun w' => specIn_any x 0 100000 w')
  go_enter Tryd.func31, Tryd.ntmps31
  go_wp2_with fail
  refine (C.out _).mono ?_
  rintro e w1 ⟨rfl, rfl⟩
  go_wp2
  go_ret
  exact ⟨rfl, rfl⟩

/-- Of a queue, the first k are right. -/
def msgsAllTo (l : List MsgM) (k : Nat) : Bool := msgsAll (l.take k)
theorem msgsAllTo_succ (l : List MsgM) (k : Nat) (h : k < l.length) : msgsAllTo l (k + 1) = (msgsAllTo l k && msgB l[k]) := by
  unfold msgsAllTo msgsAll
  rw [List.take_succ_eq_append_getElem h, List.all_append]
  simp
theorem msgsAllTo_bad {l : List MsgM} {k : Nat} (h : k < l.length) (hb : msgB l[k] = false) : msgsAll l = false := by
  unfold msgsAll
  rw [List.all_eq_false]
  exact ⟨l[k], List.getElem_mem h, by simp [hb]⟩

theorem below_weak {w0 w1 : World} {n : Nat} (h : Below w0.heap.size w0 w1) (_ : n < w0.heap.size) : Below w0.heap.size w0 w1 := h

set_option maxRecDepth 100000 in
set_option maxHeartbeats 1600000 in
theorem specBoxOk_any (b : BoxM) (v : Value) (w : World) (hs : ∀ x ∈ b.q, x.2.2.1.size ≤ 1048576) (hv : MsgsAt w v b.q) :
    Calls Tryd.prog 19 #[bagg b v] w fun e w' => e = .returned (.bool (boxB b)) ∧ Below w.heap.size w w' := by
  have C1 := Lib.hid (fun w' => specIn_any b.cap 1 16 w')
  have C2 := Lib.hid (fun w' => specIn_any b.pol 1 4 w')
  have C4 := Lib.hid (fun w' => specCount_any b.ofr w')
  have C5 := Lib.hid (fun w' => specCount_any b.rcv w')
  have C6 := Lib.hid (fun w' => specCount_any b.drp w')
  have C7 := Lib.hid (fun w' => specCount_any b.mrg w')
  have HN : Hid (boxN b = ((decide (1 ≤ b.cap) && decide (b.cap ≤ 16)) && (decide (1 ≤ b.pol) && decide (b.pol ≤ 4)) && decide ((b.q.length : Int) ≤ b.cap) && inB b.ofr 0 100000 && inB b.rcv 0 100000 && inB b.drp 0 100000 && inB b.mrg 0 100000)) := Lib.hid rfl
  have HNB : Hid (boxN b = true → 0 ≤ b.ofr ∧ b.ofr ≤ 100000 ∧ 0 ≤ b.rcv ∧ b.rcv ≤ 100000 ∧ 0 ≤ b.drp ∧ b.drp ≤ 100000 ∧ 0 ≤ b.mrg ∧ b.mrg ≤ 100000 ∧ b.q.length ≤ 16) := Lib.hid (fun h => by
    unfold boxN inB at h
    simp only [Bool.and_eq_true, decide_eq_true_eq] at h
    omega)
  have HBX : Hid (boxB b = (boxN b && (msgsAll b.q && decide (b.ofr = b.rcv + b.q.length + b.drp + b.mrg)))) := Lib.hid rfl
  have HV := Lib.hid hv
  obtain ⟨ua, uc, rfl, _, _, _⟩ := hv
  have HS := Lib.hid hs
  clear hs
  generalize (decide (1 ≤ b.cap) && decide (b.cap ≤ 16)) = p1 at C1 HN
  generalize (decide (1 ≤ b.pol) && decide (b.pol ≤ 4)) = p2 at C2 HN
  generalize inB b.ofr 0 100000 = p4 at C4 HN
  generalize inB b.rcv 0 100000 = p5 at C5 HN
  generalize inB b.drp 0 100000 = p6 at C6 HN
  generalize inB b.mrg 0 100000 = p7 at C7 HN
  go_enter Tryd.func19, Tryd.ntmps19
  go_upto_region 1 with (fail)
  have b0 : Below w.heap.size w (w.alloc (.cells (bcells b (.slice ua b.q.length uc)) 28)) := (Below.refl _ _).alloc (Nat.le_refl _) _
  have r0 : BBox (w.alloc (.cells (bcells b (.slice ua b.q.length uc)) 28)) w.heap.size 28 b (.slice ua b.q.length uc) := BBox.new _ _ _ _
  have v0 := HV.out.alloc (.cells (bcells b (.slice ua b.q.length uc)) 28)
  generalize w.alloc (.cells (bcells b (.slice ua b.q.length uc)) 28) = w0 at b0 r0 v0 ⊢
  have B0 := Lib.hid b0
  have V0 := Lib.hid v0
  have R0 := Lib.hid r0
  obtain ⟨x0, x1, x2, x3, x4, x5, x6, x7⟩ := r0.cells
  clear b0 v0 r0
  go_wp2_with fail
  refine (C1.out _).mono ?_
  rintro e w1 ⟨rfl, hw⟩
  subst hw
  cases p1
  · have HE := Lib.hid (show boxB b = false by rw [HBX.out, HN.out]; simp)
    go_wp2
    go_ret
    exact ⟨ret_bool HE.out.symm, B0.out⟩
  go_wp2_with fail
  refine (C2.out _).mono ?_
  rintro e w1 ⟨rfl, hw⟩
  subst hw
  cases p2
  · have HE := Lib.hid (show boxB b = false by rw [HBX.out, HN.out]; simp)
    go_wp2
    go_ret
    exact ⟨ret_bool HE.out.symm, B0.out⟩
  by_cases h3 : b.cap < b.q.length
  · have g3 : decide (b.cap < b.q.length) = true := decide_eq_true h3
    have HE := Lib.hid (show boxB b = false by rw [HBX.out, HN.out, decide_eq_false (show ¬ ((b.q.length : Int) ≤ b.cap) by omega)]; simp)
    go_wp2
    go_ret
    exact ⟨ret_bool HE.out.symm, B0.out⟩
  have g3 : decide (b.cap < b.q.length) = false := decide_eq_false h3
  have HN2 := Lib.hid (show boxN b = (p4 && p5 && p6 && p7) by rw [HN.out, decide_eq_true (show (b.q.length : Int) ≤ b.cap by omega)]; simp)
  clear HN
  go_wp2_with fail
  refine (C4.out _).mono ?_
  rintro e w1 ⟨rfl, hw⟩
  subst hw
  cases p4
  · have HE := Lib.hid (show boxB b = false by rw [HBX.out, HN2.out]; simp)
    go_wp2
    go_ret
    exact ⟨ret_bool HE.out.symm, B0.out⟩
  go_wp2_with fail
  refine (C5.out _).mono ?_
  rintro e w1 ⟨rfl, hw⟩
  subst hw
  cases p5
  · have HE := Lib.hid (show boxB b = false by rw [HBX.out, HN2.out]; simp)
    go_wp2
    go_ret
    exact ⟨ret_bool HE.out.symm, B0.out⟩
  go_wp2_with fail
  refine (C6.out _).mono ?_
  rintro e w1 ⟨rfl, hw⟩
  subst hw
  cases p6
  · have HE := Lib.hid (show boxB b = false by rw [HBX.out, HN2.out]; simp)
    go_wp2
    go_ret
    exact ⟨ret_bool HE.out.symm, B0.out⟩
  go_wp2_with fail
  refine (C7.out _).mono ?_
  rintro e w1 ⟨rfl, hw⟩
  subst hw
  cases p7
  · have HE := Lib.hid (show boxB b = false by rw [HBX.out, HN2.out]; simp)
    go_wp2
    go_ret
    exact ⟨ret_bool HE.out.symm, B0.out⟩
  have HNT := Lib.hid (show boxN b = true by rw [HN2.out]; simp)
  clear HN2 C1 C2 C4 C5 C6 C7 g3 h3 x0 x1 x2 x3 x4 x5 x6 x7
  obtain ⟨n1, n2, n3, n4, n5, n6, n7, n8, n9⟩ := HNB.out HNT.out
  clear HNB
  have HBX2 := Lib.hid (show boxB b = (msgsAll b.q && decide (b.ofr = b.rcv + b.q.length + b.drp + b.mrg)) by rw [HBX.out, HNT.out]; simp)
  clear HBX HNT
  go_upto_region 3 with (fail)
  go_wp2
  go_loopw [3] (fun i wr => ∃ k : Nat, k ≤ b.q.length ∧ i = .int .i64 k ∧ Hid (msgsAllTo b.q k = true) ∧ Hid (Below w0.heap.size w0 wr)) (fun i _ => b.q.length - (intOf i).toNat)
  case atStart => exact ⟨0, Nat.zero_le _, rfl, rfl, Lib.hid (Below.refl _ _)⟩
  case round =>
    obtain ⟨k, hk, rfl, HT, HB⟩ := hrel
    have rr := R0.out.below HB.out
    obtain ⟨x0, x1, x2, x3, x4, x5, x6, x7⟩ := rr.cells
    by_cases hlt : k < b.q.length
    · obtain ⟨bb, o, rfl, hin⟩ : ∃ bb o, ua = some ⟨bb, o, none⟩ ∧ MsgsIn w0 bb o b.q := by
        obtain ⟨_, _, he, _, _, h⟩ := V0.out
        cases he
        rcases h with h | h
        · rw [h] at hlt; simp at hlt
        · exact h
      obtain ⟨p0, p1, p2, p3⟩ := (hin.below HB.out) k hlt
      have CM := Lib.hid (fun wx => specMsgOk_any b.q[k] wx (HS.out _ (List.getElem_mem hlt)))
      have HBAD := Lib.hid (fun h => msgsAllTo_bad hlt h)
      have HGO : Hid (msgB b.q[k] = true → msgsAllTo b.q (k + 1) = true) := Lib.hid (fun h => by rw [msgsAllTo_succ b.q k hlt, HT.out, h]; rfl)
      obtain ⟨mb, hmb⟩ : ∃ mb, msgB b.q[k] = mb := ⟨_, rfl⟩
      rw [hmb] at CM HBAD HGO
      obtain ⟨x, hx⟩ : ∃ x, b.q[k] = x := ⟨_, rfl⟩
      rw [hx] at p0 p1 p2 p3 CM
      clear hmb hx hin HT rr
      go_wp2_with fail
      refine (CM.out _).mono ?_
      rintro e wa ⟨rfl, hb⟩
      have HB2 := Lib.hid (below_end HB.out hb)
      clear hb p0 p1 p2 p3 x0 x1 x2 x3 x4 x5 x6 x7
      cases mb
      · have HE := Lib.hid (show boxB b = false by rw [HBX2.out, HBAD.out rfl]; rfl)
        go_wp2
        go_ret
        exact ⟨ret_bool HE.out.symm, below_end B0.out (below_weak HB2.out R0.out.lt)⟩
      · have HN := Lib.hid (HGO.out rfl)
        go_wp2
        go_roundw
        case rel => exact ⟨k + 1, by omega, by go_num, HN, HB2⟩
        case measure => simp [intOf]; omega
    · obtain rfl : k = b.q.length := by omega
      have HE := Lib.hid (show boxB b = decide (b.ofr = b.rcv + b.q.length + b.drp + b.mrg) by rw [HBX2.out, show msgsAll b.q = true by have := HT.out; unfold msgsAllTo at this; rwa [List.take_length] at this]; simp)
      have g1 : IntKind.i64.wrap (b.rcv + (b.q.length : Int)) = b.rcv + (b.q.length : Int) := by rw [IntKind.wrap_i64]; omega
      have g2 : IntKind.i64.wrap (b.rcv + (b.q.length : Int) + b.drp) = b.rcv + (b.q.length : Int) + b.drp := by rw [IntKind.wrap_i64]; omega
      have g3 : IntKind.i64.wrap (b.rcv + (b.q.length : Int) + b.drp + b.mrg) = b.rcv + (b.q.length : Int) + b.drp + b.mrg := by rw [IntKind.wrap_i64]; omega
      go_wp2
      go_ret
      exact ⟨ret_bool (by rw [HE.out]; rfl), below_end B0.out (below_weak HB.out R0.out.lt)⟩

end Go.Proofs.YtnclkdhaabggkaaDoor

/- The walks of the reference's copy of a box. -/
namespace Go.Proofs.YtnclkdhaabggkaaDoor
open Go.RowKit

set_option maxRecDepth 100000 in
set_option maxHeartbeats 800000 in
theorem specCopyB_any (b : BoxM) (v : Value) (w : World) (hl : b.q.length ≤ 2000000) (hv : MsgsAt w v b.q) :
    Calls Tryd.prog 20 #[bagg b v] w fun e w' => ∃ u, e = .returned (bagg b u) ∧ MOwn w' w.heap.size u b.q ∧ Below w.heap.size w w' := by
  have CT := Lib.hid (fun wx (h : MsgsAt wx v b.q) => specCopyM_any v b.q wx hl h)
  have HV := Lib.hid hv
  obtain ⟨ua, uc, rfl, _, _, _⟩ := hv
  clear hl
  go_enter Tryd.func20, Tryd.ntmps20
  go_upto_region 1 with (fail)
  have s1 : (w.alloc (.cells (bcells b (.slice ua b.q.length uc)) 28)).heap.size = w.heap.size + 1 := by simp
  have b1 : Below w.heap.size w (w.alloc (.cells (bcells b (.slice ua b.q.length uc)) 28)) := (Below.refl _ _).alloc (Nat.le_refl _) _
  have r1 : BBox (w.alloc (.cells (bcells b (.slice ua b.q.length uc)) 28)) w.heap.size 28 b (.slice ua b.q.length uc) := BBox.new _ _ _ _
  generalize w.alloc (.cells (bcells b (.slice ua b.q.length uc)) 28) = w1 at s1 b1 r1 ⊢
  have s2 : (w1.alloc (.cells (bcells zeroBox (.slice none 0 0)) 28)).heap.size = w.heap.size + 1 + 1 := by simp [s1]
  have b2 : Below w.heap.size w (w1.alloc (.cells (bcells zeroBox (.slice none 0 0)) 28)) := b1.alloc (by omega) _
  have r2 : BBox (w1.alloc (.cells (bcells zeroBox (.slice none 0 0)) 28)) (w.heap.size + 1) 28 zeroBox (.slice none 0 0) := by rw [← s1]; exact BBox.new _ _ _ _
  have q2 := r1.below ((Below.refl _ w1).alloc (Nat.le_refl _) (.cells (bcells zeroBox (.slice none 0 0)) 28))
  change Code.wp _ _ _ _ (w1.alloc (.cells (bcells zeroBox (.slice none 0 0)) 28))
  generalize w1.alloc (.cells (bcells zeroBox (.slice none 0 0)) 28) = w2 at s2 b2 r2 q2 ⊢
  clear s1 b1 r1
  have x2 := q2.cells.2.2.1
  go_wp2_with fail
  refine (CT.out _ (HV.out.below b2)).mono ?_
  rintro e w3 ⟨u, rfl, ho, hb⟩
  obtain ⟨xa, xc, hu⟩ := own_slice ho
  subst hu
  have q3 : w3.heap[w.heap.size]? = some (.cells (bcells b (.slice ua b.q.length uc)) 28 (0, 0)) := q2.below hb
  have r3 := r2.below hb
  have fr := frozen_of_row w3 w.heap.size 2 _ _ q3
  have x3 : w3.cell? ⟨w.heap.size, 2, none⟩ = some (.slice ua b.q.length uc) := cell_of_heap q3 2
  have b3 : Below w.heap.size w w3 := b2.trans (hb.mono (by omega))
  go_upto_region 2 with (fail)
  have q4 := heap_setCell_same _ _ 2 _ _ (.slice xa b.q.length xc) q3
  have g4 := grown_setCell w3 w.heap.size 2 (.slice xa b.q.length xc)
  have r4 := r3.grown g4 (by omega)
  have o4 := own_grownN ho (by omega) g4
  have b4 := b3.trans (below_of_grown g4 (Nat.le_refl _) b3.size)
  generalize w3.setCell ⟨w.heap.size, 2, none⟩ (.slice xa b.q.length xc) = w4 at q4 g4 r4 o4 b4 ⊢
  clear q3 r3 fr x3 b3 g4 x2 q2 r2 b2 hb ho
  go_wp2_with (first
    | refine wpList_load_row rfl 28 (.tmp 1) rfl w.heap.size rfl 28 (bcells b (.slice xa b.q.length xc)) (0, 0) _ q4 Tryd.underlying28 rfl (by kernel_rfl) ?_
    | refine wpList_store_rowTo rfl 28 (.tmp 2) (.tmp 7) rfl rfl (w.heap.size + 1) (bcells b (.slice xa b.q.length xc)) rfl rfl 28 _ r4 (by kernel_rfl) rfl (bcells_one _ _ _ _) ?_)
  have G := grown_setRow w4 (w.heap.size + 1) (bcells b (.slice xa b.q.length xc))
  have HR := setRow_heap (bcells b (.slice xa b.q.length xc)) r4
  have HO := own_mono (own_grownN o4 (by omega) G) (A := w.heap.size) (by omega)
  have HB := b4.trans (below_of_grown (n := w.heap.size) G (by omega) b4.size)
  refine bodyPost_ret (results_cell_row rfl _ _ _ _ _ _ _ rfl HR Tryd.underlying28 rfl (by kernel_rfl)) rfl ⟨_, rfl, HO, HB⟩

end Go.Proofs.YtnclkdhaabggkaaDoor
