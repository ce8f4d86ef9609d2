/- Small texts, laid together. -/
import Derived.Test.YtgmlohgfkbjmlaaDoorZB2
import Derived.Deep.Cut
set_option linter.unusedSimpArgs false
set_option linter.unusedVariables false
/- A new box: mathematics. -/
namespace Go.Proofs.YtgmlohgfkbjmlaaDoor
open Go.RowKit

/-- NewBox: the box, whether it is right. -/
def bareBox (cap pol : Int) : BoxM := ⟨cap, pol, [], 0, 0, 0, 0, false⟩
def newB (cap pol : Int) : BoxM × Bool := if boxB (bareBox cap pol) then (bareBox cap pol, true) else (zeroBox, false)

end Go.Proofs.YtgmlohgfkbjmlaaDoor

/- The walk of the reference's BoxOk. -/
namespace Go.Proofs.YtgmlohgfkbjmlaaDoor
open Go.RowKit

theorem specCount_any (x : Int) (w : World) :
    Calls Tryd.prog 21 #[.int .i64 x] w fun e w' => e = .returned (.bool (inB x 0 100000)) ∧ w = w' := by
  have C := Lib.hid (fun w' => specIn_any x 0 100000 w')
  go_enter Tryd.func21, Tryd.ntmps21
  go_wp2_with fail
  refine (C.out _).mono ?_
  rintro e w1 ⟨rfl, rfl⟩
  go_wp2
  go_ret
  exact ⟨rfl, rfl⟩

/-- Of a queue, the first k are right. -/
def msgsAllTo (l : List MsgM) (k : Nat) : Bool := msgsAll (l.take k)
theorem msgsAllTo_succ (l : List MsgM) (k : Nat) (h : k < l.length) : msgsAllTo l (k + 1) = (msgsAllTo l k && msgB l[k]) := by
  unfold msgsAllTo msgsAll
  rw [List.take_succ_eq_append_getElem h, List.all_append]
  simp
theorem msgsAllTo_bad {l : List MsgM} {k : Nat} (h : k < l.length) (hb : msgB l[k] = false) : msgsAll l = false := by
  unfold msgsAll
  rw [List.all_eq_false]
  exact ⟨l[k], List.getElem_mem h, by simp [hb]⟩

theorem below_weak {w0 w1 : World} {n : Nat} (h : Below w0.heap.size w0 w1) (_ : n < w0.heap.size) : Below w0.heap.size w0 w1 := h

set_option maxRecDepth 100000 in
set_option maxHeartbeats 1600000 in
theorem specBoxOk_any (b : BoxM) (v : Value) (w : World) (hs : ∀ x ∈ b.q, x.2.2.1.size ≤ 1048576) (hv : MsgsAt w v b.q) :
    Calls Tryd.prog 7 #[bagg b v] w fun e w' => e = .returned (.bool (boxB b)) ∧ Below w.heap.size w w' := by
  have C1 := Lib.hid (fun w' => specIn_any b.cap 1 16 w')
  have C2 := Lib.hid (fun w' => specIn_any b.pol 1 4 w')
  have C4 := Lib.hid (fun w' => specCount_any b.ofr w')
  have C5 := Lib.hid (fun w' => specCount_any b.rcv w')
  have C6 := Lib.hid (fun w' => specCount_any b.drp w')
  have C7 := Lib.hid (fun w' => specCount_any b.mrg w')
  have HN : Hid (boxN b = ((decide (1 ≤ b.cap) && decide (b.cap ≤ 16)) && (decide (1 ≤ b.pol) && decide (b.pol ≤ 4)) && decide ((b.q.length : Int) ≤ b.cap) && inB b.ofr 0 100000 && inB b.rcv 0 100000 && inB b.drp 0 100000 && inB b.mrg 0 100000)) := Lib.hid rfl
  have HNB : Hid (boxN b = true → 0 ≤ b.ofr ∧ b.ofr ≤ 100000 ∧ 0 ≤ b.rcv ∧ b.rcv ≤ 100000 ∧ 0 ≤ b.drp ∧ b.drp ≤ 100000 ∧ 0 ≤ b.mrg ∧ b.mrg ≤ 100000 ∧ b.q.length ≤ 16) := Lib.hid (fun h => by
    unfold boxN inB at h
    simp only [Bool.and_eq_true, decide_eq_true_eq] at h
    omega)
  have HBX : Hid (boxB b = (boxN b && (msgsAll b.q && decide (b.ofr = b.rcv + b.q.length + b.drp + b.mrg)))) := Lib.hid rfl
  have HV := Lib.hid hv
  obtain ⟨ua, uc, rfl, _, _, _⟩ := hv
  have HS := Lib.hid hs
  clear hs
  generalize (decide (1 ≤ b.cap) && decide (b.cap ≤ 16)) = p1 at C1 HN
  generalize (decide (1 ≤ b.pol) && decide (b.pol ≤ 4)) = p2 at C2 HN
  generalize inB b.ofr 0 100000 = p4 at C4 HN
  generalize inB b.rcv 0 100000 = p5 at C5 HN
  generalize inB b.drp 0 100000 = p6 at C6 HN
  generalize inB b.mrg 0 100000 = p7 at C7 HN
  go_enter Tryd.func7, Tryd.ntmps7
  go_upto_region 1 with (fail)
  have b0 : Below w.heap.size w (w.alloc (.cells (bcells b (.slice ua b.q.length uc)) 29)) := (Below.refl _ _).alloc (Nat.le_refl _) _
  have r0 : BBox (w.alloc (.cells (bcells b (.slice ua b.q.length uc)) 29)) w.heap.size 29 b (.slice ua b.q.length uc) := BBox.new _ _ _ _
  have v0 := HV.out.alloc (.cells (bcells b (.slice ua b.q.length uc)) 29)
  generalize w.alloc (.cells (bcells b (.slice ua b.q.length uc)) 29) = w0 at b0 r0 v0 ⊢
  have B0 := Lib.hid b0
  have V0 := Lib.hid v0
  have R0 := Lib.hid r0
  obtain ⟨x0, x1, x2, x3, x4, x5, x6, x7⟩ := r0.cells
  clear b0 v0 r0
  go_wp2_with fail
  refine (C1.out _).mono ?_
  rintro e w1 ⟨rfl, hw⟩
  subst hw
  cases p1
  · have HE := Lib.hid (show boxB b = false by rw [HBX.out, HN.out]; simp)
    go_wp2
    go_ret
    exact ⟨ret_bool HE.out.symm, B0.out⟩
  go_wp2_with fail
  refine (C2.out _).mono ?_
  rintro e w1 ⟨rfl, hw⟩
  subst hw
  cases p2
  · have HE := Lib.hid (show boxB b = false by rw [HBX.out, HN.out]; simp)
    go_wp2
    go_ret
    exact ⟨ret_bool HE.out.symm, B0.out⟩
  by_cases h3 : b.cap < b.q.length
  · have g3 : decide (b.cap < b.q.length) = true := decide_eq_true h3
    have HE := Lib.hid (show boxB b = false by rw [HBX.out, HN.out, decide_eq_false (show ¬ ((b.q.length : Int) ≤ b.cap) by omega)]; simp)
    go_wp2
    go_ret
    exact ⟨ret_bool HE.out.symm, B0.out⟩
  have g3 : decide (b.cap < b.q.length) = false := decide_eq_false h3
  have HN2 := Lib.hid (show boxN b = (p4 && p5 && p6 && p7) by rw [HN.out, decide_eq_true (show (b.q.length : Int) ≤ b.cap by omega)]; simp)
  clear HN
  go_wp2_with fail
  refine (C4.out _).mono ?_
  rintro e w1 ⟨rfl, hw⟩
  subst hw
  cases p4
  · have HE := Lib.hid (show boxB b = false by rw [HBX.out, HN2.out]; simp)
    go_wp2
    go_ret
    exact ⟨ret_bool HE.out.symm, B0.out⟩
  go_wp2_with fail
  refine (C5.out _).mono ?_
  rintro e w1 ⟨rfl, hw⟩
  subst hw
  cases p5
  · have HE := Lib.hid (show boxB b = false by rw [HBX.out, HN2.out]; simp)
    go_wp2
    go_ret
    exact ⟨ret_bool HE.out.symm, B0.out⟩
  go_wp2_with fail
  refine (C6.out _).mono ?_
  rintro e w1 ⟨rfl, hw⟩
  subst hw
  cases p6
  · have HE := Lib.hid (show boxB b = false by rw [HBX.out, HN2.out]; simp)
    go_wp2
    go_ret
    exact ⟨ret_bool HE.out.symm, B0.out⟩
  go_wp2_with fail
  refine (C7.out _).mono ?_
  rintro e w1 ⟨rfl, hw⟩
  subst hw
  cases p7
  · have HE := Lib.hid (show boxB b = false by rw [HBX.out, HN2.out]; simp)
    go_wp2
    go_ret
    exact ⟨ret_bool HE.out.symm, B0.out⟩
  have HNT := Lib.hid (show boxN b = true by rw [HN2.out]; simp)
  clear HN2 C1 C2 C4 C5 C6 C7 g3 h3 x0 x1 x2 x3 x4 x5 x6 x7
  obtain ⟨n1, n2, n3, n4, n5, n6, n7, n8, n9⟩ := HNB.out HNT.out
  clear HNB
  have HBX2 := Lib.hid (show boxB b = (msgsAll b.q && decide (b.ofr = b.rcv + b.q.length + b.drp + b.mrg)) by rw [HBX.out, HNT.out]; simp)
  clear HBX HNT
  go_upto_region 3 with (fail)
  go_wp2
  go_loopw [3] (fun i wr => ∃ k : Nat, k ≤ b.q.length ∧ i = .int .i64 k ∧ Hid (msgsAllTo b.q k = true) ∧ Hid (Below w0.heap.size w0 wr)) (fun i _ => b.q.length - (intOf i).toNat)
  case atStart => exact ⟨0, Nat.zero_le _, rfl, rfl, Lib.hid (Below.refl _ _)⟩
  case round =>
    obtain ⟨k, hk, rfl, HT, HB⟩ := hrel
    have rr := R0.out.below HB.out
    obtain ⟨x0, x1, x2, x3, x4, x5, x6, x7⟩ := rr.cells
    by_cases hlt : k < b.q.length
    · obtain ⟨bb, o, rfl, hin⟩ : ∃ bb o, ua = some ⟨bb, o, none⟩ ∧ MsgsIn w0 bb o b.q := by
        obtain ⟨_, _, he, _, _, h⟩ := V0.out
        cases he
        rcases h with h | h
        · rw [h] at hlt; simp at hlt
        · exact h
      obtain ⟨p0, p1, p2, p3⟩ := (hin.below HB.out) k hlt
      have CM := Lib.hid (fun wx => specMsgOk_any b.q[k] wx (HS.out _ (List.getElem_mem hlt)))
      have HBAD := Lib.hid (fun h => msgsAllTo_bad hlt h)
      have HGO : Hid (msgB b.q[k] = true → msgsAllTo b.q (k + 1) = true) := Lib.hid (fun h => by rw [msgsAllTo_succ b.q k hlt, HT.out, h]; rfl)
      obtain ⟨mb, hmb⟩ : ∃ mb, msgB b.q[k] = mb := ⟨_, rfl⟩
      rw [hmb] at CM HBAD HGO
      obtain ⟨x, hx⟩ : ∃ x, b.q[k] = x := ⟨_, rfl⟩
      rw [hx] at p0 p1 p2 p3 CM
      clear hmb hx hin HT rr
      go_wp2_with fail
      refine (CM.out _).mono ?_
      rintro e wa ⟨rfl, hb⟩
      have HB2 := Lib.hid (below_end HB.out hb)
      clear hb p0 p1 p2 p3 x0 x1 x2 x3 x4 x5 x6 x7
      cases mb
      · have HE := Lib.hid (show boxB b = false by rw [HBX2.out, HBAD.out rfl]; rfl)
        go_wp2
        go_ret
        exact ⟨ret_bool HE.out.symm, below_end B0.out (below_weak HB2.out R0.out.lt)⟩
      · have HN := Lib.hid (HGO.out rfl)
        go_wp2
        go_roundw
        case rel => exact ⟨k + 1, by omega, by go_num, HN, HB2⟩
        case measure => simp [intOf]; omega
    · obtain rfl : k = b.q.length := by omega
      have HE := Lib.hid (show boxB b = decide (b.ofr = b.rcv + b.q.length + b.drp + b.mrg) by rw [HBX2.out, show msgsAll b.q = true by have := HT.out; unfold msgsAllTo at this; rwa [List.take_length] at this]; simp)
      have g1 : IntKind.i64.wrap (b.rcv + (b.q.length : Int)) = b.rcv + (b.q.length : Int) := by rw [IntKind.wrap_i64]; omega
      have g2 : IntKind.i64.wrap (b.rcv + (b.q.length : Int) + b.drp) = b.rcv + (b.q.length : Int) + b.drp := by rw [IntKind.wrap_i64]; omega
      have g3 : IntKind.i64.wrap (b.rcv + (b.q.length : Int) + b.drp + b.mrg) = b.rcv + (b.q.length : Int) + b.drp + b.mrg := by rw [IntKind.wrap_i64]; omega
      go_wp2
      go_ret
      exact ⟨ret_bool (by rw [HE.out]; rfl), below_end B0.out (below_weak HB.out R0.out.lt)⟩

end Go.Proofs.YtgmlohgfkbjmlaaDoor
