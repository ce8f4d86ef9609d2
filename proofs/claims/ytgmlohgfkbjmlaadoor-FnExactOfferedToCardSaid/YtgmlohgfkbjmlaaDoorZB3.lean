/- Small texts, laid together. -/
import Derived.Test.YtgmlohgfkbjmlaaDoorZB2
import Derived.Deep.Cut
import Derived.Test.YtgmlohgfkbjmlaaDoorZB1
set_option linter.unusedSimpArgs false
set_option linter.unusedVariables false
/- The walks of the program's look at a queue and at the counts. -/
namespace Go.Proofs.YtgmlohgfkbjmlaaDoor
open Go.RowKit

set_option maxRecDepth 100000 in
set_option maxHeartbeats 1600000 in
theorem containsG_any (u : Value) (l : List MsgM) (pr : MsgM → Bool) (g : Nat) (lb : Array Value) (eg : ∀ args w, (callFunc g args).run Tryd.prog w = .ok (.enter g args) w) (w : World) (hl : l.length ≤ 2000000) (hv : MsgsAt w u l) (hp : PredM g lb pr l w) :
    Calls Tryd.prog 39 #[u, .func (.func g) #[] lb] w fun e w' => e = .returned (.bool (l.any pr)) ∧ Below w.heap.size w w' := by
  have CI := Lib.hid (indexG_any u l pr g lb eg w hl hv hp)
  obtain ⟨ua, uc, rfl, _, _, _⟩ := hv
  clear hp hl
  go_enter Tryd.func39, Tryd.ntmps39
  go_wp2_with fail
  refine CI.out.mono ?_
  rintro e w1 ⟨z, rfl, hz, hb⟩
  have HB := Lib.hid hb
  clear hb CI
  rcases hz with ⟨rfl, hz⟩ | ⟨k, rfl, hk, hp, _⟩
  · have HE : Hid (l.any pr = false) := Lib.hid (by rw [List.any_eq_false]; exact fun x hx => by rw [hz x hx]; decide)
    clear hz
    go_wp2
    go_ret
    exact ⟨ret_bool HE.out.symm, HB.out⟩
  · have HE : Hid (l.any pr = true) := Lib.hid (by rw [List.any_eq_true]; exact ⟨l[k], List.getElem_mem hk, hp⟩)
    have g1 : decide ((0 : Int) ≤ (k : Int)) = true := decide_eq_true (by omega)
    clear hp
    go_wp2
    go_ret
    exact ⟨ret_bool HE.out.symm, HB.out⟩

set_option maxRecDepth 100000 in
set_option maxHeartbeats 1600000 in
theorem queueC_any (x : MsgM) (m : Int) (w : World) (hx : x.2.2.1.size ≤ 1048576) (hm : w.cell? ⟨0, 0, none⟩ = some (.int .i64 m)) :
    Calls Tryd.prog 40 #[magg x] w fun e w' => e = .returned (.bool (!msgB x)) ∧ Below w.heap.size w w' := by
  have CM := Lib.hid (fun w' hm => implMsgOk_any x m w' hx hm)
  generalize msgB x = b at CM ⊢
  have HM := Lib.hid hm
  obtain ⟨q, t, p, d⟩ := x
  have ha : Below w.heap.size w (w.alloc (.cells #[.int .i64 q, .int .i64 t, .string p, .int .i64 d] 42)) := (Below.refl _ _).alloc (Nat.le_refl _) _
  clear hm
  go_enter Tryd.func40, Tryd.ntmps40
  go_wp2_with fail
  refine (CM.out _ ((ha.cell (World.block_lt_of_cell? _ _ HM.out)).trans HM.out)).mono ?_
  rintro e w1 ⟨rfl, hb⟩
  have HE := Lib.hid (below_end ha hb)
  clear ha hb
  go_wp2
  go_ret
  exact ⟨rfl, HE.out⟩

/-- The look at the queue. -/
def queueB (l : List MsgM) (c : Int) : Bool := decide ((l.length : Int) ≤ c) && msgsAll l

set_option maxRecDepth 100000 in
set_option maxHeartbeats 1600000 in
theorem queueOk_any (u : Value) (l : List MsgM) (c : Int) (m : Int) (w : World) (hl : l.length ≤ 1048576) (hs : ∀ x ∈ l, x.2.2.1.size ≤ 1048576) (hv : MsgsAt w u l) (hm : w.cell? ⟨0, 0, none⟩ = some (.int .i64 m)) :
    Calls Tryd.prog 26 #[u, .int .i64 c] w fun e w' => e = .returned (.bool (queueB l c)) ∧ Below w.heap.size w w' := by
  have CC := Lib.hid (containsG_any u l (fun x => !msgB x) 40 #[] (enters_of Tryd.func40 (by kernel_rfl) rfl) w (by omega) hv (fun W x hx hb => queueC_any x m W (hs x hx) ((hb.cell (World.block_lt_of_cell? _ _ hm)).trans hm)))
  have HQ : Hid (queueB l c = (decide ((l.length : Int) ≤ c) && msgsAll l)) := Lib.hid rfl
  have HA : Hid (msgsAll l = !l.any (fun x => !msgB x)) := Lib.hid (by
    unfold msgsAll
    rw [List.not_any_eq_all_not]
    congr 1
    funext x
    simp)
  generalize l.any (fun x => !msgB x) = an at CC HA
  generalize msgsAll l = ma at HA HQ
  obtain ⟨ua, uc, rfl, _, _, _⟩ := hv
  clear hs hm
  go_enter Tryd.func26, Tryd.ntmps26
  by_cases h1 : (l.length : Int) ≤ c
  · have g1 : decide ((l.length : Int) ≤ c) = true := decide_eq_true h1
    go_wp2_with fail
    refine CC.out.mono ?_
    rintro e w1 ⟨rfl, hb⟩
    have HB := Lib.hid hb
    clear hb CC
    go_wp2
    go_ret
    exact ⟨ret_bool (by rw [HQ.out, HA.out, g1]; simp), HB.out⟩
  · have g1 : decide ((l.length : Int) ≤ c) = false := decide_eq_false h1
    go_wp2
    go_ret
    exact ⟨ret_bool (by rw [HQ.out, g1]; rfl), Below.refl _ _⟩

end Go.Proofs.YtgmlohgfkbjmlaaDoor

/- A new box: mathematics. -/
namespace Go.Proofs.YtgmlohgfkbjmlaaDoor
open Go.RowKit

/-- NewBox: the box, whether it is right. -/
def bareBox (cap pol : Int) : BoxM := ⟨cap, pol, [], 0, 0, 0, 0, false⟩
def newB (cap pol : Int) : BoxM × Bool := if boxB (bareBox cap pol) then (bareBox cap pol, true) else (zeroBox, false)

end Go.Proofs.YtgmlohgfkbjmlaaDoor

/- The walk of the reference's BoxOk. -/
namespace Go.Proofs.YtgmlohgfkbjmlaaDoor
open Go.RowKit

theorem specCount_any (x : Int) (w : World) :
    Calls Tryd.prog 21 #[.int .i64 x] w fun e w' => e = .returned (.bool (inB x 0 100000)) ∧ w = w' := by
  have C := Lib.hid (fun w' => specIn_any x 0 100000 w')
  go_enter Tryd.func21, Tryd.ntmps21
  go_wp2_with fail
  refine (C.out _).mono ?_
  rintro e w1 ⟨rfl, rfl⟩
  go_wp2
  go_ret
  exact ⟨rfl, rfl⟩

/-- Of a queue, the first k are right. -/
def msgsAllTo (l : List MsgM) (k : Nat) : Bool := msgsAll (l.take k)
theorem msgsAllTo_succ (l : List MsgM) (k : Nat) (h : k < l.length) : msgsAllTo l (k + 1) = (msgsAllTo l k && msgB l[k]) := by
  unfold msgsAllTo msgsAll
  rw [List.take_succ_eq_append_getElem h, List.all_append]
  simp
theorem msgsAllTo_bad {l : List MsgM} {k : Nat} (h : k < l.length) (hb : msgB l[k] = false) : msgsAll l = false := by
  unfold msgsAll
  rw [List.all_eq_false]
  exact ⟨l[k], List.getElem_mem h, by simp [hb]⟩

theorem below_weak {w0 w1 : World} {n : Nat} (h : Below w0.heap.size w0 w1) (_ : n < w0.heap.size) : Below w0.heap.size w0 w1 := h

set_option maxRecDepth 100000 in
set_option maxHeartbeats 1600000 in
theorem specBoxOk_any (b : BoxM) (v : Value) (w : World) (hs : ∀ x ∈ b.q, x.2.2.1.size ≤ 1048576) (hv : MsgsAt w v b.q) :
    Calls Tryd.prog 7 #[bagg b v] w fun e w' => e = .returned (.bool (boxB b)) ∧ Below w.heap.size w w' := by
  have C1 := Lib.hid (fun w' => specIn_any b.cap 1 16 w')
  have C2 := Lib.hid (fun w' => specIn_any b.pol 1 4 w')
  have C4 := Lib.hid (fun w' => specCount_any b.ofr w')
  have C5 := Lib.hid (fun w' => specCount_any b.rcv w')
  have C6 := Lib.hid (fun w' => specCount_any b.drp w')
  have C7 := Lib.hid (fun w' => specCount_any b.mrg w')
  have HN : Hid (boxN b = ((decide (1 ≤ b.cap) && decide (b.cap ≤ 16)) && (decide (1 ≤ b.pol) && decide (b.pol ≤ 4)) && decide ((b.q.length : Int) ≤ b.cap) && inB b.ofr 0 100000 && inB b.rcv 0 100000 && inB b.drp 0 100000 && inB b.mrg 0 100000)) := Lib.hid rfl
  have HNB : Hid (boxN b = true → 0 ≤ b.ofr ∧ b.ofr ≤ 100000 ∧ 0 ≤ b.rcv ∧ b.rcv ≤ 100000 ∧ 0 ≤ b.drp ∧ b.drp ≤ 100000 ∧ 0 ≤ b.mrg ∧ b.mrg ≤ 100000 ∧ b.q.length ≤ 16) := Lib.hid (fun h => by
    unfold boxN inB at h
    simp only [Bool.and_eq_true, decide_eq_true_eq] at h
    omega)
  have HBX : Hid (boxB b = (boxN b && (msgsAll b.q && decide (b.ofr = b.rcv + b.q.length + b.drp + b.mrg)))) := Lib.hid rfl
  have HV := Lib.hid hv
  obtain ⟨ua, uc, rfl, _, _, _⟩ := hv
  have HS := Lib.hid hs
  clear hs
  generalize (decide (1 ≤ b.cap) && decide (b.cap ≤ 16)) = p1 at C1 HN
  generalize (decide (1 ≤ b.pol) && decide (b.pol ≤ 4)) = p2 at C2 HN
  generalize inB b.ofr 0 100000 = p4 at C4 HN
  generalize inB b.rcv 0 100000 = p5 at C5 HN
  generalize inB b.drp 0 100000 = p6 at C6 HN
  generalize inB b.mrg 0 100000 = p7 at C7 HN
  go_enter Tryd.func7, Tryd.ntmps7
  go_upto_region 1 with (fail)
  have b0 : Below w.heap.size w (w.alloc (.cells (bcells b (.slice ua b.q.length uc)) 29)) := (Below.refl _ _).alloc (Nat.le_refl _) _
  have r0 : BBox (w.alloc (.cells (bcells b (.slice ua b.q.length uc)) 29)) w.heap.size 29 b (.slice ua b.q.length uc) := BBox.new _ _ _ _
  have v0 := HV.out.alloc (.cells (bcells b (.slice ua b.q.length uc)) 29)
  generalize w.alloc (.cells (bcells b (.slice ua b.q.length uc)) 29) = w0 at b0 r0 v0 ⊢
  have B0 := Lib.hid b0
  have V0 := Lib.hid v0
  have R0 := Lib.hid r0
  obtain ⟨x0, x1, x2, x3, x4, x5, x6, x7⟩ := r0.cells
  clear b0 v0 r0
  go_wp2_with fail
  refine (C1.out _).mono ?_
  rintro e w1 ⟨rfl, hw⟩
  subst hw
  cases p1
  · have HE := Lib.hid (show boxB b = false by rw [HBX.out, HN.out]; simp)
    go_wp2
    go_ret
    exact ⟨ret_bool HE.out.symm, B0.out⟩
  go_wp2_with fail
  refine (C2.out _).mono ?_
  rintro e w1 ⟨rfl, hw⟩
  subst hw
  cases p2
  · have HE := Lib.hid (show boxB b = false by rw [HBX.out, HN.out]; simp)
    go_wp2
    go_ret
    exact ⟨ret_bool HE.out.symm, B0.out⟩
  by_cases h3 : b.cap < b.q.length
  · have g3 : decide (b.cap < b.q.length) = true := decide_eq_true h3
    have HE := Lib.hid (show boxB b = false by rw [HBX.out, HN.out, decide_eq_false (show ¬ ((b.q.length : Int) ≤ b.cap) by omega)]; simp)
    go_wp2
    go_ret
    exact ⟨ret_bool HE.out.symm, B0.out⟩
  have g3 : decide (b.cap < b.q.length) = false := decide_eq_false h3
  have HN2 := Lib.hid (show boxN b = (p4 && p5 && p6 && p7) by rw [HN.out, decide_eq_true (show (b.q.length : Int) ≤ b.cap by omega)]; simp)
  clear HN
  go_wp2_with fail
  refine (C4.out _).mono ?_
  rintro e w1 ⟨rfl, hw⟩
  subst hw
  cases p4
  · have HE := Lib.hid (show boxB b = false by rw [HBX.out, HN2.out]; simp)
    go_wp2
    go_ret
    exact ⟨ret_bool HE.out.symm, B0.out⟩
  go_wp2_with fail
  refine (C5.out _).mono ?_
  rintro e w1 ⟨rfl, hw⟩
  subst hw
  cases p5
  · have HE := Lib.hid (show boxB b = false by rw [HBX.out, HN2.out]; simp)
    go_wp2
    go_ret
    exact ⟨ret_bool HE.out.symm, B0.out⟩
  go_wp2_with fail
  refine (C6.out _).mono ?_
  rintro e w1 ⟨rfl, hw⟩
  subst hw
  cases p6
  · have HE := Lib.hid (show boxB b = false by rw [HBX.out, HN2.out]; simp)
    go_wp2
    go_ret
    exact ⟨ret_bool HE.out.symm, B0.out⟩
  go_wp2_with fail
  refine (C7.out _).mono ?_
  rintro e w1 ⟨rfl, hw⟩
  subst hw
  cases p7
  · have HE := Lib.hid (show boxB b = false by rw [HBX.out, HN2.out]; simp)
    go_wp2
    go_ret
    exact ⟨ret_bool HE.out.symm, B0.out⟩
  have HNT := Lib.hid (show boxN b = true by rw [HN2.out]; simp)
  clear HN2 C1 C2 C4 C5 C6 C7 g3 h3 x0 x1 x2 x3 x4 x5 x6 x7
  obtain ⟨n1, n2, n3, n4, n5, n6, n7, n8, n9⟩ := HNB.out HNT.out
  clear HNB
  have HBX2 := Lib.hid (show boxB b = (msgsAll b.q && decide (b.ofr = b.rcv + b.q.length + b.drp + b.mrg)) by rw [HBX.out, HNT.out]; simp)
  clear HBX HNT
  go_upto_region 3 with (fail)
  go_wp2
  go_loopw [3] (fun i wr => ∃ k : Nat, k ≤ b.q.length ∧ i = .int .i64 k ∧ Hid (msgsAllTo b.q k = true) ∧ Hid (Below w0.heap.size w0 wr)) (fun i _ => b.q.length - (intOf i).toNat)
  case atStart => exact ⟨0, Nat.zero_le _, rfl, rfl, Lib.hid (Below.refl _ _)⟩
  case round =>
    obtain ⟨k, hk, rfl, HT, HB⟩ := hrel
    have rr := R0.out.below HB.out
    obtain ⟨x0, x1, x2, x3, x4, x5, x6, x7⟩ := rr.cells
    by_cases hlt : k < b.q.length
    · obtain ⟨bb, o, rfl, hin⟩ : ∃ bb o, ua = some ⟨bb, o, none⟩ ∧ MsgsIn w0 bb o b.q := by
        obtain ⟨_, _, he, _, _, h⟩ := V0.out
        cases he
        rcases h with h | h
        · rw [h] at hlt; simp at hlt
        · exact h
      obtain ⟨p0, p1, p2, p3⟩ := (hin.below HB.out) k hlt
      have CM := Lib.hid (fun wx => specMsgOk_any b.q[k] wx (HS.out _ (List.getElem_mem hlt)))
      have HBAD := Lib.hid (fun h => msgsAllTo_bad hlt h)
      have HGO : Hid (msgB b.q[k] = true → msgsAllTo b.q (k + 1) = true) := Lib.hid (fun h => by rw [msgsAllTo_succ b.q k hlt, HT.out, h]; rfl)
      obtain ⟨mb, hmb⟩ : ∃ mb, msgB b.q[k] = mb := ⟨_, rfl⟩
      rw [hmb] at CM HBAD HGO
      obtain ⟨x, hx⟩ : ∃ x, b.q[k] = x := ⟨_, rfl⟩
      rw [hx] at p0 p1 p2 p3 CM
      clear hmb hx hin HT rr
      go_wp2_with fail
      refine (CM.out _).mono ?_
      rintro e wa ⟨rfl, hb⟩
      have HB2 := Lib.hid (below_end HB.out hb)
      clear hb p0 p1 p2 p3 x0 x1 x2 x3 x4 x5 x6 x7
      cases mb
      · have HE := Lib.hid (show boxB b = false by rw [HBX2.out, HBAD.out rfl]; rfl)
        go_wp2
        go_ret
        exact ⟨ret_bool HE.out.symm, below_end B0.out (below_weak HB2.out R0.out.lt)⟩
      · have HN := Lib.hid (HGO.out rfl)
        go_wp2
        go_roundw
        case rel => exact ⟨k + 1, by omega, by go_num, HN, HB2⟩
        case measure => simp [intOf]; omega
    · obtain rfl : k = b.q.length := by omega
      have HE := Lib.hid (show boxB b = decide (b.ofr = b.rcv + b.q.length + b.drp + b.mrg) by rw [HBX2.out, show msgsAll b.q = true by have := HT.out; unfold msgsAllTo at this; rwa [List.take_length] at this]; simp)
      have g1 : IntKind.i64.wrap (b.rcv + (b.q.length : Int)) = b.rcv + (b.q.length : Int) := by rw [IntKind.wrap_i64]; omega
      have g2 : IntKind.i64.wrap (b.rcv + (b.q.length : Int) + b.drp) = b.rcv + (b.q.length : Int) + b.drp := by rw [IntKind.wrap_i64]; omega
      have g3 : IntKind.i64.wrap (b.rcv + (b.q.length : Int) + b.drp + b.mrg) = b.rcv + (b.q.length : Int) + b.drp + b.mrg := by rw [IntKind.wrap_i64]; omega
      go_wp2
      go_ret
      exact ⟨ret_bool (by rw [HE.out]; rfl), below_end B0.out (below_weak HB.out R0.out.lt)⟩

end Go.Proofs.YtgmlohgfkbjmlaaDoor

/- The walks of the reference's copy of a box, and of NewBox. -/
namespace Go.Proofs.YtgmlohgfkbjmlaaDoor
open Go.RowKit

set_option maxRecDepth 100000 in
set_option maxHeartbeats 800000 in
theorem specCopyB_any (b : BoxM) (v : Value) (w : World) (hl : b.q.length ≤ 2000000) (hv : MsgsAt w v b.q) :
    Calls Tryd.prog 31 #[bagg b v] w fun e w' => ∃ u, e = .returned (bagg b u) ∧ MOwn w' w.heap.size u b.q ∧ Below w.heap.size w w' := by
  have CT := Lib.hid (fun wx (h : MsgsAt wx v b.q) => specCopyM_any v b.q wx hl h)
  have HV := Lib.hid hv
  obtain ⟨ua, uc, rfl, _, _, _⟩ := hv
  clear hl
  go_enter Tryd.func31, Tryd.ntmps31
  go_upto_region 1 with (fail)
  have s1 : (w.alloc (.cells (bcells b (.slice ua b.q.length uc)) 29)).heap.size = w.heap.size + 1 := by simp
  have b1 : Below w.heap.size w (w.alloc (.cells (bcells b (.slice ua b.q.length uc)) 29)) := (Below.refl _ _).alloc (Nat.le_refl _) _
  have r1 : BBox (w.alloc (.cells (bcells b (.slice ua b.q.length uc)) 29)) w.heap.size 29 b (.slice ua b.q.length uc) := BBox.new _ _ _ _
  generalize w.alloc (.cells (bcells b (.slice ua b.q.length uc)) 29) = w1 at s1 b1 r1 ⊢
  have s2 : (w1.alloc (.cells (bcells zeroBox (.slice none 0 0)) 29)).heap.size = w.heap.size + 1 + 1 := by simp [s1]
  have b2 : Below w.heap.size w (w1.alloc (.cells (bcells zeroBox (.slice none 0 0)) 29)) := b1.alloc (by omega) _
  have r2 : BBox (w1.alloc (.cells (bcells zeroBox (.slice none 0 0)) 29)) (w.heap.size + 1) 29 zeroBox (.slice none 0 0) := by rw [← s1]; exact BBox.new _ _ _ _
  have q2 := r1.below ((Below.refl _ w1).alloc (Nat.le_refl _) (.cells (bcells zeroBox (.slice none 0 0)) 29))
  change Code.wp _ _ _ _ (w1.alloc (.cells (bcells zeroBox (.slice none 0 0)) 29))
  generalize w1.alloc (.cells (bcells zeroBox (.slice none 0 0)) 29) = w2 at s2 b2 r2 q2 ⊢
  clear s1 b1 r1
  have x2 := q2.cells.2.2.1
  go_wp2_with fail
  refine (CT.out _ (HV.out.below b2)).mono ?_
  rintro e w3 ⟨u, rfl, ho, hb⟩
  obtain ⟨xa, xc, hu⟩ := own_slice ho
  subst hu
  have q3 : w3.heap[w.heap.size]? = some (.cells (bcells b (.slice ua b.q.length uc)) 29 (0, 0)) := q2.below hb
  have r3 := r2.below hb
  have fr := frozen_of_row w3 w.heap.size 2 _ _ q3
  have x3 : w3.cell? ⟨w.heap.size, 2, none⟩ = some (.slice ua b.q.length uc) := cell_of_heap q3 2
  have b3 : Below w.heap.size w w3 := b2.trans (hb.mono (by omega))
  go_upto_region 2 with (fail)
  have q4 := heap_setCell_same _ _ 2 _ _ (.slice xa b.q.length xc) q3
  have g4 := grown_setCell w3 w.heap.size 2 (.slice xa b.q.length xc)
  have r4 := r3.grown g4 (by omega)
  have o4 := own_grownN ho (by omega) g4
  have b4 := b3.trans (below_of_grown g4 (Nat.le_refl _) b3.size)
  generalize w3.setCell ⟨w.heap.size, 2, none⟩ (.slice xa b.q.length xc) = w4 at q4 g4 r4 o4 b4 ⊢
  clear q3 r3 fr x3 b3 g4 x2 q2 r2 b2 hb ho
  go_wp2_with (first
    | refine wpList_load_row rfl 29 (.tmp 1) rfl w.heap.size rfl 29 (bcells b (.slice xa b.q.length xc)) (0, 0) _ q4 Tryd.underlying29 rfl (by kernel_rfl) ?_
    | refine wpList_store_rowTo rfl 29 (.tmp 2) (.tmp 7) rfl rfl (w.heap.size + 1) (bcells b (.slice xa b.q.length xc)) rfl rfl 29 _ r4 (by kernel_rfl) rfl (bcells_one _ _ _ _) ?_)
  have G := grown_setRow w4 (w.heap.size + 1) (bcells b (.slice xa b.q.length xc))
  have HR := setRow_heap (bcells b (.slice xa b.q.length xc)) r4
  have HO := own_mono (own_grownN o4 (by omega) G) (A := w.heap.size) (by omega)
  have HB := b4.trans (below_of_grown (n := w.heap.size) G (by omega) b4.size)
  refine bodyPost_ret (results_cell_row rfl _ _ _ _ _ _ _ rfl HR Tryd.underlying29 rfl (by kernel_rfl)) rfl ⟨_, rfl, HO, HB⟩

set_option maxRecDepth 100000 in
set_option maxHeartbeats 800000 in
theorem specNewBox_any (cap pol : Int) (w : World) :
    Calls Tryd.prog 11 #[.int .i64 cap, .int .i64 pol] w fun e w' => e = .returned (.tuple #[bagg (newB cap pol).1 (.slice none 0 0), .bool (newB cap pol).2]) ∧ Below w.heap.size w w' := by
  have CB := Lib.hid (fun wx => specBoxOk_any (bareBox cap pol) (.slice none 0 0) wx (by simp [bareBox]) ⟨none, 0, rfl, by simp [bareBox], by unfold maxLen; omega, Or.inl rfl⟩)
  have HN : Hid (newB cap pol = if boxB (bareBox cap pol) then (bareBox cap pol, true) else (zeroBox, false)) := Lib.hid rfl
  generalize newB cap pol = nb at HN ⊢
  generalize boxB (bareBox cap pol) = ok at CB HN
  go_enter Tryd.func11, Tryd.ntmps11
  go_upto_region 1 with (fail)
  have s1 : (w.alloc (.cells (bcells zeroBox (.slice none 0 0)) 29)).heap.size = w.heap.size + 1 := by simp
  have b1 : Below w.heap.size w (w.alloc (.cells (bcells zeroBox (.slice none 0 0)) 29)) := (Below.refl _ _).alloc (Nat.le_refl _) _
  have r1 : BBox (w.alloc (.cells (bcells zeroBox (.slice none 0 0)) 29)) w.heap.size 29 zeroBox (.slice none 0 0) := BBox.new _ _ _ _
  change Code.wp _ _ _ _ (w.alloc (.cells (bcells zeroBox (.slice none 0 0)) 29))
  generalize w.alloc (.cells (bcells zeroBox (.slice none 0 0)) 29) = w1 at s1 b1 r1 ⊢
  go_upto_region 2 with (fail)
  have s2 : (w1.alloc (.cells (bcells (bareBox cap pol) (.slice none 0 0)) 29)).heap.size = w.heap.size + 1 + 1 := by simp [s1]
  have b2 : Below w.heap.size w (w1.alloc (.cells (bcells (bareBox cap pol) (.slice none 0 0)) 29)) := b1.alloc (by omega) _
  have q2 : (w1.alloc (.cells (bcells (bareBox cap pol) (.slice none 0 0)) 29)).heap[w.heap.size + 1]? = some (.cells (bcells (bareBox cap pol) (.slice none 0 0)) 29 (0, 0)) := by rw [← s1]; exact heap_alloc_new _ _
  have r2 := r1.below ((Below.refl _ w1).alloc (Nat.le_refl _) (.cells (bcells (bareBox cap pol) (.slice none 0 0)) 29))
  change Code.wp _ _ _ _ (w1.alloc (.cells (bcells (bareBox cap pol) (.slice none 0 0)) 29))
  generalize w1.alloc (.cells (bcells (bareBox cap pol) (.slice none 0 0)) 29) = w2 at s2 b2 r2 q2 ⊢
  clear s1 b1 r1
  go_wp2_with (first
    | refine wpList_load_row rfl 29 (.tmp 6) rfl (w.heap.size + 1) rfl 29 (bcells (bareBox cap pol) (.slice none 0 0)) (0, 0) _ q2 Tryd.underlying29 rfl (by kernel_rfl) ?_)
  refine (CB.out _).mono ?_
  rintro e w3 ⟨rfl, hb⟩
  have q3 := (hb.block _ (by omega)).trans q2
  have r3 := r2.below hb
  have b3 : Below w.heap.size w w3 := b2.trans (hb.mono (by omega))
  clear s2 b2 r2 q2 hb
  cases ok
  · have HE := Lib.hid (show nb = (zeroBox, false) by rw [HN.out]; rfl)
    go_wp2_with (first
      | refine wpList_store_rowTo rfl 29 (.tmp 4) (.tmp 13) rfl rfl w.heap.size (bcells zeroBox (.slice none 0 0)) rfl rfl 29 _ r3 (by kernel_rfl) rfl (bcells_one _ _ _ _) ?_)
    have G := grown_setRow w3 w.heap.size (bcells zeroBox (.slice none 0 0))
    have HR := setRow_heap (bcells zeroBox (.slice none 0 0)) r3
    have HB := b3.trans (below_of_grown (n := w.heap.size) G (Nat.le_refl _) b3.size)
    refine bodyPost_ret (results_row_tmp rfl _ _ _ _ _ _ _ rfl HR Tryd.underlying29 rfl (by kernel_rfl)) rfl ⟨by rw [HE.out]; rfl, HB⟩
  · have HE := Lib.hid (show nb = (bareBox cap pol, true) by rw [HN.out]; rfl)
    go_wp2_with (first
      | refine wpList_load_row rfl 29 (.tmp 6) rfl (w.heap.size + 1) rfl 29 (bcells (bareBox cap pol) (.slice none 0 0)) (0, 0) _ q3 Tryd.underlying29 rfl (by kernel_rfl) ?_
      | refine wpList_store_rowTo rfl 29 (.tmp 4) (.tmp 14) rfl rfl w.heap.size (bcells (bareBox cap pol) (.slice none 0 0)) rfl rfl 29 _ r3 (by kernel_rfl) rfl (bcells_one _ _ _ _) ?_)
    have G := grown_setRow w3 w.heap.size (bcells (bareBox cap pol) (.slice none 0 0))
    have HR := setRow_heap (bcells (bareBox cap pol) (.slice none 0 0)) r3
    have HB := b3.trans (below_of_grown (n := w.heap.size) G (Nat.le_refl _) b3.size)
    refine bodyPost_ret (results_row_tmp rfl _ _ _ _ _ _ _ rfl HR Tryd.underlying29 rfl (by kernel_rfl)) rfl ⟨by rw [HE.out]; rfl, HB⟩

end Go.Proofs.YtgmlohgfkbjmlaaDoor

/- Where one of that topic is: mathematics. -/
namespace Go.Proofs.YtgmlohgfkbjmlaaDoor
open Go.RowKit

/-- Where one of that topic is, as the program tells. -/
def sameN (b : BoxM) (t : ByteArray) : Int := match sameQ b t with | some i => (i : Int) | none => -1

/-- None of that topic ahead of k. -/
def noneQTo (l : List MsgM) (t : ByteArray) (k : Nat) : Bool := (l.take k).all (fun x => !(sameT x.2.2.1 t))
theorem noneQTo_succ (l : List MsgM) (t : ByteArray) (k : Nat) (h : k < l.length) : noneQTo l t (k + 1) = (noneQTo l t k && !(sameT l[k].2.2.1 t)) := by
  unfold noneQTo
  rw [List.take_succ_eq_append_getElem h, List.all_append]
  simp
theorem sameAt_none {l : List MsgM} {t : ByteArray} : ∀ (n k : Nat), k + n ≤ l.length → (∀ j, k ≤ j → j < k + n → ∀ h : j < l.length, sameT l[j].2.2.1 t = false) → sameAt l t k n = none
  | 0, _, _, _ => rfl
  | n + 1, k, hk, h => by
    have hlt : k < l.length := by omega
    have h1 := h k (Nat.le_refl _) (by omega) hlt
    unfold sameAt
    rw [List.getD_eq_getElem?_getD, List.getElem?_eq_getElem hlt, Option.getD_some, h1]
    exact sameAt_none n (k + 1) (by omega) (fun j h2 h3 h4 => h j (by omega) (by omega) h4)
theorem sameAt_some {l : List MsgM} {t : ByteArray} {i : Nat} (hi : i < l.length) (hs : sameT l[i].2.2.1 t = true) : ∀ (n k : Nat), k ≤ i → i < k + n → (∀ j, k ≤ j → j < i → ∀ h : j < l.length, sameT l[j].2.2.1 t = false) → sameAt l t k n = some i
  | 0, k, h1, h2, _ => by omega
  | n + 1, k, h1, h2, h => by
    have hlt : k < l.length := by omega
    unfold sameAt
    rw [List.getD_eq_getElem?_getD, List.getElem?_eq_getElem hlt, Option.getD_some]
    by_cases hk : k = i
    · subst hk; rw [hs]; rfl
    · rw [h k (Nat.le_refl _) (by omega) hlt]
      exact sameAt_some hi hs n (k + 1) (by omega) (by omega) (fun j h3 h4 h5 => h j (by omega) h4 h5)
theorem sameAt_lt {l : List MsgM} {t : ByteArray} : ∀ (n k : Nat) {i : Nat}, sameAt l t k n = some i → i < k + n
  | 0, _, _, h => by unfold sameAt at h; cases h
  | n + 1, k, i, h => by
    unfold sameAt at h
    split at h
    · cases h; omega
    · have := sameAt_lt n (k + 1) h; omega
theorem sameQ_lt {b : BoxM} {t : ByteArray} {i : Nat} (h : sameQ b t = some i) : i < b.q.length := by
  unfold sameQ at h
  split at h
  · have := sameAt_lt _ _ h; omega
  · cases h
theorem noneQTo_each {l : List MsgM} {t : ByteArray} {k : Nat} (h : noneQTo l t k = true) (j : Nat) (hj : j < k) (hl : j < l.length) : sameT l[j].2.2.1 t = false := by
  unfold noneQTo at h
  rw [List.all_eq_true] at h
  have := h l[j] (List.mem_take_iff_getElem.2 ⟨j, by omega, rfl⟩)
  simpa using this
theorem sameN_four {b : BoxM} {t : ByteArray} (h : b.pol ≠ 4) : sameN b t = -1 := by
  unfold sameN sameQ; rw [if_neg h]
theorem sameN_none {b : BoxM} {t : ByteArray} (h : noneQTo b.q t b.q.length = true) : sameN b t = -1 := by
  unfold sameN sameQ
  split
  · rename_i i hi
    by_cases hp : b.pol = 4
    · rw [if_pos hp, sameAt_none b.q.length 0 (by omega) (fun j _ h2 h3 => noneQTo_each h j h3 h3)] at hi; cases hi
    · rw [if_neg hp] at hi; cases hi
  · rfl
theorem sameN_some {b : BoxM} {t : ByteArray} {k : Nat} (hp : b.pol = 4) (hk : k < b.q.length) (h : noneQTo b.q t k = true) (hs : sameT b.q[k].2.2.1 t = true) : sameN b t = (k : Int) := by
  unfold sameN sameQ
  rw [if_pos hp, sameAt_some hk hs b.q.length 0 (Nat.zero_le _) (by omega) (fun j _ h3 h4 => noneQTo_each h j h3 h4)]

end Go.Proofs.YtgmlohgfkbjmlaaDoor

/- The walk of the reference's look for one of that topic. -/
namespace Go.Proofs.YtgmlohgfkbjmlaaDoor
open Go.RowKit

set_option maxRecDepth 100000 in
set_option maxHeartbeats 1600000 in
theorem specSame_any (b : BoxM) (v : Value) (t : ByteArray) (w : World) (hl : b.q.length ≤ 2000000) (hv : MsgsAt w v b.q) :
    Calls Tryd.prog 32 #[bagg b v, .string t] w fun e w' => e = .returned (.int .i64 (sameN b t)) ∧ Below w.heap.size w w' := by
  have HV := Lib.hid hv
  obtain ⟨ua, uc, rfl, _, _, _⟩ := hv
  go_enter Tryd.func32, Tryd.ntmps32
  go_upto_region 1 with (fail)
  have b0 : Below w.heap.size w (w.alloc (.cells (bcells b (.slice ua b.q.length uc)) 29)) := (Below.refl _ _).alloc (Nat.le_refl _) _
  have r0 : BBox (w.alloc (.cells (bcells b (.slice ua b.q.length uc)) 29)) w.heap.size 29 b (.slice ua b.q.length uc) := BBox.new _ _ _ _
  have v0 := HV.out.alloc (.cells (bcells b (.slice ua b.q.length uc)) 29)
  generalize w.alloc (.cells (bcells b (.slice ua b.q.length uc)) 29) = w0 at b0 r0 v0 ⊢
  have B0 := Lib.hid b0
  obtain ⟨x0, x1, x2, x3, x4, x5, x6, x7⟩ := r0.cells
  clear b0 HV r0
  go_wp2
  go_loopw [5] (fun i wr => ∃ k : Nat, k ≤ b.q.length ∧ i = .int .i64 k ∧ Hid (noneQTo b.q t k = true) ∧ w0 = wr) (fun i _ => b.q.length - (intOf i).toNat)
  case atStart => exact ⟨0, Nat.zero_le _, rfl, rfl, rfl⟩
  case round =>
    obtain ⟨k, hk, rfl, HT, rfl⟩ := hrel
    by_cases hlt : k < b.q.length
    · have g0 : decide (k < b.q.length) = true := decide_eq_true hlt
      by_cases hp : b.pol = 4
      · have g1 : decide (b.pol = 4) = true := decide_eq_true hp
        obtain ⟨bb, o, rfl, hin⟩ : ∃ bb o, ua = some ⟨bb, o, none⟩ ∧ MsgsIn w0 bb o b.q := by
          obtain ⟨_, _, he, _, _, h⟩ := v0
          cases he
          rcases h with h | h
          · rw [h] at hlt; simp at hlt
          · exact h
        obtain ⟨p0, p1, p2, p3⟩ := hin k hlt
        have HYES := Lib.hid (fun hs => sameN_some hp hlt HT.out (t := t) hs)
        have HGO : Hid (sameT b.q[k].2.2.1 t = false → noneQTo b.q t (k + 1) = true) := Lib.hid (fun h => by rw [noneQTo_succ b.q t k hlt, HT.out, h]; rfl)
        obtain ⟨st, hst⟩ : ∃ st, sameT b.q[k].2.2.1 t = st := ⟨_, rfl⟩
        rw [hst] at HYES HGO
        obtain ⟨x, hx⟩ : ∃ x, b.q[k] = x := ⟨_, rfl⟩
        have g2 : (x.2.2.1.toList == t.toList) = st := by rw [← hst, hx]; rfl
        rw [hx] at p0 p1 p2 p3
        clear hst hx hin HT
        cases st
        · have HN := Lib.hid (HGO.out rfl)
          go_wp2
          go_roundw
          case rel => exact ⟨k + 1, by omega, by go_num, HN, trivial⟩
          case measure => simp [intOf]; omega
        · have HE := Lib.hid (HYES.out rfl)
          go_wp2
          go_ret
          exact ⟨by rw [HE.out]; rfl, B0.out⟩
      · have g1 : decide (b.pol = 4) = false := decide_eq_false hp
        have HE := Lib.hid (sameN_four (t := t) hp)
        go_wp2
        go_ret
        exact ⟨by first | (rw [HE.out]; rfl) | rw [HE.out], B0.out⟩
    · obtain rfl : k = b.q.length := by omega
      have g0 : decide (b.q.length < b.q.length) = false := decide_eq_false (by omega)
      have HE := Lib.hid (sameN_none (t := t) HT.out)
      go_wp2
      go_ret
      exact ⟨by first | (rw [HE.out]; rfl) | rw [HE.out], B0.out⟩

end Go.Proofs.YtgmlohgfkbjmlaaDoor
