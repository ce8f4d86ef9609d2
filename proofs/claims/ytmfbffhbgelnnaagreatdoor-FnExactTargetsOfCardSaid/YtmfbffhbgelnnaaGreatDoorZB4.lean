/- Small texts, laid together. -/
import Derived.Test.YtmfbffhbgelnnaaGreatDoorZB3
import Derived.Test.YtmfbffhbgelnnaaGreatDoorZB2
import Derived.Test.YtmfbffhbgelnnaaGreatDoorZB1
set_option linter.unusedSimpArgs false
set_option linter.unusedVariables false
/- The walk of impl.MsgOk. -/
namespace Go.Proofs.YtmfbffhbgelnnaaGreatDoor
open Go.RowKit

set_option maxRecDepth 100000 in
set_option maxHeartbeats 800000 in
theorem implMsgOk_any (x : MsgM) (m : Int) (w : World) (hs : x.2.2.1.size ≤ 1048576) (hm : w.cell? ⟨0, 0, none⟩ = some (.int .i64 m)) :
    Calls Tryz.prog 84 #[magg x] w fun e w' => e = .returned (.bool (msgB x)) ∧ Below w.heap.size w w' := by
  have C1 := Lib.hid (fun w' => messageOf_any x w')
  have C2 := Lib.hid (fun w' hm => isRight_any x m w' hs hm)
  have HM := Lib.hid hm
  generalize msgB x = b at C2 ⊢
  obtain ⟨q, f, p, d⟩ := x
  clear hs hm
  go_enter Tryz.func84, Tryz.ntmps84
  go_wp2_with fail
  have b0 : Below w.heap.size w (w.alloc (.cells #[.int .i64 q, .int .i64 f, .string p, .int .i64 d] 97)) := (Below.refl _ _).alloc (Nat.le_refl _) _
  have HM0 := Lib.hid ((b0.cell (World.block_lt_of_cell? _ _ HM.out)).trans HM.out)
  generalize w.alloc (.cells #[.int .i64 q, .int .i64 f, .string p, .int .i64 d] 97) = w0 at b0 HM0 ⊢
  refine (C1.out _).mono ?_
  rintro e w1 ⟨rfl, hb1⟩
  have HM1 := Lib.hid ((hb1.cell (World.block_lt_of_cell? _ _ HM0.out)).trans HM0.out)
  have HB1 := Lib.hid (b0.trans (hb1.mono b0.size))
  clear b0 hb1
  go_wp2_with fail
  refine (C2.out _ HM1.out).mono ?_
  rintro e w2 ⟨rfl, hb2⟩
  have HB2 := Lib.hid (below_end HB1.out hb2)
  go_wp2
  go_ret
  exact ⟨rfl, HB2.out⟩

end Go.Proofs.YtmfbffhbgelnnaaGreatDoor

/- The walk of impl.KeepOk. -/
namespace Go.Proofs.YtmfbffhbgelnnaaGreatDoor
open Go.RowKit

/-- The topic of the message ahead of the k-th; nothing ahead of the first. -/
def topicM (l : List MsgM) (k : Nat) : ByteArray := if h : 0 < k ∧ k ≤ l.length then (l[k - 1]'(by omega)).2.2.1 else ⟨#[]⟩

theorem topicP_some {p : ByteArray} (h : topicP (parts p 47) = true) : p ≠ ⟨#[]⟩ := by
  intro e
  rw [e] at h
  revert h; decide

theorem keepNext_topic {l : List MsgM} {k : Nat} (h : k < l.length) : keepNext l k h = (msgB l[k] && (!(l[k].2.2.2 == 0) && !(leB l[k].2.2.1 (topicM l k)))) := by
  unfold keepNext topicM
  by_cases h0 : k = 0
  · subst h0
    cases e : msgB l[0]
    · simp
    · have : l[0].2.2.1 ≠ ⟨#[]⟩ := by
        unfold msgB at e
        simp only [Bool.and_eq_true] at e
        exact topicP_some e.1.2
      have h2 : leB l[0].2.2.1 ⟨#[]⟩ = false := by
        cases e2 : leB l[0].2.2.1 ⟨#[]⟩
        · rfl
        · exfalso
          apply this
          unfold leB at e2
          rw [Go.ByteArray.toList_eq] at e2
          have e3 : (ByteArray.mk #[]).toList = [] := by rw [Go.ByteArray.toList_eq]
          rw [e3] at e2
          cases e4 : l[0].2.2.1.data.toList with
          | nil =>
            have e6 : l[0].2.2.1.data = #[] := Array.toList_inj.1 e4
            generalize l[0].2.2.1 = z at e6
            cases z; simpa using e6
          | cons a r => rw [e4] at e2; simp [Op.bytesLess] at e2
      simp [h2]
  · have h1 : 0 < k ∧ k ≤ l.length := by omega
    rw [dif_pos h1]
    simp [h0]

theorem topicM_next {l : List MsgM} {k : Nat} (h : k < l.length) : topicM l (k + 1) = l[k].2.2.1 := by
  unfold topicM
  rw [dif_pos (by omega)]
  simp

set_option maxRecDepth 100000 in
set_option maxHeartbeats 3200000 in
theorem implKeepOk_any (v : Value) (l : List MsgM) (m : Int) (w : World) (hl : l.length ≤ 1048576) (hs : ∀ x ∈ l, x.2.2.1.size ≤ 1048576) (hv : MsgsAt w v l) (hm : w.cell? ⟨0, 0, none⟩ = some (.int .i64 m)) :
    Calls Tryz.prog 42 #[v] w fun e w' => e = .returned (.bool (keepB l)) ∧ Below w.heap.size w w' := by
  obtain ⟨a, c, rfl, hc1, hc2, hc3⟩ := hv
  have HC := Lib.hid hc3
  have HS := Lib.hid hs
  have HM := Lib.hid hm
  clear hc3 hs hm
  by_cases h24 : 24 < l.length
  · have g0 : decide ((24 : Int) < (l.length : Int)) = true := decide_eq_true (by omega)
    have HE : Hid (keepB l = false) := Lib.hid (by unfold keepB; rw [decide_eq_false (by omega)]; simp)
    go_enter Tryz.func42, Tryz.ntmps42
    go_wp2
    go_ret
    exact ⟨ret_bool HE.out.symm, Below.refl _ _⟩
  have g0 : decide ((24 : Int) < (l.length : Int)) = false := decide_eq_false (by omega)
  have H24 : Hid (l.length ≤ 24) := Lib.hid (by omega)
  go_enter Tryz.func42, Tryz.ntmps42
  go_wp2
  go_loopw [3, 11] (fun s i wr => ∃ (k : Nat) (y : ByteArray), k ≤ l.length ∧ i = .int .i64 k ∧ s = .string y ∧ Hid (topicM l k = y) ∧ Hid (keepTo l k = true) ∧ Hid (Below w.heap.size w wr)) (fun _ i _ => l.length - (intOf i).toNat)
  case atStart => exact ⟨0, ⟨#[]⟩, Nat.zero_le _, rfl, rfl, rfl, rfl, Below.refl _ _⟩
  case round =>
    obtain ⟨k, y, hk, rfl, rfl, HY, HT, HB⟩ := hrel
    by_cases hlt : k < l.length
    · obtain ⟨b, o, rfl, hin⟩ : ∃ b o, a = some ⟨b, o, none⟩ ∧ MsgsIn w b o l := by
        rcases HC.out with h | h
        · subst h; simp at hlt
        · exact h
      obtain ⟨p0, p1, p2, p3⟩ := (hin.below HB.out) k hlt
      have CM := Lib.hid (fun wx hm => implMsgOk_any l[k] m wx (HS.out _ (List.getElem_mem hlt)) hm)
      have HNX : Hid (keepNext l k hlt = (msgB l[k] && (!(l[k].2.2.2 == 0) && !(leB l[k].2.2.1 y)))) := Lib.hid (by rw [keepNext_topic hlt, HY.out])
      have HBAD := Lib.hid (fun h => keepTo_bad hlt h)
      have HGO : Hid (keepNext l k hlt = true → keepTo l (k + 1) = true) := Lib.hid (fun h => by rw [keepTo_succ l k hlt, HT.out, h]; rfl)
      have HLN := Lib.hid (topicM_next hlt)
      generalize keepNext l k hlt = nx at HNX HBAD HGO
      obtain ⟨mb, hmb⟩ : ∃ mb, msgB l[k] = mb := ⟨_, rfl⟩
      rw [hmb] at CM HNX
      generalize l[k] = x at p0 p1 p2 p3 CM HNX HLN hmb
      obtain ⟨q, f, p, d⟩ := x
      clear hin HT HY hmb
      go_wp2_with fail
      have d0 : (wr.alloc (.cells #[.int .i64 q, .int .i64 f, .string p, .int .i64 d] 97)).cell? ⟨wr.heap.size, 0, none⟩ = some (.int .i64 q) := by rw [World.cell?_alloc_at _ _ _ _ rfl]; rfl
      have d1 : (wr.alloc (.cells #[.int .i64 q, .int .i64 f, .string p, .int .i64 d] 97)).cell? ⟨wr.heap.size, 1, none⟩ = some (.int .i64 f) := by rw [World.cell?_alloc_at _ _ _ _ rfl]; rfl
      have d2 : (wr.alloc (.cells #[.int .i64 q, .int .i64 f, .string p, .int .i64 d] 97)).cell? ⟨wr.heap.size, 2, none⟩ = some (.string p) := by rw [World.cell?_alloc_at _ _ _ _ rfl]; rfl
      have d3 : (wr.alloc (.cells #[.int .i64 q, .int .i64 f, .string p, .int .i64 d] 97)).cell? ⟨wr.heap.size, 3, none⟩ = some (.int .i64 d) := by rw [World.cell?_alloc_at _ _ _ _ rfl]; rfl
      have HB1 := Lib.hid (HB.out.trans (((Below.refl wr.heap.size wr).alloc (Nat.le_refl _) (.cells #[.int .i64 q, .int .i64 f, .string p, .int .i64 d] 97)).mono HB.out.size))
      generalize wr.alloc (.cells #[.int .i64 q, .int .i64 f, .string p, .int .i64 d] 97) = w1 at d0 d1 d2 d3 HB1 ⊢
      clear p0 p1 p2 p3
      refine (CM.out _ ((HB1.out.cell (World.block_lt_of_cell? _ _ HM.out)).trans HM.out)).mono ?_
      rintro e wa ⟨rfl, hb⟩
      have c0 := (below_cell hb (World.block_lt_of_cell? _ _ d0)).trans d0
      have c1 := (below_cell hb (World.block_lt_of_cell? _ _ d1)).trans d1
      have c2 := (below_cell hb (World.block_lt_of_cell? _ _ d2)).trans d2
      have c3 := (below_cell hb (World.block_lt_of_cell? _ _ d3)).trans d3
      have HB2 := Lib.hid (below_end HB1.out hb)
      clear d0 d1 d2 d3 hb
      cases mb
      · have HE := Lib.hid (HBAD.out (by rw [HNX.out]; rfl))
        go_wp2
        go_ret
        exact ⟨ret_bool HE.out.symm, HB2.out⟩
      · by_cases hd : d = 0
        · have hd1 : (d == 0) = true := by simp [hd]
          have HE := Lib.hid (HBAD.out (by rw [HNX.out, hd1]; rfl))
          clear hd
          go_wp2
          go_ret
          exact ⟨ret_bool HE.out.symm, HB2.out⟩
        · have hd1 : (d == 0) = false := by simp [hd]
          obtain ⟨lb, hlb⟩ : ∃ lb, leB p y = lb := ⟨_, rfl⟩
          have hle : (Op.bytesLess p.toList y.toList || p.toList == y.toList) = lb := hlb
          rw [hlb] at HNX
          clear hlb hd
          cases lb
          · have HN := Lib.hid (HGO.out (by rw [HNX.out, hd1]; rfl))
            go_wp2
            go_roundw
            case rel => exact ⟨k + 1, p, by omega, by go_num, rfl, HLN, HN, HB2⟩
            case measure => simp [intOf]; omega
          · have HE := Lib.hid (HBAD.out (by rw [HNX.out, hd1]; rfl))
            go_wp2
            go_ret
            exact ⟨ret_bool HE.out.symm, HB2.out⟩
    · obtain rfl : k = l.length := by omega
      have HE : Hid (keepB l = true) := Lib.hid (by unfold keepB; rw [HT.out, decide_eq_true H24.out]; rfl)
      go_wp2
      go_ret
      exact ⟨ret_bool HE.out.symm, HB.out⟩

end Go.Proofs.YtmfbffhbgelnnaaGreatDoor

/- The walks of the program's look at a queue and at the counts. -/
namespace Go.Proofs.YtmfbffhbgelnnaaGreatDoor
open Go.RowKit

set_option maxRecDepth 100000 in
set_option maxHeartbeats 1600000 in
theorem containsG_any (u : Value) (l : List MsgM) (pr : MsgM → Bool) (g : Nat) (lb : Array Value) (eg : ∀ args w, (callFunc g args).run Tryz.prog w = .ok (.enter g args) w) (w : World) (hl : l.length ≤ 2000000) (hv : MsgsAt w u l) (hp : PredM g lb pr l w) :
    Calls Tryz.prog 119 #[u, .func (.func g) #[] lb] w fun e w' => e = .returned (.bool (l.any pr)) ∧ Below w.heap.size w w' := by
  have CI := Lib.hid (indexG_any u l pr g lb eg w hl hv hp)
  obtain ⟨ua, uc, rfl, _, _, _⟩ := hv
  clear hp hl
  go_enter Tryz.func119, Tryz.ntmps119
  go_wp2_with fail
  refine CI.out.mono ?_
  rintro e w1 ⟨z, rfl, hz, hb⟩
  have HB := Lib.hid hb
  clear hb CI
  rcases hz with ⟨rfl, hz⟩ | ⟨k, rfl, hk, hp, _⟩
  · have HE : Hid (l.any pr = false) := Lib.hid (by rw [List.any_eq_false]; exact fun x hx => by rw [hz x hx]; decide)
    clear hz
    go_wp2
    go_ret
    exact ⟨ret_bool HE.out.symm, HB.out⟩
  · have HE : Hid (l.any pr = true) := Lib.hid (by rw [List.any_eq_true]; exact ⟨l[k], List.getElem_mem hk, hp⟩)
    have g1 : decide ((0 : Int) ≤ (k : Int)) = true := decide_eq_true (by omega)
    clear hp
    go_wp2
    go_ret
    exact ⟨ret_bool HE.out.symm, HB.out⟩

set_option maxRecDepth 100000 in
set_option maxHeartbeats 1600000 in
theorem queueC_any (x : MsgM) (m : Int) (w : World) (hx : x.2.2.1.size ≤ 1048576) (hm : w.cell? ⟨0, 0, none⟩ = some (.int .i64 m)) :
    Calls Tryz.prog 167 #[magg x] w fun e w' => e = .returned (.bool (!msgB x)) ∧ Below w.heap.size w w' := by
  have CM := Lib.hid (fun w' hm => implMsgOk_any x m w' hx hm)
  generalize msgB x = b at CM ⊢
  have HM := Lib.hid hm
  obtain ⟨q, t, p, d⟩ := x
  have ha : Below w.heap.size w (w.alloc (.cells #[.int .i64 q, .int .i64 t, .string p, .int .i64 d] 97)) := (Below.refl _ _).alloc (Nat.le_refl _) _
  clear hm
  go_enter Tryz.func167, Tryz.ntmps167
  go_wp2_with fail
  refine (CM.out _ ((ha.cell (World.block_lt_of_cell? _ _ HM.out)).trans HM.out)).mono ?_
  rintro e w1 ⟨rfl, hb⟩
  have HE := Lib.hid (below_end ha hb)
  clear ha hb
  go_wp2
  go_ret
  exact ⟨rfl, HE.out⟩

/-- The look at the queue. -/
def queueB (l : List MsgM) (c : Int) : Bool := decide ((l.length : Int) ≤ c) && msgsAll l

set_option maxRecDepth 100000 in
set_option maxHeartbeats 1600000 in
theorem queueOk_any (u : Value) (l : List MsgM) (c : Int) (m : Int) (w : World) (hl : l.length ≤ 1048576) (hs : ∀ x ∈ l, x.2.2.1.size ≤ 1048576) (hv : MsgsAt w u l) (hm : w.cell? ⟨0, 0, none⟩ = some (.int .i64 m)) :
    Calls Tryz.prog 135 #[u, .int .i64 c] w fun e w' => e = .returned (.bool (queueB l c)) ∧ Below w.heap.size w w' := by
  have CC := Lib.hid (containsG_any u l (fun x => !msgB x) 167 #[] (enters_of Tryz.func167 (by kernel_rfl) rfl) w (by omega) hv (fun W x hx hb => queueC_any x m W (hs x hx) ((hb.cell (World.block_lt_of_cell? _ _ hm)).trans hm)))
  have HQ : Hid (queueB l c = (decide ((l.length : Int) ≤ c) && msgsAll l)) := Lib.hid rfl
  have HA : Hid (msgsAll l = !l.any (fun x => !msgB x)) := Lib.hid (by
    unfold msgsAll
    rw [List.not_any_eq_all_not]
    congr 1
    funext x
    simp)
  generalize l.any (fun x => !msgB x) = an at CC HA
  generalize msgsAll l = ma at HA HQ
  obtain ⟨ua, uc, rfl, _, _, _⟩ := hv
  clear hs hm
  go_enter Tryz.func135, Tryz.ntmps135
  by_cases h1 : (l.length : Int) ≤ c
  · have g1 : decide ((l.length : Int) ≤ c) = true := decide_eq_true h1
    go_wp2_with fail
    refine CC.out.mono ?_
    rintro e w1 ⟨rfl, hb⟩
    have HB := Lib.hid hb
    clear hb CC
    go_wp2
    go_ret
    exact ⟨ret_bool (by rw [HQ.out, HA.out, g1]; simp), HB.out⟩
  · have g1 : decide ((l.length : Int) ≤ c) = false := decide_eq_false h1
    go_wp2
    go_ret
    exact ⟨ret_bool (by rw [HQ.out, g1]; rfl), Below.refl _ _⟩

end Go.Proofs.YtmfbffhbgelnnaaGreatDoor

/- The walks of impl.BoxOk and impl.NewBox. -/
namespace Go.Proofs.YtmfbffhbgelnnaaGreatDoor
open Go.RowKit

set_option maxRecDepth 100000 in
set_option maxHeartbeats 3200000 in
theorem implBoxOk_any (b : BoxM) (v : Value) (m : Int) (w : World) (hl : b.q.length ≤ 1048576) (hs : ∀ x ∈ b.q, x.2.2.1.size ≤ 1048576) (hv : MsgsAt w v b.q) (hm : w.cell? ⟨0, 0, none⟩ = some (.int .i64 m)) :
    Calls Tryz.prog 116 #[bagg b v] w fun e w' => e = .returned (.bool (boxB b)) ∧ Below w.heap.size w w' := by
  have C1 := Lib.hid (fun w' => capOk_any b.cap w')
  have C2 := Lib.hid (fun w' => policyOk_any b.pol w')
  have C3 := Lib.hid (fun w' (h : MsgsAt w' v b.q) hm => queueOk_any v b.q b.cap m w' hl hs h hm)
  have HB := Lib.hid (boxB_parts b)
  have HQ : Hid (queueB b.q b.cap = (decide ((b.q.length : Int) ≤ b.cap) && msgsAll b.q)) := Lib.hid rfl
  have HV := Lib.hid hv
  have HM := Lib.hid hm
  obtain ⟨ua, uc, rfl, _, _, _⟩ := hv
  have C4 := Lib.hid (fun w' => countsOk_any b ua uc w' hl)
  clear hs hm
  rw [← HQ.out] at HB
  generalize inB b.cap 1 16 = p1 at C1 HB
  generalize inB b.pol 1 4 = p2 at C2 HB
  generalize queueB b.q b.cap = p3 at C3 HB
  generalize countsB b = p4 at C4 HB
  generalize boxB b = R at HB ⊢
  go_enter Tryz.func116, Tryz.ntmps116
  go_upto_region 1 with (fail)
  have b0 : Below w.heap.size w (w.alloc (.cells (bcells b (.slice ua b.q.length uc)) 62)) := (Below.refl _ _).alloc (Nat.le_refl _) _
  have r0 : BBox (w.alloc (.cells (bcells b (.slice ua b.q.length uc)) 62)) w.heap.size 62 b (.slice ua b.q.length uc) := BBox.new _ _ _ _
  generalize w.alloc (.cells (bcells b (.slice ua b.q.length uc)) 62) = w0 at b0 r0 ⊢
  have x0 := r0.cells.1
  have x1 := r0.cells.2.1
  have x2 := r0.cells.2.2.1
  go_wp2_with fail
  refine (C1.out _).mono ?_
  rintro e w1 ⟨rfl, hw⟩
  subst hw
  cases p1
  · have HE := Lib.hid (show R = false by rw [HB.out]; rfl)
    clear HB
    go_wp2
    go_ret
    exact ⟨ret_bool HE.out.symm, b0⟩
  go_wp2_with fail
  refine (C2.out _).mono ?_
  rintro e w1 ⟨rfl, hw⟩
  subst hw
  cases p2
  · have HE := Lib.hid (show R = false by rw [HB.out]; rfl)
    clear HB
    go_wp2
    go_ret
    exact ⟨ret_bool HE.out.symm, b0⟩
  go_wp2_with fail
  refine (C3.out _ (HV.out.below b0) ((b0.cell (World.block_lt_of_cell? _ _ HM.out)).trans HM.out)).mono ?_
  rintro e w1 ⟨rfl, hb⟩
  have r1 := r0.below hb
  have b1 := below_end b0 hb
  clear r0 b0 hb x0 x1 x2 C1 C2 C3
  cases p3
  · have HE := Lib.hid (show R = false by rw [HB.out]; rfl)
    clear HB
    go_wp2
    go_ret
    exact ⟨ret_bool HE.out.symm, b1⟩
  have HE := Lib.hid (show R = p4 by rw [HB.out]; simp)
  clear HB
  obtain ⟨x0, x1, x2, x3, x4, x5, x6, x7⟩ := BBox.cells r1
  clear r1
  go_wp2_with fail
  clear x0 x1 x2 x3 x4 x5 x6 x7
  refine (C4.out _).mono ?_
  rintro e w2 ⟨rfl, hb⟩
  have b2 := below_end b1 hb
  clear b1 hb C4
  go_wp2
  go_ret
  exact ⟨ret_bool HE.out.symm, b2⟩

end Go.Proofs.YtmfbffhbgelnnaaGreatDoor
