/- The walk of the program's queue with one more. -/
import Derived.Test.YtgmbjnobpkdjkaaDoorZIFull
import Derived.Test.YtgmbjnobpkdjkaaDoorZB5
set_option linter.unusedSimpArgs false
set_option linter.unusedVariables false
namespace Go.Proofs.YtgmbjnobpkdjkaaDoor
open Go.RowKit

/-- The look for whose place a message takes, whatever the policy. -/
theorem elder_of (p : Int) (hp : 1 ≤ p ∧ p ≤ 4) : ∃ (T : TypeId) (F : FuncId), polV p = .iface T (.agg #[]) ∧
    (∀ w, (nilAhead 234 T (.agg #[]) "loop.example/g00776/impl.elder").run Tryd.prog w = .ok (some false) w) ∧
    (∀ w, (method 234 T (.agg #[]) "loop.example/g00776/impl.elder").run Tryd.prog w = .ok (F, .agg #[]) w) ∧
    (∀ args w, (callFunc F args).run Tryd.prog w = .ok (.enter F args) w) ∧
    (∀ (v : Value) (l : List MsgM) (m : MsgM) (w : World), l.length ≤ 2000000 → MsgsAt w v l → Calls Tryd.prog F #[.agg #[], v, magg m] w fun e w' => e = .returned (.int .i64 (idxN (if p = 4 then sameAt l m.2.2.1 0 l.length else none))) ∧ Below w.heap.size w w') := by
  by_cases h4 : p = 4
  · subst h4
    exact ⟨91, 98, rfl, fun w => by kernel_rfl, fun w => by kernel_rfl, enters_of Tryd.func98 (by kernel_rfl) rfl, fun v l m w hl hv => elderM_any v l m w hl hv⟩
  have hA : ∀ (v : Value) (l : List MsgM) (m : MsgM) (w : World), l.length ≤ 2000000 → MsgsAt w v l → Calls Tryd.prog 97 #[.agg #[], v, magg m] w fun e w' => e = .returned (.int .i64 (idxN (if p = 4 then sameAt l m.2.2.1 0 l.length else none))) ∧ Below w.heap.size w w' := fun v l m w _ _ => by
    rw [if_neg h4]; exact elderA_any v m w
  have eA := enters_of Tryd.func97 (by kernel_rfl) rfl
  by_cases h1 : p = 1
  · exact ⟨88, 97, by rw [h1]; rfl, fun w => by kernel_rfl, fun w => by kernel_rfl, eA, hA⟩
  by_cases h2 : p = 2
  · exact ⟨89, 97, by rw [h2]; rfl, fun w => by kernel_rfl, fun w => by kernel_rfl, eA, hA⟩
  · have h3 : p = 3 := by omega
    exact ⟨90, 97, by rw [h3]; rfl, fun w => by kernel_rfl, fun w => by kernel_rfl, eA, hA⟩

/-- What a queue with one more is handed back as. -/
def QuePost (B : Nat) (b : BoxM) (v : Value) (m : MsgM) (w : World) (e : Ending) (w' : World) : Prop :=
  ∃ V u pre post, e = .returned (.tuple #[u, .int .i64 (offQ b m (sameQ b m.2.2.1)).2]) ∧ MOwn w' B V (pre ++ (offQ b m (sameQ b m.2.2.1)).1.q ++ post) ∧ PartOf V pre.length (offQ b m (sameQ b m.2.2.1)).1.q.length u ∧ w.grownBy w' v.ownBlock

/-- The call's box, its message, the queue. -/
structure Qd (w wx : World) (B : Nat) (b : BoxM) (v : Value) (m : MsgM) (l : List MsgM) : Prop where
  box : wx.heap[w.heap.size]? = some (.cells (bcells b v) 30 (0, 0))
  msg : wx.heap[w.heap.size + 1]? = some (.cells #[.int .i64 m.1, .int .i64 m.2.1, .string m.2.2.1, .int .i64 m.2.2.2] 35 (0, 0))
  row : MOwn wx B v l
  far : ∀ k, v.ownBlock = some k → k < w.heap.size
  since : w.grownBy wx v.ownBlock
  here : B ≤ w.heap.size
theorem Qd.new {w : World} {B : Nat} {v : Value} (b : BoxM) (m : MsgM) (ho : MOwn w B v b.q) (hB : B ≤ w.heap.size) :
    Qd w ((w.alloc (.cells (bcells b v) 30)).alloc (.cells #[.int .i64 m.1, .int .i64 m.2.1, .string m.2.2.1, .int .i64 m.2.2.2] 35)) B b v m b.q := by
  have s1 : (w.alloc (.cells (bcells b v) 30)).heap.size = w.heap.size + 1 := by simp
  have hb : Below w.heap.size w ((w.alloc (.cells (bcells b v) 30)).alloc (.cells #[.int .i64 m.1, .int .i64 m.2.1, .string m.2.2.1, .int .i64 m.2.2.2] 35)) := ((Below.refl _ _).alloc (Nat.le_refl _) _).alloc (by simp) _
  refine ⟨?_, ?_, row_below ho hb, fun k hk => (World.ownsRow.lt ho k hk).2, grown_of_below hb _, hB⟩
  · rw [Below.heap_alloc _ _ _ (by omega)]; exact heap_alloc_new _ _
  · rw [← s1]; exact heap_alloc_new _ _
theorem Qd.lt {w wx : World} {B : Nat} {b : BoxM} {v : Value} {m : MsgM} {l : List MsgM} (h : Qd w wx B b v m l) : w.heap.size + 1 < wx.heap.size := (Array.getElem?_eq_some_iff.1 h.msg).1
theorem Qd.below {w wx wy : World} {B : Nat} {b : BoxM} {v : Value} {m : MsgM} {l : List MsgM} (h : Qd w wx B b v m l) (hb : Below wx.heap.size wx wy) : Qd w wy B b v m l := by
  have := h.lt
  have := h.here
  exact ⟨(hb.block _ (by omega)).trans h.box, (hb.block _ (by omega)).trans h.msg, row_below h.row hb, h.far, grown_trans h.since (grown_of_below hb _), h.here⟩

/-- A message of the queue laid anew. -/
theorem Qd.put {w wx : World} {B g n c i : Nat} {b : BoxM} {m : MsgM} {l : List MsgM} (h : Qd w wx B b (.slice (some ⟨g, 0, none⟩) n c) m l) (hn : n = l.length) (hi : i < l.length) (x : MsgM) :
    Qd w (put4 wx g i x) B b (.slice (some ⟨g, 0, none⟩) n c) m (l.set i x) := by
  have hg := grown_put4 wx g i x
  have h1 : g < w.heap.size := h.far g rfl
  have h2 : B ≤ g := (World.ownsRow.lt h.row g rfl).1
  have h3 := h.lt
  exact ⟨(hg.block _ (by omega) (fun e => by injection e with e; omega)).trans h.box, (hg.block _ h3 (fun e => by injection e with e; omega)).trans h.msg, MOwn.put x h.row hn hi, h.far, grown_trans h.since hg, h.here⟩

theorem offQ_some (b : BoxM) (m : MsgM) (i : Nat) : (offQ b m (some i)).1.q = b.q.set i m ∧ (offQ b m (some i)).2 = 2 := ⟨rfl, rfl⟩
theorem offQ_room {b : BoxM} (m : MsgM) (h : ¬ (b.q.length : Int) = b.cap) : (offQ b m none).1.q = b.q ++ [m] ∧ (offQ b m none).2 = 0 := by unfold offQ; rw [if_neg h]; exact ⟨rfl, rfl⟩
theorem offQ_wait {b : BoxM} (m : MsgM) (h : (b.q.length : Int) = b.cap) (hp : b.pol = 1) : (offQ b m none).1.q = b.q ∧ (offQ b m none).2 = 3 := by unfold offQ; rw [if_pos h, if_pos hp]; exact ⟨rfl, rfl⟩
theorem offQ_lost {b : BoxM} (m : MsgM) (h : (b.q.length : Int) = b.cap) (hp : b.pol = 3) : (offQ b m none).1.q = b.q ∧ (offQ b m none).2 = 4 := by unfold offQ; rw [if_pos h, if_neg (by omega), if_pos hp]; exact ⟨rfl, rfl⟩
theorem offQ_old {b : BoxM} (m : MsgM) (h : (b.q.length : Int) = b.cap) (hp : b.pol ≠ 1) (hp3 : b.pol ≠ 3) : (offQ b m none).1.q = b.q.drop 1 ++ [m] ∧ (offQ b m none).2 = 5 := by unfold offQ; rw [if_pos h, if_neg hp, if_neg hp3]; exact ⟨rfl, rfl⟩

set_option maxRecDepth 100000 in
set_option maxHeartbeats 3200000 in
theorem queued_any (b : BoxM) (v : Value) (m : MsgM) (B : Nat) (w : World) (hl : b.q.length ≤ 16) (hp : 1 ≤ b.pol ∧ b.pol ≤ 4) (hc : (b.q.length : Int) ≤ b.cap ∧ 1 ≤ b.cap) (ho : MOwn w B v b.q) (hB : B ≤ w.heap.size) :
    Calls Tryd.prog 19 #[bagg b v, magg m] w (QuePost B b v m w) := by
  obtain ⟨T, F, hP, hnil, hmeth, hent, hC⟩ := elder_of b.pol hp
  have CP := policyOf_any b.pol
  rw [hP] at CP
  have HC := Lib.hid (fun w' h => hC v b.q m w' (by omega) h)
  clear hC
  obtain ⟨ua, uc, rfl⟩ := own_slice ho
  go_enter Tryd.func19, Tryd.ntmps19
  go_upto_region 1 with (fail)
  have Q1 := Qd.new (v := .slice ua b.q.length uc) b m ho hB
  change Code.wp _ _ _ _ ((w.alloc (.cells (bcells b (.slice ua b.q.length uc)) 30)).alloc (.cells #[.int .i64 m.1, .int .i64 m.2.1, .string m.2.2.1, .int .i64 m.2.2.2] 35))
  generalize ((w.alloc (.cells (bcells b (.slice ua b.q.length uc)) 30)).alloc (.cells #[.int .i64 m.1, .int .i64 m.2.1, .string m.2.2.1, .int .i64 m.2.2.2] 35)) = w1 at Q1 ⊢
  have x1 : w1.cell? ⟨w.heap.size, 1, none⟩ = some (.int .i64 b.pol) := cell_of_heap Q1.box 1
  have x2 : w1.cell? ⟨w.heap.size, 2, none⟩ = some (.slice ua b.q.length uc) := cell_of_heap Q1.box 2
  go_wp2_with fail
  refine (CP _).mono ?_
  rintro e w2 ⟨rfl, hw⟩
  subst hw
  go_wp2_with (first
    | refine wpList_load_row rfl 35 (.tmp 3) rfl (w.heap.size + 1) rfl 35 #[.int .i64 m.1, .int .i64 m.2.1, .string m.2.2.1, .int .i64 m.2.2.2] (0, 0) _ Q1.msg Tryd.underlying35 rfl (by kernel_rfl) ?_)
  refine (HC.out _ (own_msgs_at Q1.row)).mono ?_
  rintro e w2 ⟨rfl, hb⟩
  have Q2 := Q1.below hb
  clear Q1 x1 x2 hb HC CP hnil hmeth hent
  obtain ⟨sq, hsq⟩ : ∃ sq, sameQ b m.2.2.1 = sq := ⟨_, rfl⟩
  have HSQ : Hid (∀ i, sq = some i → i < b.q.length) := Lib.hid (fun i h => sameQ_lt (hsq.trans h))
  have HSE := Lib.hid hsq
  rw [show (if b.pol = 4 then sameAt b.q m.2.2.1 0 b.q.length else none) = sq from hsq]
  clear hsq
  have x0 : w2.cell? ⟨w.heap.size, 0, none⟩ = some (.int .i64 b.cap) := cell_of_heap Q2.box 0
  have x2 : w2.cell? ⟨w.heap.size, 2, none⟩ = some (.slice ua b.q.length uc) := cell_of_heap Q2.box 2
  cases sq with
  | some i =>
    have hi : i < b.q.length := HSQ.out i rfl
    have hz : idxN (some i) = (i : Int) := rfl
    have hz2 : decide ((0 : Int) ≤ (i : Int)) = true := decide_eq_true (by omega)
    rw [hz]
    clear hz HSQ
    go_upto_region 4 with (fail)
    obtain ⟨gy, yc, hyv⟩ := Joins.ownsRow_form Q2.row (show 0 < b.q.length by omega)
    injection hyv with hya hyn hyc
    subst hya hyc
    have hrow : w2.ownsRow B 35 4 (.slice (some ⟨gy, 0, none⟩) b.q.length uc) b.q.length (mcells b.q) := Q2.row
    have f0 := hrow.frozenAt (i * 4)
    have f1 := hrow.frozenAt (i * 4 + 1)
    have f2 := hrow.frozenAt (i * 4 + 2)
    have f3 := hrow.frozenAt (i * 4 + 3)
    have hex : ∀ j, j < 4 → ∃ u, w2.cell? ⟨gy, i * 4 + j, none⟩ = some u := fun j hj => ⟨_, (hrow.cellAt _ (by omega)).trans (List.getElem?_eq_getElem (by rw [hrow.1]; omega))⟩
    obtain ⟨c0, k0⟩ := hex 0 (by omega)
    obtain ⟨c1, k1⟩ := hex 1 (by omega)
    obtain ⟨c2, k2⟩ := hex 2 (by omega)
    obtain ⟨c3, k3⟩ := hex 3 (by omega)
    rw [Nat.add_zero] at k0
    have Q3 := Q2.put (i := i) rfl hi m
    unfold put4 at Q3
    clear hex hrow
    go_upto_region 5 with (first
      | refine wpList_load_row rfl 35 (.tmp 3) rfl (w.heap.size + 1) rfl 35 #[.int .i64 m.1, .int .i64 m.2.1, .string m.2.2.1, .int .i64 m.2.2.2] (0, 0) _ Q2.msg Tryd.underlying35 rfl (by kernel_rfl) ?_)
    generalize (((w2.setCell ⟨gy, i * 4, none⟩ (.int .i64 m.1)).setCell ⟨gy, i * 4 + 1, none⟩ (.int .i64 m.2.1)).setCell ⟨gy, i * 4 + 2, none⟩ (.string m.2.2.1)).setCell ⟨gy, i * 4 + 3, none⟩ (.int .i64 m.2.2.2) = w3 at Q3 ⊢
    clear Q2 x0 x2 f0 f1 f2 f3 k0 k1 k2 k3
    have x2 : w3.cell? ⟨w.heap.size, 2, none⟩ = some (.slice (some ⟨gy, 0, none⟩) b.q.length uc) := cell_of_heap Q3.box 2
    go_wp2
    go_ret2
    refine ⟨.slice (some ⟨gy, 0, none⟩) b.q.length uc, .slice (some ⟨gy, 0, none⟩) b.q.length uc, [], [], by rw [HSE.out, (offQ_some b m i).2]; rfl, ?_, ?_, Q3.since⟩
    · rw [HSE.out, (offQ_some b m i).1, List.nil_append, List.append_nil]; exact Q3.row
    · rw [HSE.out, (offQ_some b m i).1]
      have h := PartOf.whole Q3.row
      simpa using h
  | none =>
    rw [show idxN none = -1 from rfl]
    clear HSQ
    by_cases hfu : (b.q.length : Int) = b.cap
    · have hlt : decide ((b.q.length : Int) < b.cap) = false := decide_eq_false (by omega)
      by_cases hp1 : b.pol = 1
      · have CF := fullKeep_any b.pol 3 (.slice ua b.q.length uc) b.q.length m w2 (.inl ⟨hp1, rfl⟩) ua uc rfl
        have HO := offQ_wait m hfu hp1
        rw [hP] at CF
        have CF := Lib.hid CF
        have HO := Lib.hid HO
        clear hfu hp1 hP hp hc
        go_wp2_with (first
          | refine wpList_load_row rfl 35 (.tmp 3) rfl (w.heap.size + 1) rfl 35 #[.int .i64 m.1, .int .i64 m.2.1, .string m.2.2.1, .int .i64 m.2.2.2] (0, 0) _ Q2.msg Tryd.underlying35 rfl (by kernel_rfl) ?_)
        refine CF.out.mono ?_
        rintro e w3 ⟨rfl, hb⟩
        have Q3 := Q2.below hb
        clear Q2 hb CF x0 x2
        go_wp2
        go_ret2
        refine ⟨.slice ua b.q.length uc, .slice ua b.q.length uc, [], [], by rw [HSE.out, HO.out.2]; rfl, ?_, ?_, Q3.since⟩
        · rw [HSE.out, HO.out.1, List.nil_append, List.append_nil]; exact Q3.row
        · rw [HSE.out, HO.out.1]; exact PartOf.whole Q3.row
      by_cases hp3 : b.pol = 3
      · have CF := fullKeep_any b.pol 4 (.slice ua b.q.length uc) b.q.length m w2 (.inr ⟨hp3, rfl⟩) ua uc rfl
        have HO := offQ_lost m hfu hp3
        rw [hP] at CF
        have CF := Lib.hid CF
        have HO := Lib.hid HO
        clear hfu hp1 hp3 hP hp hc
        go_wp2_with (first
          | refine wpList_load_row rfl 35 (.tmp 3) rfl (w.heap.size + 1) rfl 35 #[.int .i64 m.1, .int .i64 m.2.1, .string m.2.2.1, .int .i64 m.2.2.2] (0, 0) _ Q2.msg Tryd.underlying35 rfl (by kernel_rfl) ?_)
        refine CF.out.mono ?_
        rintro e w3 ⟨rfl, hb⟩
        have Q3 := Q2.below hb
        clear Q2 hb CF x0 x2
        go_wp2
        go_ret2
        refine ⟨.slice ua b.q.length uc, .slice ua b.q.length uc, [], [], by rw [HSE.out, HO.out.2]; rfl, ?_, ?_, Q3.since⟩
        · rw [HSE.out, HO.out.1, List.nil_append, List.append_nil]; exact Q3.row
        · rw [HSE.out, HO.out.1]; exact PartOf.whole Q3.row
      · have CF := fullOld_any b.pol (.slice ua b.q.length uc) b.q m B w2 (by omega) (by omega) (by omega) Q2.row (Nat.le_trans hB (Nat.le_of_lt (Nat.lt_of_succ_lt Q2.lt)))
        have HO := offQ_old m hfu hp1 hp3
        rw [hP] at CF
        have CF := Lib.hid CF
        have HO := Lib.hid HO
        clear hfu hp1 hp3 hP hp hc
        go_wp2_with (first
          | refine wpList_load_row rfl 35 (.tmp 3) rfl (w.heap.size + 1) rfl 35 #[.int .i64 m.1, .int .i64 m.2.1, .string m.2.2.1, .int .i64 m.2.2.2] (0, 0) _ Q2.msg Tryd.underlying35 rfl (by kernel_rfl) ?_)
        refine CF.out.mono ?_
        rintro e w3 ⟨V, u, pre, rfl, hO, hPt, hb⟩
        have B3 := Lib.hid (grown_trans Q2.since hb)
        obtain ⟨N, hN⟩ : ∃ N, (b.q.drop 1 ++ [m]).length = N := ⟨_, rfl⟩
        rw [hN] at hPt
        have HN := Lib.hid hN
        clear hN
        obtain ⟨ea, ec, heu⟩ := hPt.slice
        subst heu
        clear Q2 hb CF x0 x2
        go_wp2
        go_ret2
        refine ⟨V, _, pre, [], by rw [HSE.out, HO.out.2]; rfl, ?_, ?_, B3.out⟩
        · rw [HSE.out, HO.out.1]; exact hO
        · rw [HSE.out, HO.out.1, HN.out]; exact hPt
    · have hlt : decide ((b.q.length : Int) < b.cap) = true := decide_eq_true (by omega)
      have HO := Lib.hid (offQ_room m hfu)
      clear hfu hP hp hc
      go_upto_region 7 with (fail)
      obtain ⟨ii, hi, hz0, hz1, hz2⟩ := msg_info
      have z0 : w2.cell? ⟨w.heap.size + 1, 0, none⟩ = some (.int .i64 m.1) := cell_of_heap Q2.msg 0
      have z1 : w2.cell? ⟨w.heap.size + 1, 1, none⟩ = some (.int .i64 m.2.1) := cell_of_heap Q2.msg 1
      have z2 : w2.cell? ⟨w.heap.size + 1, 2, none⟩ = some (.string m.2.2.1) := cell_of_heap Q2.msg 2
      have z3 : w2.cell? ⟨w.heap.size + 1, 3, none⟩ = some (.int .i64 m.2.2.2) := cell_of_heap Q2.msg 3
      have Q3 := Q2.below ((Below.refl _ _).alloc (Nat.le_refl _) (.cells #[.int .i64 m.1, .int .i64 m.2.1, .string m.2.2.1, .int .i64 m.2.2.2] 35))
      have hw2 : B ≤ w2.heap.size := Nat.le_trans hB (Nat.le_of_lt (Nat.lt_of_succ_lt Q2.lt))
      go_wp2_with (at_builtin; go_must (refine wpList_append_own _ rfl _ _ 28 rfl B 35 ii (.agg #[.int .i64 0, .int .i64 0, .string ⟨#[]⟩, .int .i64 0]) 4 40 Tryd.underlying28 hi hz0 hz1 hz2 rfl (by decide) (.slice ua b.q.length uc) b.q.length (mcells b.q) rfl Q3.row ⟨w2.heap.size, 0, none⟩ 1 1 (mcells [m]) rfl rfl (msg_new w2 m _) (mcells_one _) (by unfold maxLen; omega) (by omega) (by simp; omega) ?_); intro v8 w8 hown hgr _; obtain ⟨gy, yc, hyv⟩ := Joins.ownsRow_form hown (by omega); subst hyv; have R8 := Lib.hid (show MOwn w8 B (.slice (some ⟨gy, 0, none⟩) (b.q.length + 1) yc) (b.q ++ [m]) by unfold MOwn; rw [List.length_append, mcells_app]; exact hown); have B8 := Lib.hid (grown_trans Q3.since hgr); clear hown hgr z0 z1 z2 z3 x0 x2 Q3 Q2)
      go_ret2
      refine ⟨.slice (some ⟨gy, 0, none⟩) (b.q.length + 1) yc, .slice (some ⟨gy, 0, none⟩) (b.q.length + 1) yc, [], [], by rw [HSE.out, HO.out.2]; rfl, ?_, ?_, B8.out⟩
      · rw [HSE.out, HO.out.1, List.nil_append, List.append_nil]; exact R8.out
      · rw [HSE.out, HO.out.1]; exact PartOf.whole R8.out

end Go.Proofs.YtgmbjnobpkdjkaaDoor
