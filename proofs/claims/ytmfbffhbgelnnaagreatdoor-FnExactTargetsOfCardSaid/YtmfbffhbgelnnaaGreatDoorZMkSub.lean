/- The marks that the exact laws lay into rows of subs. -/
import Derived.Test.YtmfbffhbgelnnaaGreatDoorZB2
import Derived.Test.YtmfbffhbgelnnaaGreatDoorZB5
import Derived.Test.YtmfbffhbgelnnaaGreatDoorZB1
import Derived.Deep.Cut
set_option linter.unusedSimpArgs false
set_option linter.unusedVariables false
namespace Go.Proofs.YtmfbffhbgelnnaaGreatDoor
open Go.RowKit

/-- One cell of one sub set anew, its queue's aside. -/
theorem SOwnU.field {w : World} {B g n cap k i : Nat} {l : List SubM} {us : List Value} {x : SubM} {val : Value} (h : SOwnU w B (.slice (some ⟨g, 0, none⟩) n cap) l us) (hn : n = l.length) (hk : k < l.length) (hku : k < us.length) (hi : i < 10)
    (hx : scells x us[k] = (scells l[k] us[k]).set i val) (hq : x.box.q = l[k].box.q) : SOwnU (w.setCell ⟨g, k * 10 + i, none⟩ val) B (.slice (some ⟨g, 0, none⟩) n cap) (l.set k x) us := by
  subst hn
  have hrow : sucells (l.set k x) us = (sucells l us).set (k * 10 + i) val := by
    apply List.ext_getElem?
    intro p
    by_cases hp : p < l.length * 10
    · obtain ⟨q, r, rfl, hr⟩ : ∃ q r, p = q * 10 + r ∧ r < 10 := ⟨p / 10, p % 10, by omega, by omega⟩
      have hql : q < l.length := by omega
      rw [sucells_at (l.set k x) us q r (by simpa using hql) (by rw [h.1]; exact hql) hr]
      by_cases e : q = k
      · subst e
        simp only [List.getElem_set_self]
        rw [hx]
        by_cases e2 : r = i
        · subst e2
          rw [List.getElem?_set_self (by rw [scells_length]; exact hr), List.getElem?_set_self (by rw [sucells_length l us h.1]; omega)]
        · rw [List.getElem?_set_ne (Ne.symm e2), List.getElem?_set_ne (by omega), sucells_at l us q r hql (by rw [h.1]; exact hql) hr]
      · simp only [List.getElem_set_ne (Ne.symm e)]
        rw [List.getElem?_set_ne (by omega), sucells_at l us q r hql (by rw [h.1]; exact hql) hr]
    · rw [sucells_none (by simp [h.1]) (by simp; omega), List.getElem?_set_ne (by omega), sucells_none h.1 (by omega)]
  refine ⟨by simp [h.1], ?_, fun j h1 h2 => ?_, h.2.2.2⟩
  · rw [List.length_set, hrow]
    exact (h.2.1.stored _ _).1
  · have hj : j < l.length := by simpa using h1
    have hs : (l.set k x)[j].box.q = l[j].box.q := by rw [List.getElem_set]; split <;> simp_all
    have hne : us[j].ownBlock ≠ some g := by
      have := (List.pairwise_cons.1 h.2.2.2).1 us[j] (List.getElem_mem _)
      rcases this with h | h
      · cases h
      · exact fun e => h e.symm
    rw [hs]
    exact own_kept (h.2.2.1 j hj h2) hne
/-- Another queue in the k-th sub's row. -/
theorem SOwnU.queue {w w' : World} {B k : Nat} {v : Value} {l : List SubM} {us : List Value} {z : List MsgM} (h : SOwnU w B v l us) (hk : k < l.length) (hku : k < us.length)
    (ho : MOwn w' B us[k] z) (hg : w.grownBy w' us[k].ownBlock) : SOwnU w' B v (l.set k { l[k] with box := { l[k].box with q := z } }) us := by
  have hap := h.2.2.2
  have hrow : sucells (l.set k { l[k] with box := { l[k].box with q := z } }) us = sucells l us := by
    apply List.ext_getElem?
    intro p
    by_cases hp : p < l.length * 10
    · obtain ⟨q, r, rfl, hr⟩ : ∃ q r, p = q * 10 + r ∧ r < 10 := ⟨p / 10, p % 10, by omega, by omega⟩
      have hq : q < l.length := by omega
      rw [sucells_at _ us q r (by simpa using hq) (by rw [h.1]; exact hq) hr, sucells_at l us q r hq (by rw [h.1]; exact hq) hr]
      by_cases e : q = k
      · subst e; simp only [List.getElem_set_self]
      · simp only [List.getElem_set_ne (Ne.symm e)]
    · rw [sucells_none (by simp [h.1]) (by simp; omega), sucells_none h.1 (by omega)]
  have hG : GrownL w w' [us[k]] := .grown hg (by simp)
  refine ⟨by simp [h.1], ?_, fun j h1 h2 => ?_, hap⟩
  · rw [List.length_set, hrow]
    refine own_keptL h.2.1 hG fun x hx => ?_
    rw [List.mem_singleton.1 hx]
    exact (List.pairwise_cons.1 hap).1 _ (List.getElem_mem _)
  · by_cases hjk : j = k
    · subst hjk
      simp only [List.getElem_set_self]
      exact ho
    · simp only [List.getElem_set_ne (Ne.symm hjk)]
      have hj : j < l.length := by simpa using h1
      refine own_keptL (h.2.2.1 j hj h2) hG fun x hx => ?_
      rw [List.mem_singleton.1 hx]
      have hp := List.pairwise_iff_getElem.1 (List.pairwise_cons.1 hap).2
      rcases Nat.lt_or_gt_of_ne hjk with h3 | h3
      · exact hp j k h2 hku h3
      · exact (hp k j hku h2 h3).symm

/-- A row of subs while marks are laid into it. -/
structure SubMk (w wx : World) (B g cap : Nat) (l : List SubM) (us : List Value) : Prop where
  own : ∃ lk, ∃ hl : lk.length = l.length, (∀ j (h : j < l.length), (lk[j]'(by omega)).box.q.length = l[j].box.q.length) ∧ SOwnU wx B (.slice (some ⟨g, 0, none⟩) l.length cap) lk us
  since : GrownL w wx (.slice (some ⟨g, 0, none⟩) l.length cap :: us)
theorem SubMk.below {w wx wy : World} {B g cap : Nat} {l : List SubM} {us : List Value} (h : SubMk w wx B g cap l us) (hb : Below wx.heap.size wx wy) : SubMk w wy B g cap l us := by
  obtain ⟨⟨lk, hl, hq, ho⟩, hs⟩ := h
  exact ⟨⟨lk, hl, hq, ho.below hb⟩, hs.trans (GrownL.below hb)⟩
theorem SubMk.at {w wx : World} {B g cap : Nat} {l : List SubM} {us : List Value} (h : SubMk w wx B g cap l us) {k i : Nat} (hk : k < l.length) (hi : i < 10) :
    wx.frozen? ⟨g, k * 10 + i, none⟩ = false ∧ ∃ z, wx.cell? ⟨g, k * 10 + i, none⟩ = some z := by
  obtain ⟨⟨lk, hl, hq, ho⟩, hs⟩ := h
  have hrow := ho.2.1
  have hn := hrow.1
  rw [hl] at hrow hn
  exact ⟨hrow.frozenAt _, ⟨_, (hrow.cellAt _ (by omega)).trans (List.getElem?_eq_getElem (by omega))⟩⟩
theorem SubMk.queueAt {w wx : World} {B g cap : Nat} {l : List SubM} {us : List Value} (h : SubMk w wx B g cap l us) {k : Nat} (hk : k < l.length) (hku : k < us.length) :
    wx.cell? ⟨g, k * 10 + 3, none⟩ = some us[k] ∧ ∃ z, z.length = l[k].box.q.length ∧ MOwn wx B us[k] z := by
  obtain ⟨⟨lk, hl, hq, ho⟩, hs⟩ := h
  have hrow := ho.2.1
  have hn := hrow.1
  rw [hl] at hrow hn
  refine ⟨?_, _, hq k hk, ho.2.2.1 k (by omega) hku⟩
  rw [hrow.cellAt _ (by omega), sucells_at lk us k 3 (by omega) hku (by omega)]
  rfl
theorem SubMk.set {w wx : World} {B g cap : Nat} {l : List SubM} {us : List Value} (h : SubMk w wx B g cap l us) {k i : Nat} (hk : k < l.length) (hi : i < 10) (val : Value)
    (hx : ∀ (s : SubM) (u : Value), ∃ x : SubM, scells x u = (scells s u).set i val ∧ x.box.q = s.box.q) : SubMk w (wx.setCell ⟨g, k * 10 + i, none⟩ val) B g cap l us := by
  obtain ⟨⟨lk, hl, hq, ho⟩, hs⟩ := h
  have hku : k < us.length := by have := ho.1; omega
  obtain ⟨x, h1, h2⟩ := hx (lk[k]'(by omega)) us[k]
  refine ⟨⟨lk.set k x, by rw [List.length_set]; exact hl, fun j hj => ?_, ho.field (by omega) (by omega) hku hi h1 h2⟩, hs.setCell List.mem_cons_self rfl _ _⟩
  rw [List.getElem_set]
  split
  · rename_i e
    subst e
    rw [h2]; exact hq k hj
  · exact hq j hj
theorem SubMk.setQ {w wx wy : World} {B g cap : Nat} {l : List SubM} {us : List Value} (h : SubMk w wx B g cap l us) {k : Nat} (hk : k < l.length) (hku : k < us.length) {z : List MsgM} (hz : z.length = l[k].box.q.length)
    (ho' : MOwn wy B us[k] z) (hg : wx.grownBy wy us[k].ownBlock) : SubMk w wy B g cap l us := by
  obtain ⟨⟨lk, hl, hq, ho⟩, hs⟩ := h
  refine ⟨⟨lk.set k _, by rw [List.length_set]; exact hl, fun j hj => ?_, ho.queue (by omega) hku ho' hg⟩, hs.trans (GrownL.grown hg (List.mem_cons_of_mem _ (List.getElem_mem hku)))⟩
  rw [List.getElem_set]
  split
  · rename_i e
    subst e
    exact hz
  · exact hq j hj
theorem fieldS (t : ByteArray) : ∀ (s : SubM) (u : Value), ∃ x : SubM, scells x u = (scells s u).set 0 (.string t) ∧ x.box.q = s.box.q := fun s _ => ⟨{ s with fil := t }, rfl, rfl⟩
theorem field1 (n : Int) : ∀ (s : SubM) (u : Value), ∃ x : SubM, scells x u = (scells s u).set 1 (.int .i64 n) ∧ x.box.q = s.box.q := fun s _ => ⟨{ s with box := { s.box with cap := n } }, rfl, rfl⟩
theorem field2 (n : Int) : ∀ (s : SubM) (u : Value), ∃ x : SubM, scells x u = (scells s u).set 2 (.int .i64 n) ∧ x.box.q = s.box.q := fun s _ => ⟨{ s with box := { s.box with pol := n } }, rfl, rfl⟩
theorem field4 (n : Int) : ∀ (s : SubM) (u : Value), ∃ x : SubM, scells x u = (scells s u).set 4 (.int .i64 n) ∧ x.box.q = s.box.q := fun s _ => ⟨{ s with box := { s.box with ofr := n } }, rfl, rfl⟩
theorem field5 (n : Int) : ∀ (s : SubM) (u : Value), ∃ x : SubM, scells x u = (scells s u).set 5 (.int .i64 n) ∧ x.box.q = s.box.q := fun s _ => ⟨{ s with box := { s.box with rcv := n } }, rfl, rfl⟩
theorem field6 (n : Int) : ∀ (s : SubM) (u : Value), ∃ x : SubM, scells x u = (scells s u).set 6 (.int .i64 n) ∧ x.box.q = s.box.q := fun s _ => ⟨{ s with box := { s.box with drp := n } }, rfl, rfl⟩
theorem field7 (n : Int) : ∀ (s : SubM) (u : Value), ∃ x : SubM, scells x u = (scells s u).set 7 (.int .i64 n) ∧ x.box.q = s.box.q := fun s _ => ⟨{ s with box := { s.box with mrg := n } }, rfl, rfl⟩
theorem field8 (b : Bool) : ∀ (s : SubM) (u : Value), ∃ x : SubM, scells x u = (scells s u).set 8 (.bool b) ∧ x.box.q = s.box.q := fun s _ => ⟨{ s with box := { s.box with shut := b } }, rfl, rfl⟩
theorem field9 (b : Bool) : ∀ (s : SubM) (u : Value), ∃ x : SubM, scells x u = (scells s u).set 9 (.bool b) ∧ x.box.q = s.box.q := fun s _ => ⟨{ s with live := b }, rfl, rfl⟩

/-- How many marks there are. -/
def send : List SubM → Nat
  | [] => 0
  | s :: l => 9 + s.box.q.length * 4 + send l
theorem send_append : ∀ (a b : List SubM), send (a ++ b) = send a + send b
  | [], b => by simp [send]
  | x :: a, b => by rw [List.cons_append, send, send, send_append a b]; omega
theorem send_next (l : List SubM) (k : Nat) (h : k < l.length) : send (l.take (k + 1)) = send (l.take k) + 9 + l[k].box.q.length * 4 := by
  rw [List.take_succ_eq_append_getElem h, send_append]; simp only [send]; omega
theorem send_bound (l : List SubM) (k : Nat) : send (l.take k) ≤ send l := by
  have h := send_append (l.take k) (l.drop k)
  rw [List.take_append_drop] at h
  omega

set_option maxRecDepth 100000 in
set_option maxHeartbeats 6400000 in
theorem markSubs_any (v : Value) (l : List SubM) (us : List Value) (k0 B : Nat) (w : World) (hk1 : k0 + send l ≤ 30000000) (hk0 : 1 ≤ k0) (hown : SOwnU w B v l us) :
    Calls Tryz.prog 52 #[v, .int .i64 k0] w fun e w' =>
      e = .returned (.int .i64 (k0 + send l : Nat)) ∧ GrownL w w' (v :: us) := by
  rcases hown.2.1.2 with ⟨rfl, h0⟩ | ⟨g, cap, cur, rfl, _, _, hlc, hcm, _⟩
  · have hl0 : l = [] := List.length_eq_zero_iff.1 h0
    subst hl0
    clear hown
    go_enter Tryz.func52, Tryz.ntmps52
    go_wp2
    go_loopw [1, 5] (fun m i wr => i = .int .i64 0 ∧ m = .int .i64 k0 ∧ wr = w) (fun _ _ _ => 0)
    case atStart => exact ⟨rfl, rfl, rfl⟩
    case round =>
      obtain ⟨rfl, rfl, rfl⟩ := hrel
      go_wp2
      go_ret
      exact ⟨rfl, GrownL.refl _ _⟩
  unfold maxLen at hcm
  have HO : Hid (SubMk w w B g cap l us) := Lib.hid ⟨⟨l, rfl, fun _ _ => rfl, hown⟩, GrownL.refl _ _⟩
  have HUS := Lib.hid hown.1
  clear hown
  have HK := Lib.hid hk1
  clear hk1
  go_enter Tryz.func52, Tryz.ntmps52
  go_wp2
  go_loopw [1, 5] (fun m i wr => ∃ k q : Nat, k ≤ l.length ∧ i = .int .i64 k ∧ m = .int .i64 q ∧ 1 ≤ q ∧ q ≤ 30000000 ∧ Hid (q = k0 + send (l.take k)) ∧ Hid (SubMk w wr B g cap l us)) (fun _ i _ => l.length - (intOf i).toNat)
  case atStart => exact ⟨0, k0, Nat.zero_le _, rfl, rfl, hk0, by have := HK.out; omega, Lib.hid rfl, HO⟩
  case round =>
    obtain ⟨k, q, hk, rfl, rfl, hq0, hq1, HQ, H1⟩ := hrel
    clear HO
    by_cases hlt : k < l.length
    · have hku : k < us.length := by rw [HUS.out]; exact hlt
      have hnx := send_next l k hlt
      have hbd := send_bound l (k + 1)
      have hkk := HK.out
      have hqq := HQ.out
      obtain ⟨n, hn⟩ : ∃ n, l[k].box.q.length = n := ⟨_, rfl⟩
      rw [hn] at hnx
      have hq2 : q + 9 + n * 4 ≤ 30000000 := by omega
      have HQN : Hid (q + 9 + n * 4 = k0 + send (l.take (k + 1))) := Lib.hid (by omega)
      have HLN := Lib.hid hn
      clear hnx hbd hkk hqq HQ hn
      have CM := Lib.hid (fun wx => markText_any q wx (by omega) (by omega))
      obtain ⟨t, ht⟩ : ∃ t, mtext q = t := ⟨_, rfl⟩
      rw [ht] at CM
      clear ht
      go_wp2_with fail
      refine (CM.out _).mono ?_
      rintro e w0 ⟨rfl, hb⟩
      have M0 := Lib.hid (H1.out.below hb)
      clear hb H1 CM
      have f : w0.frozen? ⟨g, k * 10, none⟩ = false := (M0.out.at (i := 0) hlt (by omega)).1
      obtain ⟨z, y⟩ : ∃ z, w0.cell? ⟨g, k * 10, none⟩ = some z := (M0.out.at (i := 0) hlt (by omega)).2
      go_upto_region 5 with (fail)
      have M1 : Hid (SubMk w (w0.setCell ⟨g, k * 10, none⟩ (.string t)) B g cap l us) := Lib.hid (M0.out.set (i := 0) hlt (by omega) (.string t) (fieldS t))
      generalize w0.setCell ⟨g, k * 10, none⟩ (.string t) = w1 at M1 ⊢
      clear f y M0
      have f : w1.frozen? ⟨g, k * 10 + 1, none⟩ = false := (M1.out.at (i := 1) hlt (by omega)).1
      obtain ⟨z, y⟩ : ∃ z, w1.cell? ⟨g, k * 10 + 1, none⟩ = some z := (M1.out.at (i := 1) hlt (by omega)).2
      go_upto_region 7 with (fail)
      have M2 : Hid (SubMk w (w1.setCell ⟨g, k * 10 + 1, none⟩ (.int .i64 ((q : Int) + 1))) B g cap l us) := Lib.hid (M1.out.set (i := 1) hlt (by omega) (.int .i64 ((q : Int) + 1)) (field1 _))
      generalize w1.setCell ⟨g, k * 10 + 1, none⟩ (.int .i64 ((q : Int) + 1)) = w2 at M2 ⊢
      clear f y M1
      have f : w2.frozen? ⟨g, k * 10 + 1 + 1, none⟩ = false := (M2.out.at (i := 2) hlt (by omega)).1
      obtain ⟨z, y⟩ : ∃ z, w2.cell? ⟨g, k * 10 + 1 + 1, none⟩ = some z := (M2.out.at (i := 2) hlt (by omega)).2
      go_upto_region 9 with (fail)
      have M3 : Hid (SubMk w (w2.setCell ⟨g, k * 10 + 1 + 1, none⟩ (.int .i64 ((q : Int) + 1 + 1))) B g cap l us) := Lib.hid (M2.out.set (i := 2) hlt (by omega) (.int .i64 ((q : Int) + 1 + 1)) (field2 _))
      generalize w2.setCell ⟨g, k * 10 + 1 + 1, none⟩ (.int .i64 ((q : Int) + 1 + 1)) = w3 at M3 ⊢
      clear f y M2
      obtain ⟨x3', zq, hz, hO⟩ := M3.out.queueAt hlt hku
      have x3 : w3.cell? ⟨g, k * 10 + 1 + 2, none⟩ = some us[k] := x3'
      clear x3'
      rw [HLN.out] at hz
      obtain ⟨r, hr⟩ : ∃ r, q + 3 + n * 4 = r := ⟨_, rfl⟩
      have CQ := markMsgs_any us[k] zq (q + 3) B w3 (by omega) (by omega) hO
      rw [hz, show ((q + 3 : Nat) : Int) = (q : Int) + 1 + 1 + 1 by omega, show ((q + 3 + n * 4 : Nat) : Int) = (r : Int) by omega] at CQ
      obtain ⟨qa, qc, hqv⟩ := own_slice hO
      rw [hz] at hqv
      rw [hqv] at x3 CQ
      have CQ := Lib.hid CQ
      have HQV := Lib.hid hqv
      clear hO hz hqv
      go_wp2_with fail
      refine CQ.out.mono ?_
      rintro e w4 ⟨rfl, ho, hg⟩
      have M4 := Lib.hid (M3.out.setQ hlt hku (z := mmarks (q + 3) n) (by rw [mmarks_length, HLN.out]) (by rw [HQV.out]; exact ho) (by rw [HQV.out]; exact hg))
      clear x3 CQ HQV ho hg M3
      have f : w4.frozen? ⟨g, k * 10 + 1 + 3, none⟩ = false := (M4.out.at (i := 4) hlt (by omega)).1
      obtain ⟨z, y⟩ : ∃ z, w4.cell? ⟨g, k * 10 + 1 + 3, none⟩ = some z := (M4.out.at (i := 4) hlt (by omega)).2
      go_upto_region 12 with (fail)
      have M5 : Hid (SubMk w (w4.setCell ⟨g, k * 10 + 1 + 3, none⟩ (.int .i64 ((r : Int)))) B g cap l us) := Lib.hid (M4.out.set (i := 4) hlt (by omega) (.int .i64 ((r : Int))) (field4 _))
      generalize w4.setCell ⟨g, k * 10 + 1 + 3, none⟩ (.int .i64 ((r : Int))) = w5 at M5 ⊢
      clear f y M4
      have f : w5.frozen? ⟨g, k * 10 + 1 + 4, none⟩ = false := (M5.out.at (i := 5) hlt (by omega)).1
      obtain ⟨z, y⟩ : ∃ z, w5.cell? ⟨g, k * 10 + 1 + 4, none⟩ = some z := (M5.out.at (i := 5) hlt (by omega)).2
      go_upto_region 14 with (fail)
      have M6 : Hid (SubMk w (w5.setCell ⟨g, k * 10 + 1 + 4, none⟩ (.int .i64 ((r : Int) + 1))) B g cap l us) := Lib.hid (M5.out.set (i := 5) hlt (by omega) (.int .i64 ((r : Int) + 1)) (field5 _))
      generalize w5.setCell ⟨g, k * 10 + 1 + 4, none⟩ (.int .i64 ((r : Int) + 1)) = w6 at M6 ⊢
      clear f y M5
      have f : w6.frozen? ⟨g, k * 10 + 1 + 5, none⟩ = false := (M6.out.at (i := 6) hlt (by omega)).1
      obtain ⟨z, y⟩ : ∃ z, w6.cell? ⟨g, k * 10 + 1 + 5, none⟩ = some z := (M6.out.at (i := 6) hlt (by omega)).2
      go_upto_region 16 with (fail)
      have M7 : Hid (SubMk w (w6.setCell ⟨g, k * 10 + 1 + 5, none⟩ (.int .i64 ((r : Int) + 1 + 1))) B g cap l us) := Lib.hid (M6.out.set (i := 6) hlt (by omega) (.int .i64 ((r : Int) + 1 + 1)) (field6 _))
      generalize w6.setCell ⟨g, k * 10 + 1 + 5, none⟩ (.int .i64 ((r : Int) + 1 + 1)) = w7 at M7 ⊢
      clear f y M6
      have f : w7.frozen? ⟨g, k * 10 + 1 + 6, none⟩ = false := (M7.out.at (i := 7) hlt (by omega)).1
      obtain ⟨z, y⟩ : ∃ z, w7.cell? ⟨g, k * 10 + 1 + 6, none⟩ = some z := (M7.out.at (i := 7) hlt (by omega)).2
      go_upto_region 18 with (fail)
      have M7b : Hid (SubMk w (w7.setCell ⟨g, k * 10 + 1 + 6, none⟩ (.int .i64 ((r : Int) + 1 + 1 + 1))) B g cap l us) := Lib.hid (M7.out.set (i := 7) hlt (by omega) (.int .i64 ((r : Int) + 1 + 1 + 1)) (field7 _))
      generalize w7.setCell ⟨g, k * 10 + 1 + 6, none⟩ (.int .i64 ((r : Int) + 1 + 1 + 1)) = w7b at M7b ⊢
      clear f y M7
      have f : w7b.frozen? ⟨g, k * 10 + 1 + 7, none⟩ = false := (M7b.out.at (i := 8) hlt (by omega)).1
      obtain ⟨z, y⟩ : ∃ z, w7b.cell? ⟨g, k * 10 + 1 + 7, none⟩ = some z := (M7b.out.at (i := 8) hlt (by omega)).2
      go_upto_region 20 with (fail)
      have M8 : Hid (SubMk w (w7b.setCell ⟨g, k * 10 + 1 + 7, none⟩ (.bool (((r : Int) + 1 + 1 + 1 + 1) % 3 == 0))) B g cap l us) := Lib.hid (M7b.out.set (i := 8) hlt (by omega) (.bool (((r : Int) + 1 + 1 + 1 + 1) % 3 == 0)) (field8 _))
      generalize w7b.setCell ⟨g, k * 10 + 1 + 7, none⟩ (.bool (((r : Int) + 1 + 1 + 1 + 1) % 3 == 0)) = w8 at M8 ⊢
      clear f y M7b
      have f : w8.frozen? ⟨g, k * 10 + 9, none⟩ = false := (M8.out.at (i := 9) hlt (by omega)).1
      obtain ⟨z, y⟩ : ∃ z, w8.cell? ⟨g, k * 10 + 9, none⟩ = some z := (M8.out.at (i := 9) hlt (by omega)).2
      go_upto_region 22 with (fail)
      have M9 : Hid (SubMk w (w8.setCell ⟨g, k * 10 + 9, none⟩ (.bool (((r : Int) + 1 + 1 + 1 + 1 + 1) % 3 == 0))) B g cap l us) := Lib.hid (M8.out.set (i := 9) hlt (by omega) (.bool (((r : Int) + 1 + 1 + 1 + 1 + 1) % 3 == 0)) (field9 _))
      generalize w8.setCell ⟨g, k * 10 + 9, none⟩ (.bool (((r : Int) + 1 + 1 + 1 + 1 + 1) % 3 == 0)) = w9 at M9 ⊢
      clear f y M8
      have HE := Lib.hid HQN.out
      clear HQN
      go_wp2
      go_roundw
      case rel => exact ⟨k + 1, q + 9 + n * 4, by omega, by go_num, congrArg (Value.int .i64) (by omega), by omega, by omega, HE, M9⟩
      case measure => simp [intOf]; omega
    · obtain rfl : k = l.length := by omega
      have HQ2 : Hid (q = k0 + send l) := Lib.hid (by have := HQ.out; rw [List.take_length] at this; exact this)
      have HM := Lib.hid H1.out.since
      go_wp2
      go_ret
      exact ⟨congrArg (fun x : Nat => Ending.returned (Value.int .i64 x)) HQ2.out, HM.out⟩

end Go.Proofs.YtmfbffhbgelnnaaGreatDoor
