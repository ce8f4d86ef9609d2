/- The exact laws' measure of subs and of brokers. -/
import Derived.Test.YtmfbffhbgelnnaaGreatDoorZB2
import Derived.Test.YtmfbffhbgelnnaaGreatDoorZB5
import Derived.Test.YtmfbffhbgelnnaaGreatDoorZB7
set_option linter.unusedSimpArgs false
set_option linter.unusedVariables false
namespace Go.Proofs.YtmfbffhbgelnnaaGreatDoor
open Go.RowKit

def szS (s : SubM) (left : Int) : Int := if left - s.fil.size < 0 then -1 else szMs s.box.q (left - s.fil.size)
def szST : List SubM → Int → Int
  | [], a => a
  | x :: l, a => if szS x a < 0 then -1 else szST l (szS x a)
def szSs (l : List SubM) (left : Int) : Int := if left - l.length < 0 then -1 else szST l (left - l.length)

theorem szS_le (s : SubM) (a : Int) (h : 0 ≤ a) : szS s a ≤ a := by
  unfold szS; split
  · omega
  · have := szMs_le s.box.q (a - s.fil.size) (by omega); omega
theorem szS_two (s : SubM) (a : Int) (h : 0 ≤ a) : (szS s a < 0 ∧ szS s a = -1) ∨ ¬ szS s a < 0 := by
  unfold szS; split
  · exact .inl ⟨by omega, rfl⟩
  · exact szMs_two _ _ (by omega)
theorem szST_le : ∀ (l : List SubM) (a : Int), 0 ≤ a → szST l a ≤ a
  | [], a, _ => by rw [szST]; exact Int.le_refl _
  | x :: l, a, h => by
    rw [szST]
    split
    · omega
    · have h3 := szS_le x a h
      have := szST_le l (szS x a) (by omega)
      omega
theorem szST_two : ∀ (l : List SubM) (a : Int), 0 ≤ a → (szST l a < 0 ∧ szST l a = -1) ∨ ¬ szST l a < 0
  | [], a, h => .inr (by rw [szST]; omega)
  | x :: l, a, h => by
    rw [szST]
    split
    · exact .inl ⟨by omega, rfl⟩
    · exact szST_two l _ (by omega)
theorem szSs_le (l : List SubM) (a : Int) (h : 0 ≤ a) : szSs l a ≤ a := by
  unfold szSs
  split
  · omega
  · have := szST_le l (a - l.length) (by omega); omega
theorem szSs_two (l : List SubM) (a : Int) (h : 0 ≤ a) : (szSs l a < 0 ∧ szSs l a = -1) ∨ ¬ szSs l a < 0 := by
  unfold szSs; split
  · exact .inl ⟨by omega, rfl⟩
  · exact szST_two _ _ (by omega)
def SubLe (s : SubM) (a : Int) : Prop := (s.fil.size : Int) ≤ a ∧ (s.box.q.length : Int) ≤ a ∧ ∀ x ∈ s.box.q, (x.2.2.1.size : Int) ≤ a
theorem SubLe.mono {s : SubM} {a b : Int} (h : SubLe s a) (hb : a ≤ b) : SubLe s b := ⟨by have := h.1; omega, by have := h.2.1; omega, fun x hx => by have := h.2.2 x hx; omega⟩
theorem szS_small {s : SubM} {a : Int} (h0 : 0 ≤ a) (h : 0 ≤ szS s a) : SubLe s a := by
  unfold szS at h
  split at h
  · omega
  · obtain ⟨h1, h2⟩ := szMs_small (by omega) h
    exact ⟨by omega, by omega, fun x hx => by have := h2 x hx; omega⟩
theorem szST_small : ∀ {l : List SubM} {a : Int}, 0 ≤ a → 0 ≤ szST l a → ∀ x ∈ l, SubLe x a
  | x :: l, a, h0, h, y, hy => by
    rw [szST] at h
    split at h
    · omega
    · have h3 : 0 ≤ szS x a := by omega
      rcases List.mem_cons.1 hy with rfl | hy
      · exact szS_small h0 h3
      · exact (szST_small h3 h y hy).mono (szS_le x a h0)
theorem szSs_small {l : List SubM} {a : Int} (h0 : 0 ≤ a) (h : 0 ≤ szSs l a) : (l.length : Int) ≤ a ∧ ∀ x ∈ l, SubLe x a := by
  unfold szSs at h
  split at h
  · omega
  · exact ⟨by omega, fun x hx => (szST_small (by omega) h x hx).mono (by omega)⟩

theorem szKs_le (l : List KnotM) (a : Int) (h : 0 ≤ a) : szKs l a ≤ a := by
  have hT : ∀ (l : List KnotM) (a : Int), 0 ≤ a → szTo l a ≤ a := by
    intro l
    induction l with
    | nil => intro a _; rw [szTo]; exact Int.le_refl _
    | cons x l ih =>
      intro a h
      rw [szTo]
      split
      · omega
      · have h3 := szK_le x a h
        have := ih (szK x a) (by omega)
        omega
  unfold szKs
  split
  · omega
  · have := hT l (a - l.length) (by omega); omega
theorem szKs_two (l : List KnotM) (a : Int) (h : 0 ≤ a) : (szKs l a < 0 ∧ szKs l a = -1) ∨ ¬ szKs l a < 0 := by
  have hT : ∀ (l : List KnotM) (a : Int), 0 ≤ a → (szTo l a < 0 ∧ szTo l a = -1) ∨ ¬ szTo l a < 0 := by
    intro l
    induction l with
    | nil => intro a h; right; rw [szTo]; omega
    | cons x l ih =>
      intro a h
      rw [szTo]
      split
      · exact .inl ⟨by omega, rfl⟩
      · exact ih _ (by omega)
  unfold szKs; split
  · exact .inl ⟨by omega, rfl⟩
  · exact hT _ _ (by omega)
/-- What is left behind a broker. -/
def szBr (b : BrokerM) (a : Int) : Int :=
  if szSs b.subs a < 0 then -1 else if szKs b.trie (szSs b.subs a) < 0 then -1 else
    if szMs b.keep (szKs b.trie (szSs b.subs a)) < 0 then -1 else szMs b.ring (szMs b.keep (szKs b.trie (szSs b.subs a)))
theorem szBr_small {b : BrokerM} {a : Int} (h0 : 0 ≤ a) (h1 : a ≤ 1048576) (h : 0 ≤ szBr b a) : BrSmall b := by
  unfold szBr at h
  split at h
  · omega
  rename_i g1
  split at h
  · omega
  rename_i g2
  split at h
  · omega
  rename_i g3
  have l1 := szSs_le b.subs a h0
  have l2 := szKs_le b.trie _ (by omega : 0 ≤ szSs b.subs a)
  have l3 := szMs_le b.keep _ (by omega : 0 ≤ szKs b.trie (szSs b.subs a))
  obtain ⟨s1, s2⟩ := szSs_small h0 (by omega : 0 ≤ szSs b.subs a)
  obtain ⟨t1, t2⟩ := szKs_small (by omega) (by omega : 0 ≤ szKs b.trie (szSs b.subs a))
  obtain ⟨k1, k2⟩ := szMs_small (by omega) (by omega : 0 ≤ szMs b.keep (szKs b.trie (szSs b.subs a)))
  obtain ⟨r1, r2⟩ := szMs_small (by omega) h
  exact ⟨by omega, fun s hs => by have := (s2 s hs).1; omega, fun s hs => ⟨by have := (s2 s hs).2.1; omega, fun x hx => by have := (s2 s hs).2.2 x hx; omega⟩,
    ⟨by omega, fun x hx => by have := t2 x hx; omega⟩, by omega, fun x hx => by have := k2 x hx; omega, by omega, fun x hx => by have := r2 x hx; omega⟩

set_option maxRecDepth 100000 in
set_option maxHeartbeats 1600000 in
theorem szSub_any (s : SubM) (v : Value) (left : Int) (w : World) (h0 : 0 ≤ left) (h1 : left ≤ 1048576) (hp : s.fil.size ≤ maxLen) (hs : ∀ x ∈ s.box.q, x.2.2.1.size ≤ maxLen) (hv : MsgsAt w v s.box.q) :
    Calls Tryz.prog 63 #[sagg s v, .int .i64 left] w fun e w' => e = .returned (.int .i64 (szS s left)) ∧ Below w.heap.size w w' := by
  have HV := Lib.hid hv
  obtain ⟨ua, uc, rfl, _, _, _⟩ := hv
  unfold maxLen at hp
  have g1 : IntKind.i64.wrap (left - s.fil.size) = left - s.fil.size := by rw [IntKind.wrap_i64]; omega
  have hb1 : Below w.heap.size w (w.alloc (.cells #[.string s.fil, .int .i64 s.box.cap, .int .i64 s.box.pol, .slice ua s.box.q.length uc, .int .i64 s.box.ofr, .int .i64 s.box.rcv, .int .i64 s.box.drp, .int .i64 s.box.mrg, .bool s.box.shut, .bool s.live] 89)) := (Below.refl _ _).alloc (Nat.le_refl _) _
  have q1 : (w.alloc (.cells #[.string s.fil, .int .i64 s.box.cap, .int .i64 s.box.pol, .slice ua s.box.q.length uc, .int .i64 s.box.ofr, .int .i64 s.box.rcv, .int .i64 s.box.drp, .int .i64 s.box.mrg, .bool s.box.shut, .bool s.live] 89)).heap[w.heap.size]? = some (.cells #[.string s.fil, .int .i64 s.box.cap, .int .i64 s.box.pol, .slice ua s.box.q.length uc, .int .i64 s.box.ofr, .int .i64 s.box.rcv, .int .i64 s.box.drp, .int .i64 s.box.mrg, .bool s.box.shut, .bool s.live] 89 (0, 0)) := heap_alloc_new _ _
  by_cases h : left - s.fil.size < 0
  · have HE : Hid (szS s left = -1) := Lib.hid (by unfold szS; rw [if_pos h])
    have g2 : decide (left - s.fil.size < 0) = true := decide_eq_true h
    clear hp hs h
    go_enter Tryz.func63, Tryz.ntmps63
    go_upto_region 1 with (fail)
    generalize w.alloc (.cells #[.string s.fil, .int .i64 s.box.cap, .int .i64 s.box.pol, .slice ua s.box.q.length uc, .int .i64 s.box.ofr, .int .i64 s.box.rcv, .int .i64 s.box.drp, .int .i64 s.box.mrg, .bool s.box.shut, .bool s.live] 89) = w1 at hb1 q1 ⊢
    have x0 : w1.cell? ⟨w.heap.size, 0, none⟩ = some (.string s.fil) := cell_of_heap q1 0
    have HB := Lib.hid hb1
    clear q1 hb1
    go_wp2
    go_ret
    exact ⟨ret_int HE.out.symm, HB.out⟩
  · have HE : Hid (szS s left = szMs s.box.q (left - s.fil.size)) := Lib.hid (by unfold szS; rw [if_neg h])
    have g2 : decide (left - s.fil.size < 0) = false := decide_eq_false h
    have CS := Lib.hid (fun wx (h : MsgsAt wx (.slice ua s.box.q.length uc) s.box.q) => szBox_any s.box (.slice ua s.box.q.length uc) (left - s.fil.size) wx (by omega) (by omega) hs h)
    have H2 := Lib.hid (szMs_two s.box.q (left - s.fil.size) (by omega))
    obtain ⟨r, hr⟩ : ∃ r, szMs s.box.q (left - s.fil.size) = r := ⟨_, rfl⟩
    rw [hr] at CS H2 HE
    clear hp hs hr h
    go_enter Tryz.func63, Tryz.ntmps63
    go_upto_region 1 with (fail)
    generalize w.alloc (.cells #[.string s.fil, .int .i64 s.box.cap, .int .i64 s.box.pol, .slice ua s.box.q.length uc, .int .i64 s.box.ofr, .int .i64 s.box.rcv, .int .i64 s.box.drp, .int .i64 s.box.mrg, .bool s.box.shut, .bool s.live] 89) = w1 at hb1 q1 ⊢
    have x0 : w1.cell? ⟨w.heap.size, 0, none⟩ = some (.string s.fil) := cell_of_heap q1 0
    have x1 : w1.cell? ⟨w.heap.size, 1, none⟩ = some (.int .i64 s.box.cap) := cell_of_heap q1 1
    have x2 : w1.cell? ⟨w.heap.size, 2, none⟩ = some (.int .i64 s.box.pol) := cell_of_heap q1 2
    have x3 : w1.cell? ⟨w.heap.size, 3, none⟩ = some (.slice ua s.box.q.length uc) := cell_of_heap q1 3
    have x4 : w1.cell? ⟨w.heap.size, 4, none⟩ = some (.int .i64 s.box.ofr) := cell_of_heap q1 4
    have x5 : w1.cell? ⟨w.heap.size, 5, none⟩ = some (.int .i64 s.box.rcv) := cell_of_heap q1 5
    have x6 : w1.cell? ⟨w.heap.size, 6, none⟩ = some (.int .i64 s.box.drp) := cell_of_heap q1 6
    have x7 : w1.cell? ⟨w.heap.size, 7, none⟩ = some (.int .i64 s.box.mrg) := cell_of_heap q1 7
    have x8 : w1.cell? ⟨w.heap.size, 8, none⟩ = some (.bool s.box.shut) := cell_of_heap q1 8
    have HB1 := Lib.hid hb1
    clear q1 hb1
    go_wp2_with fail
    refine (CS.out _ (HV.out.below HB1.out)).mono ?_
    rintro e w2 ⟨rfl, hb⟩
    have HB := Lib.hid (below_end HB1.out hb)
    clear hb x0 x1 x2 x3 x4 x5 x6 x7 x8 CS HB1
    rcases H2.out with ⟨h3, h4⟩ | h3
    · have g3 : decide (r < 0) = true := decide_eq_true h3
      subst h4
      clear H2 h3
      go_wp2
      go_ret
      exact ⟨ret_int HE.out.symm, HB.out⟩
    · have g3 : decide (r < 0) = false := decide_eq_false (by omega)
      clear H2 h3
      go_wp2
      go_ret
      exact ⟨ret_int HE.out.symm, HB.out⟩

set_option maxRecDepth 100000 in
set_option maxHeartbeats 1600000 in
theorem szSubs_any (v : Value) (l : List SubM) (left : Int) (w : World) (h0 : 0 ≤ left) (h1 : left ≤ 1048576) (hs : ∀ s ∈ l, s.fil.size ≤ maxLen ∧ ∀ x ∈ s.box.q, x.2.2.1.size ≤ maxLen) (hv : SubsAt w v l) :
    Calls Tryz.prog 23 #[v, .int .i64 left] w fun e w' => e = .returned (.int .i64 (szSs l left)) ∧ Below w.heap.size w w' := by
  obtain ⟨a, c, rfl, hc1, hc2, hc3⟩ := hv
  have HC := Lib.hid hc3
  have HS := Lib.hid hs
  unfold maxLen at hc2
  have g1 : IntKind.i64.wrap (left - l.length) = left - l.length := by rw [IntKind.wrap_i64]; omega
  clear hc3 hs
  by_cases h : left - l.length < 0
  · have HE : Hid (szSs l left = -1) := Lib.hid (by unfold szSs; rw [if_pos h])
    have g2 : decide (left - l.length < 0) = true := decide_eq_true h
    clear hc1 hc2
    go_enter Tryz.func23, Tryz.ntmps23
    go_wp2
    go_ret
    exact ⟨ret_int HE.out.symm, Below.refl _ _⟩
  · have HE : Hid (szSs l left = szST l (left - l.length)) := Lib.hid (by unfold szSs; rw [if_neg h])
    have g2 : decide (left - l.length < 0) = false := decide_eq_false h
    go_enter Tryz.func23, Tryz.ntmps23
    go_wp2
    go_loopw [1, 5] (fun lv i wr => ∃ (k : Nat) (q : Int), k ≤ l.length ∧ i = .int .i64 k ∧ lv = .int .i64 q ∧ 0 ≤ q ∧ q ≤ 1048576 ∧ Hid (szST l (left - l.length) = szST (l.drop k) q) ∧ Hid (Below w.heap.size w wr)) (fun _ i _ => l.length - (intOf i).toNat)
    case atStart => exact ⟨0, _, Nat.zero_le _, rfl, rfl, by omega, by omega, rfl, Below.refl _ _⟩
    case round =>
      obtain ⟨k, q, hk, rfl, rfl, hq0, hq1, HR, HB⟩ := hrel
      by_cases hlt : k < l.length
      · obtain ⟨b, o, rfl, hin⟩ : ∃ b o, a = some ⟨b, o, none⟩ ∧ ∀ (j : Nat) (hj : j < l.length), SubIn w b (o + j * 10) l[j] := by
          rcases HC.out with h | h
          · subst h; simp at hlt
          · exact h
        obtain ⟨u0, hq, hra⟩ := (hin k hlt).below HB.out
        have CZ := Lib.hid (szSub_any l[k] u0 q wr hq0 hq1 (HS.out _ (List.getElem_mem hlt)).1 (HS.out _ (List.getElem_mem hlt)).2 hq)
        obtain ⟨ua, uc, rfl, _, _, _⟩ := hq
        have HD : Hid (szST (l.drop k) q = if szS l[k] q < 0 then -1 else szST (l.drop (k + 1)) (szS l[k] q)) := Lib.hid (by rw [List.drop_eq_getElem_cons hlt]; rfl)
        have hle := szS_le l[k] q hq0
        obtain ⟨x, hx⟩ : ∃ x, l[k] = x := ⟨_, rfl⟩
        rw [hx] at hra CZ HD hle
        clear hin hx
        obtain ⟨r, hr⟩ : ∃ r, szS x q = r := ⟨_, rfl⟩
        rw [hr] at CZ HD hle
        clear hr
        go_wp2_with (first | refine wpList_load_mid rfl 89 (.tmp 20) rfl b (o + k * 10) rfl (scells x (.slice ua x.box.q.length uc)) _ hra Tryz.underlying89 rfl (by kernel_rfl) ?_)
        refine CZ.out.mono ?_
        clear CZ
        rintro e w2 ⟨rfl, hb⟩
        have HB2 := Lib.hid (below_end HB.out hb)
        clear hb HB hra
        by_cases h3 : r < 0
        · have g3 : decide (r < 0) = true := decide_eq_true h3
          have HF : Hid (szSs l left = -1) := Lib.hid (by rw [HE.out, HR.out, HD.out, if_pos h3])
          clear HE HR HD
          go_wp2
          go_ret
          exact ⟨ret_int HF.out.symm, HB2.out⟩
        · have g3 : decide (r < 0) = false := decide_eq_false h3
          have HN : Hid (szST l (left - l.length) = szST (l.drop (k + 1)) r) := Lib.hid (by rw [HR.out, HD.out, if_neg h3])
          have h4 : 0 ≤ r := by omega
          have h5 : r ≤ 1048576 := by omega
          clear HE HR HD
          go_wp2
          go_roundw
          case rel => exact ⟨k + 1, r, by omega, by go_num, rfl, h4, h5, HN, HB2⟩
          case measure => simp [intOf]; omega
      · obtain rfl : k = l.length := by omega
        have HF : Hid (szSs l left = q) := Lib.hid (by rw [HE.out, HR.out, List.drop_length]; rfl)
        go_wp2
        go_ret
        exact ⟨ret_int HF.out.symm, HB.out⟩

/-- The texts of a broker that comes in are of a machine's length. -/
structure BrLen (b : BrokerM) : Prop where
  subs : ∀ s ∈ b.subs, s.fil.size ≤ maxLen ∧ ∀ x ∈ s.box.q, x.2.2.1.size ≤ maxLen
  trie : ∀ x ∈ b.trie, x.1.size ≤ maxLen
  keep : ∀ x ∈ b.keep, x.2.2.1.size ≤ maxLen
  ring : ∀ x ∈ b.ring, x.2.2.1.size ≤ maxLen

set_option maxRecDepth 100000 in
set_option maxHeartbeats 1600000 in
theorem szBroker_any (b : BrokerM) (v : BrV) (left : Int) (w : World) (h0 : 0 ≤ left) (h1 : left ≤ 1048576) (hs : BrLen b) (hv : BrAt w v b) :
    Calls Tryz.prog 7 #[bragg b v, .int .i64 left] w fun e w' => e = .returned (.int .i64 (szBr b left)) ∧ Below w.heap.size w w' := by
  have HV := Lib.hid hv
  obtain ⟨vs, vt, vk, vr⟩ := v
  obtain ⟨a1, c1, hz, _, _, _⟩ := HV.out.subs
  dsimp only at hz
  subst hz
  obtain ⟨a2, c2, hz, _, _, _⟩ := HV.out.trie
  dsimp only at hz
  subst hz
  obtain ⟨a3, c3, hz, _, _, _⟩ := HV.out.keep
  dsimp only at hz
  subst hz
  obtain ⟨a5, c5, hz, _, _, _⟩ := HV.out.ring
  dsimp only at hz
  subst hz
  have C1 := Lib.hid (fun wx (h : BrAt wx ⟨.slice a1 b.subs.length c1, .slice a2 b.trie.length c2, .slice a3 b.keep.length c3, .slice a5 b.ring.length c5⟩ b) => szSubs_any (.slice a1 b.subs.length c1) b.subs left wx h0 h1 hs.subs h.subs)
  have C2 := Lib.hid (fun (a : Int) (ha : 0 ≤ a) (hb : a ≤ 1048576) wx (h : BrAt wx ⟨.slice a1 b.subs.length c1, .slice a2 b.trie.length c2, .slice a3 b.keep.length c3, .slice a5 b.ring.length c5⟩ b) => szKnots_any (.slice a2 b.trie.length c2) b.trie a wx ha hb hs.trie h.trie)
  have C3 := Lib.hid (fun (a : Int) (ha : 0 ≤ a) (hb : a ≤ 1048576) wx (h : BrAt wx ⟨.slice a1 b.subs.length c1, .slice a2 b.trie.length c2, .slice a3 b.keep.length c3, .slice a5 b.ring.length c5⟩ b) => szMsgs_any (.slice a3 b.keep.length c3) b.keep a wx ha hb hs.keep h.keep)
  have C4 := Lib.hid (fun (a : Int) (ha : 0 ≤ a) (hb : a ≤ 1048576) wx (h : BrAt wx ⟨.slice a1 b.subs.length c1, .slice a2 b.trie.length c2, .slice a3 b.keep.length c3, .slice a5 b.ring.length c5⟩ b) => szRing_any b.rcap (.slice a5 b.ring.length c5) b.ring a wx ha hb hs.ring h.ring)
  have HR : Hid (szBr b left = if szSs b.subs left < 0 then -1 else if szKs b.trie (szSs b.subs left) < 0 then -1 else
    if szMs b.keep (szKs b.trie (szSs b.subs left)) < 0 then -1 else szMs b.ring (szMs b.keep (szKs b.trie (szSs b.subs left)))) := Lib.hid rfl
  have T1 := Lib.hid (szSs_two b.subs left h0)
  have L1 := szSs_le b.subs left h0
  have T2 := Lib.hid (fun (a : Int) (h : 0 ≤ a) => And.intro (szKs_two b.trie a h) (szKs_le b.trie a h))
  have T3 := Lib.hid (fun (a : Int) (h : 0 ≤ a) => And.intro (szMs_two b.keep a h) (szMs_le b.keep a h))
  have T4 := Lib.hid (fun (a : Int) (h : 0 ≤ a) => And.intro (szMs_two b.ring a h) (szMs_le b.ring a h))
  obtain ⟨RR, hRR⟩ : ∃ z, szBr b left = z := ⟨_, rfl⟩
  rw [hRR] at HR ⊢
  obtain ⟨r1, hr1⟩ : ∃ z, szSs b.subs left = z := ⟨_, rfl⟩
  rw [hr1] at HR C1 T1 L1
  clear hRR hr1 hv hs
  go_enter Tryz.func7, Tryz.ntmps7
  go_upto_region 1 with (fail)
  have b1 := (Below.refl w.heap.size w).alloc (Nat.le_refl _) (.cells (brcells b ⟨.slice a1 b.subs.length c1, .slice a2 b.trie.length c2, .slice a3 b.keep.length c3, .slice a5 b.ring.length c5⟩) 28)
  have q1 : BBr (w.alloc (.cells (brcells b ⟨.slice a1 b.subs.length c1, .slice a2 b.trie.length c2, .slice a3 b.keep.length c3, .slice a5 b.ring.length c5⟩) 28)) w.heap.size 28 b ⟨.slice a1 b.subs.length c1, .slice a2 b.trie.length c2, .slice a3 b.keep.length c3, .slice a5 b.ring.length c5⟩ := BBr.new _ _ _ _
  change Code.wp _ _ _ _ (w.alloc (.cells (brcells b ⟨.slice a1 b.subs.length c1, .slice a2 b.trie.length c2, .slice a3 b.keep.length c3, .slice a5 b.ring.length c5⟩) 28))
  generalize w.alloc (.cells (brcells b ⟨.slice a1 b.subs.length c1, .slice a2 b.trie.length c2, .slice a3 b.keep.length c3, .slice a5 b.ring.length c5⟩) 28) = w1 at b1 q1 ⊢
  have D1 := Lib.hid (And.intro (HV.out.below b1) (And.intro b1 q1))
  have x1 := q1.cells.2.1
  dsimp only at x1
  clear b1 q1
  go_wp2_with fail
  refine (C1.out _ D1.out.1).mono ?_
  rintro e w2 ⟨rfl, hb⟩
  have D2 := Lib.hid (And.intro (D1.out.1.below hb) (And.intro (below_end D1.out.2.1 hb) (D1.out.2.2.below hb)))
  clear hb D1 x1 C1
  rcases T1.out with ⟨h3, h4⟩ | h3
  · have g3 : decide (r1 < 0) = true := decide_eq_true (by omega)
    have HE := Lib.hid (show RR = -1 by rw [HR.out, if_pos (by omega)])
    clear T1 h3 h4
    go_wp2
    go_ret
    exact ⟨ret_int HE.out.symm, D2.out.2.1⟩
  have g3 : decide (r1 < 0) = false := decide_eq_false (by omega)
  have k1 : 0 ≤ r1 := by omega
  replace HR := Lib.hid (show RR = if szKs b.trie r1 < 0 then -1 else if szMs b.keep (szKs b.trie r1) < 0 then -1 else szMs b.ring (szMs b.keep (szKs b.trie r1)) by rw [HR.out, if_neg (by omega)])
  have C2 := Lib.hid (C2.out r1 k1 (by omega))
  have T2 := Lib.hid (T2.out r1 k1)
  have L2 := T2.out.2
  obtain ⟨r2, hr2⟩ : ∃ z, szKs b.trie r1 = z := ⟨_, rfl⟩
  rw [hr2] at HR C2 T2 L2
  clear T1 h3 hr2
  have x2 := D2.out.2.2.cells.2.2.1
  dsimp only at x2
  go_wp2_with fail
  refine (C2.out _ D2.out.1).mono ?_
  rintro e w3 ⟨rfl, hb⟩
  have D3 := Lib.hid (And.intro (D2.out.1.below hb) (And.intro (below_end D2.out.2.1 hb) (D2.out.2.2.below hb)))
  clear hb D2 x2 C2 g3
  rcases T2.out.1 with ⟨h3, h4⟩ | h3
  · have g3 : decide (r2 < 0) = true := decide_eq_true (by omega)
    have HE := Lib.hid (show RR = -1 by rw [HR.out, if_pos (by omega)])
    clear T2 h3 h4
    go_wp2
    go_ret
    exact ⟨ret_int HE.out.symm, D3.out.2.1⟩
  have g3 : decide (r2 < 0) = false := decide_eq_false (by omega)
  have k2 : 0 ≤ r2 := by omega
  replace HR := Lib.hid (show RR = if szMs b.keep r2 < 0 then -1 else szMs b.ring (szMs b.keep r2) by rw [HR.out, if_neg (by omega)])
  have C3 := Lib.hid (C3.out r2 k2 (by omega))
  have T3 := Lib.hid (T3.out r2 k2)
  have L3 := T3.out.2
  obtain ⟨r3, hr3⟩ : ∃ z, szMs b.keep r2 = z := ⟨_, rfl⟩
  rw [hr3] at HR C3 T3 L3
  clear T2 h3 hr3
  have x3 := D3.out.2.2.cells.2.2.2.1
  dsimp only at x3
  go_wp2_with fail
  refine (C3.out _ D3.out.1).mono ?_
  rintro e w4 ⟨rfl, hb⟩
  have D4 := Lib.hid (And.intro (D3.out.1.below hb) (And.intro (below_end D3.out.2.1 hb) (D3.out.2.2.below hb)))
  clear hb D3 x3 C3 g3
  rcases T3.out.1 with ⟨h3, h4⟩ | h3
  · have g3 : decide (r3 < 0) = true := decide_eq_true (by omega)
    have HE := Lib.hid (show RR = -1 by rw [HR.out, if_pos (by omega)])
    clear T3 h3 h4
    go_wp2
    go_ret
    exact ⟨ret_int HE.out.symm, D4.out.2.1⟩
  have g3 : decide (r3 < 0) = false := decide_eq_false (by omega)
  have k3 : 0 ≤ r3 := by omega
  replace HR := Lib.hid (show RR = szMs b.ring r3 by rw [HR.out, if_neg (by omega)])
  have C4 := Lib.hid (C4.out r3 k3 (by omega))
  have T4 := Lib.hid (T4.out r3 k3)
  obtain ⟨r4, hr4⟩ : ∃ z, szMs b.ring r3 = z := ⟨_, rfl⟩
  rw [hr4] at HR C4 T4
  clear T3 h3 hr4
  have x4 := D4.out.2.2.cells.2.2.2.2.1
  have x5 := D4.out.2.2.cells.2.2.2.2.2.1
  dsimp only at x4 x5
  go_wp2_with fail
  refine (C4.out _ D4.out.1).mono ?_
  rintro e w5 ⟨rfl, hb⟩
  have D5 := Lib.hid (below_end D4.out.2.1 hb)
  clear hb D4 x4 x5 C4 g3
  rcases T4.out.1 with ⟨h3, h4⟩ | h3
  · have g3 : decide (r4 < 0) = true := decide_eq_true (by omega)
    subst h4
    clear T4 h3
    go_wp2
    go_ret
    exact ⟨ret_int HR.out.symm, D5.out⟩
  · have g3 : decide (r4 < 0) = false := decide_eq_false (by omega)
    clear T4 h3
    go_wp2
    go_ret
    exact ⟨ret_int HR.out.symm, D5.out⟩

end Go.Proofs.YtmfbffhbgelnnaaGreatDoor
