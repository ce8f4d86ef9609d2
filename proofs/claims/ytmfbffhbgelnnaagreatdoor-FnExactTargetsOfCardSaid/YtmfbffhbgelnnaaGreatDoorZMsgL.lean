/- The walks of the exact laws' measures, copies and looks of messages. -/
import Derived.Test.YtmfbffhbgelnnaaGreatDoorZB1
import Derived.Test.YtmfbffhbgelnnaaGreatDoorZB3
import Derived.Test.YtmfbffhbgelnnaaGreatDoorZB2
import Derived.BigQuiet
import Derived.OwnWalk
import Derived.Deep.RegionHeld
import Derived.Deep.QuietTactic
set_option linter.unusedSimpArgs false
set_option linter.unusedVariables false
namespace Go.Proofs.YtmfbffhbgelnnaaGreatDoor
open Go.RowKit

/-- What is left behind n more. -/
def szN (n : Nat) (left : Int) : Int := if left - n < 0 then -1 else left - n
def szMT : List MsgM → Int → Int
  | [], a => a
  | x :: l, a => if szN x.2.2.1.size a < 0 then -1 else szMT l (szN x.2.2.1.size a)
def szMs (l : List MsgM) (left : Int) : Int := if left - l.length < 0 then -1 else szMT l (left - l.length)

theorem szN_le (n : Nat) (a : Int) (h : 0 ≤ a) : szN n a ≤ a := by unfold szN; split <;> omega
theorem szN_small {n : Nat} {a : Int} (h : 0 ≤ szN n a) : (n : Int) ≤ a := by unfold szN at h; split at h <;> omega
theorem szMT_small : ∀ {l : List MsgM} {a : Int}, 0 ≤ a → 0 ≤ szMT l a → ∀ x ∈ l, (x.2.2.1.size : Int) ≤ a
  | x :: l, a, h0, h, y, hy => by
    unfold szMT at h
    split at h
    · omega
    · rename_i h2
      have h3 : 0 ≤ szN x.2.2.1.size a := by omega
      have h4 := szN_le x.2.2.1.size a h0
      rcases List.mem_cons.1 hy with rfl | hy
      · exact szN_small h3
      · have := szMT_small h3 h y hy; omega
theorem szMs_small {l : List MsgM} {a : Int} (h0 : 0 ≤ a) (h : 0 ≤ szMs l a) : (l.length : Int) ≤ a ∧ ∀ x ∈ l, (x.2.2.1.size : Int) ≤ a := by
  unfold szMs at h
  split at h
  · omega
  · exact ⟨by omega, fun x hx => by have := szMT_small (by omega) h x hx; omega⟩
theorem szMT_le : ∀ (l : List MsgM) (a : Int), 0 ≤ a → szMT l a ≤ a
  | [], _, _ => Int.le_refl _
  | x :: l, a, h => by
    unfold szMT; split
    · omega
    · have h1 := szN_le x.2.2.1.size a h
      have := szMT_le l (szN x.2.2.1.size a) (by omega); omega
theorem szMs_le (l : List MsgM) (a : Int) (h : 0 ≤ a) : szMs l a ≤ a := by
  unfold szMs; split
  · omega
  · have := szMT_le l (a - l.length) (by omega); omega

set_option maxRecDepth 100000 in
set_option maxHeartbeats 400000 in
theorem szMsg_any (x : MsgM) (left : Int) (w : World) (h0 : 0 ≤ left) (h1 : left ≤ 1048576) (hp : x.2.2.1.size ≤ maxLen) :
    Calls Tryz.prog 65 #[magg x, .int .i64 left] w fun e w' => e = .returned (.int .i64 (szN x.2.2.1.size left)) ∧ Below w.heap.size w w' := by
  obtain ⟨q, f, p, d⟩ := x
  dsimp only at hp ⊢
  obtain ⟨n, hn⟩ : ∃ n, p.size = n := ⟨_, rfl⟩
  rw [hn] at hp ⊢
  unfold maxLen at hp
  have g1 : IntKind.i64.wrap (left - p.size) = left - p.size := by rw [IntKind.wrap_i64, hn]; omega
  by_cases h : left - n < 0
  · have HE : Hid (szN n left = -1) := Lib.hid (by unfold szN; rw [if_pos h])
    have g2 : decide (left - p.size < 0) = true := decide_eq_true (by rw [hn]; exact h)
    clear hp hn
    go_enter Tryz.func65, Tryz.ntmps65
    go_wp2
    go_ret
    exact ⟨ret_int HE.out.symm, (Below.refl _ _).alloc (Nat.le_refl _) _⟩
  · have HE : Hid (szN n left = left - p.size) := Lib.hid (by unfold szN; rw [if_neg h, hn])
    have g2 : decide (left - p.size < 0) = false := decide_eq_false (by rw [hn]; exact h)
    clear hp hn
    go_enter Tryz.func65, Tryz.ntmps65
    go_wp2
    go_ret
    exact ⟨ret_int HE.out.symm, (Below.refl _ _).alloc (Nat.le_refl _) _⟩

set_option maxRecDepth 100000 in
set_option maxHeartbeats 800000 in
theorem szMsgs_any (v : Value) (l : List MsgM) (left : Int) (w : World) (h0 : 0 ≤ left) (h1 : left ≤ 1048576) (hs : ∀ x ∈ l, x.2.2.1.size ≤ maxLen) (hv : MsgsAt w v l) :
    Calls Tryz.prog 25 #[v, .int .i64 left] w fun e w' => e = .returned (.int .i64 (szMs l left)) ∧ Below w.heap.size w w' := by
  obtain ⟨a, c, rfl, hc1, hc2, hc3⟩ := hv
  have HC := Lib.hid hc3
  have HS := Lib.hid hs
  unfold maxLen at hc2
  have g1 : IntKind.i64.wrap (left - l.length) = left - l.length := by rw [IntKind.wrap_i64]; omega
  clear hc3 hs
  by_cases h : left - l.length < 0
  · have HE : Hid (szMs l left = -1) := Lib.hid (by unfold szMs; rw [if_pos h])
    have g2 : decide (left - l.length < 0) = true := decide_eq_true h
    clear hc1 hc2
    go_enter Tryz.func25, Tryz.ntmps25
    go_wp2
    go_ret
    exact ⟨ret_int HE.out.symm, Below.refl _ _⟩
  · have HE : Hid (szMs l left = szMT l (left - l.length)) := Lib.hid (by unfold szMs; rw [if_neg h])
    have g2 : decide (left - l.length < 0) = false := decide_eq_false h
    go_enter Tryz.func25, Tryz.ntmps25
    go_wp2
    go_loopw [1, 5] (fun lv i wr => ∃ (k : Nat) (q : Int), k ≤ l.length ∧ i = .int .i64 k ∧ lv = .int .i64 q ∧ 0 ≤ q ∧ q ≤ 1048576 ∧ Hid (szMT l (left - l.length) = szMT (l.drop k) q) ∧ Hid (Below w.heap.size w wr)) (fun _ i _ => l.length - (intOf i).toNat)
    case atStart => exact ⟨0, _, Nat.zero_le _, rfl, rfl, by omega, by omega, rfl, Below.refl _ _⟩
    case round =>
      obtain ⟨k, q, hk, rfl, rfl, hq0, hq1, HR, HB⟩ := hrel
      by_cases hlt : k < l.length
      · obtain ⟨b, o, rfl, hin⟩ : ∃ b o, a = some ⟨b, o, none⟩ ∧ MsgsIn w b o l := by
          rcases HC.out with h | h
          · subst h; simp at hlt
          · exact h
        obtain ⟨c0, c1, c2, c3⟩ := (hin.below HB.out) k hlt
        have CZ := Lib.hid (szMsg_any l[k] q wr hq0 hq1 (HS.out _ (List.getElem_mem hlt)))
        have HD : Hid (szMT (l.drop k) q = if szN l[k].2.2.1.size q < 0 then -1 else szMT (l.drop (k + 1)) (szN l[k].2.2.1.size q)) := Lib.hid (by rw [List.drop_eq_getElem_cons hlt]; rfl)
        have hle := szN_le l[k].2.2.1.size q hq0
        obtain ⟨x, hx⟩ : ∃ x, l[k] = x := ⟨_, rfl⟩
        rw [hx] at c0 c1 c2 c3 CZ HD hle
        clear hin hx
        obtain ⟨r, hr⟩ : ∃ r, szN x.2.2.1.size q = r := ⟨_, rfl⟩
        rw [hr] at CZ HD hle
        clear hr
        go_wp2_with fail
        refine CZ.out.mono ?_
        clear CZ
        rintro e w2 ⟨rfl, hb⟩
        have HB2 := Lib.hid (below_end HB.out hb)
        clear hb HB
        by_cases h3 : r < 0
        · have g3 : decide (r < 0) = true := decide_eq_true h3
          have HF : Hid (szMs l left = -1) := Lib.hid (by rw [HE.out, HR.out, HD.out, if_pos h3])
          clear HE HR HD
          go_wp2
          go_ret
          exact ⟨ret_int HF.out.symm, HB2.out⟩
        · have g3 : decide (r < 0) = false := decide_eq_false h3
          have HN : Hid (szMT l (left - l.length) = szMT (l.drop (k + 1)) r) := Lib.hid (by rw [HR.out, HD.out, if_neg h3])
          have h4 : 0 ≤ r := by omega
          have h5 : r ≤ 1048576 := by omega
          clear HE HR HD
          go_wp2
          go_roundw
          case rel => exact ⟨k + 1, r, by omega, by go_num, rfl, h4, h5, HN, HB2⟩
          case measure => simp [intOf]; omega
      · obtain rfl : k = l.length := by omega
        have HF : Hid (szMs l left = q) := Lib.hid (by rw [HE.out, HR.out, List.drop_length]; rfl)
        go_wp2
        go_ret
        exact ⟨ret_int HF.out.symm, HB.out⟩

set_option maxRecDepth 100000 in
set_option maxHeartbeats 400000 in
theorem eqMsg_any (x : MsgM) (w : World) :
    Calls Tryz.prog 94 #[magg x, magg x] w fun e w' => e = .returned (.bool true) ∧ Below w.heap.size w w' := by
  obtain ⟨q, f, p, d⟩ := x
  have e1 : (q != q) = false := by simp
  have e2 : (f != f) = false := by simp
  have e3 : (d != d) = false := by simp
  go_enter Tryz.func94, Tryz.ntmps94
  go_wp2
  go_ret
  exact ⟨rfl, ((Below.refl _ _).alloc (Nat.le_refl _) _).alloc (by simp) _⟩

set_option maxRecDepth 100000 in
set_option maxHeartbeats 400000 in
theorem toMsg_any (x : MsgM) (w : World) :
    Calls Tryz.prog 80 #[magg x] w fun e w' => e = .returned (magg x) ∧ Below w.heap.size w w' := by
  obtain ⟨q, f, p, d⟩ := x
  go_enter Tryz.func80, Tryz.ntmps80
  go_wp2
  have HB := (((Below.refl _ w).alloc (Nat.le_refl _) (.cells #[.int .i64 q, .int .i64 f, .string p, .int .i64 d] 95)).alloc (by simp) (.cells #[.int .i64 q, .int .i64 f, .string p, .int .i64 d] 97)).alloc (by simp; omega) (.cells #[.int .i64 q, .int .i64 f, .string p, .int .i64 d] 97)
  have HR := heap_alloc_new (w.alloc (.cells #[.int .i64 q, .int .i64 f, .string p, .int .i64 d] 95)) (.cells #[.int .i64 q, .int .i64 f, .string p, .int .i64 d] 97)
  have HR2 := (((Below.refl _ _).alloc (Nat.le_refl _) (.cells #[.int .i64 q, .int .i64 f, .string p, .int .i64 d] 97)).block _ (by simp)).trans HR
  rw [World.size_alloc] at HR2
  exact bodyPost_ret (results_cell_row rfl _ _ _ _ _ _ _ rfl HR2 Tryz.underlying97 rfl (by kernel_rfl)) rfl ⟨rfl, HB⟩

set_option maxRecDepth 100000 in
set_option maxHeartbeats 400000 in
theorem eqMsgs_any (va vb : Value) (l : List MsgM) (w : World) (hl : l.length ≤ 4000000) (ha : MsgsAt w va l) (hb : MsgsAt w vb l) :
    Calls Tryz.prog 49 #[va, vb] w fun e w' => e = .returned (.bool true) ∧ Below w.heap.size w w' := by
  obtain ⟨a, c, rfl, _, _, ha3⟩ := ha
  obtain ⟨b, d, rfl, _, _, hb3⟩ := hb
  have HA := Lib.hid ha3
  have HB := Lib.hid hb3
  clear ha3 hb3
  go_enter Tryz.func49, Tryz.ntmps49
  go_wp2
  go_loopw [5] (fun i wr => ∃ k : Nat, k ≤ l.length ∧ i = .int .i64 k ∧ Hid (Below w.heap.size w wr)) (fun i _ => l.length - (intOf i).toNat)
  case atStart => exact ⟨0, Nat.zero_le _, rfl, Below.refl _ _⟩
  case round =>
    obtain ⟨k, hk, rfl, HW⟩ := hrel
    by_cases hlt : k < l.length
    · obtain ⟨ga, oa, rfl, hia⟩ : ∃ b o, a = some ⟨b, o, none⟩ ∧ MsgsIn w b o l := by
        rcases HA.out with h | h
        · subst h; simp at hlt
        · exact h
      obtain ⟨gb, ob, rfl, hib⟩ : ∃ g o, b = some ⟨g, o, none⟩ ∧ MsgsIn w g o l := by
        rcases HB.out with h | h
        · subst h; simp at hlt
        · exact h
      obtain ⟨p0, p1, p2, p3⟩ := (hia.below HW.out) k hlt
      obtain ⟨q0, q1, q2, q3⟩ := (hib.below HW.out) k hlt
      have CE := Lib.hid (fun wx => eqMsg_any l[k] wx)
      obtain ⟨x, hx⟩ : ∃ x, l[k] = x := ⟨_, rfl⟩
      rw [hx] at p0 p1 p2 p3 q0 q1 q2 q3 CE
      clear hia hib hx
      go_wp2_with fail
      refine wp_region_held_drew (S := fun wx => wx.cell? ⟨ga, oa + k * 4, none⟩ = some (.int .i64 x.1) ∧ wx.cell? ⟨ga, oa + k * 4 + 1, none⟩ = some (.int .i64 x.2.1) ∧ wx.cell? ⟨ga, oa + k * 4 + 2, none⟩ = some (.string x.2.2.1) ∧ wx.cell? ⟨ga, oa + k * 4 + 3, none⟩ = some (.int .i64 x.2.2.2) ∧ wx.cell? ⟨gb, ob + k * 4, none⟩ = some (.int .i64 x.1) ∧ wx.cell? ⟨gb, ob + k * 4 + 1, none⟩ = some (.int .i64 x.2.1) ∧ wx.cell? ⟨gb, ob + k * 4 + 2, none⟩ = some (.string x.2.2.1) ∧ wx.cell? ⟨gb, ob + k * 4 + 3, none⟩ = some (.int .i64 x.2.2.2) ∧ Hid (Below wr.heap.size wr wx)) (by kernel_rfl) ?_ (fun hHeld => ?_)
      · exact ⟨p0, p1, p2, p3, q0, q1, q2, q3, Lib.hid (Below.refl _ _).drew⟩
      change wpAnyH _ _ _ _ _ 10 #[false, false, false, false, false, false, false, false, false, false] _ _
      clear p0 p1 p2 p3 q0 q1 q2 q3
      refine wpAnyH_take (i := 0) (v := ?_) rfl (by kernel_rfl) (by kernel_rfl) (by kernel_rfl) (fun _ _ _ h => h) (Or.inl ⟨by rfl, ?_⟩) (by assumption) ?_
      rotate_left
      · intro w hSw; (try dsimp only at hSw); go_simp; try with_reducible rfl
      try simp only [Act.put, List.getElem_toArray, List.getElem_cons_succ, List.getElem_cons_zero, List.setIfInBounds_toArray, List.set_cons_zero, List.set_cons_succ]
      refine wpAnyH_take (i := 1) (v := ?_) rfl (by kernel_rfl) (by kernel_rfl) (by kernel_rfl) (fun _ _ _ h => h) (Or.inl ⟨by rfl, ?_⟩) (by assumption) ?_
      rotate_left
      · intro w hSw; (try dsimp only at hSw); go_simp; try with_reducible rfl
      try simp only [Act.put, List.getElem_toArray, List.getElem_cons_succ, List.getElem_cons_zero, List.setIfInBounds_toArray, List.set_cons_zero, List.set_cons_succ]
      refine wpAnyH_take (i := 2) (v := ?_) rfl (by kernel_rfl) (by kernel_rfl) (by kernel_rfl) (fun _ _ _ h => h) (Or.inl ⟨by rfl, ?_⟩) (by assumption) ?_
      rotate_left
      · intro w hSw; (try dsimp only at hSw); go_simp; try with_reducible rfl
      try simp only [Act.put, List.getElem_toArray, List.getElem_cons_succ, List.getElem_cons_zero, List.setIfInBounds_toArray, List.set_cons_zero, List.set_cons_succ]
      refine wpAnyH_take (i := 3) (v := ?_) rfl (by kernel_rfl) (by kernel_rfl) (by kernel_rfl) (fun _ _ _ h => h) (Or.inl ⟨by rfl, ?_⟩) (by assumption) ?_
      rotate_left
      · intro w hSw; (try dsimp only at hSw); go_simp; try with_reducible rfl
      try simp only [Act.put, List.getElem_toArray, List.getElem_cons_succ, List.getElem_cons_zero, List.setIfInBounds_toArray, List.set_cons_zero, List.set_cons_succ]
      refine wpAnyH_take (i := 4) (v := ?_) rfl (by kernel_rfl) (by kernel_rfl) (by kernel_rfl) (fun _ _ _ h => h) (Or.inl ⟨by rfl, ?_⟩) (by assumption) ?_
      rotate_left
      · intro w hSw; (try dsimp only at hSw); go_simp; try with_reducible rfl
      try simp only [Act.put, List.getElem_toArray, List.getElem_cons_succ, List.getElem_cons_zero, List.setIfInBounds_toArray, List.set_cons_zero, List.set_cons_succ]
      refine wpAnyH_take (i := 5) (v := ?_) rfl (by kernel_rfl) (by kernel_rfl) (by kernel_rfl) (fun _ _ _ h => h) (Or.inl ⟨by rfl, ?_⟩) (by assumption) ?_
      rotate_left
      · intro w hSw; (try dsimp only at hSw); go_simp; try with_reducible rfl
      try simp only [Act.put, List.getElem_toArray, List.getElem_cons_succ, List.getElem_cons_zero, List.setIfInBounds_toArray, List.set_cons_zero, List.set_cons_succ]
      refine wpAnyH_take (i := 6) (v := ?_) rfl (by kernel_rfl) (by kernel_rfl) (by kernel_rfl) (fun _ _ _ h => h) (Or.inl ⟨by rfl, ?_⟩) (by assumption) ?_
      rotate_left
      · intro w hSw; (try dsimp only at hSw); go_simp; try with_reducible rfl
      try simp only [Act.put, List.getElem_toArray, List.getElem_cons_succ, List.getElem_cons_zero, List.setIfInBounds_toArray, List.set_cons_zero, List.set_cons_succ]
      refine wpAnyH_take (i := 7) (v := ?_) rfl (by kernel_rfl) (by kernel_rfl) (by kernel_rfl) (fun _ _ _ h => h) (Or.inl ⟨by rfl, ?_⟩) (by assumption) ?_
      rotate_left
      · intro w hSw; (try dsimp only at hSw); go_simp; try with_reducible rfl
      try simp only [Act.put, List.getElem_toArray, List.getElem_cons_succ, List.getElem_cons_zero, List.setIfInBounds_toArray, List.set_cons_zero, List.set_cons_succ]
      refine wpAnyH_ready (rs := [8]) (by kernel_rfl) (by simp) (AllReadyH.cons rfl (fun K hK => ?_) AllReadyH.nil)
      rw [if_pos (by rfl)]
      go_simp; go_at_call 94; refine (CE.out _).mono ?_; rintro e wa ⟨rfl, hb⟩; go_wp2_with fail
      refine hK.out _ _ ?_ (fun hHeld => ?_)
      · exact ⟨(below_cell hb (World.block_lt_of_cell? _ _ hHeld.1)).trans hHeld.1, (below_cell hb (World.block_lt_of_cell? _ _ hHeld.2.1)).trans hHeld.2.1, (below_cell hb (World.block_lt_of_cell? _ _ hHeld.2.2.1)).trans hHeld.2.2.1, (below_cell hb (World.block_lt_of_cell? _ _ hHeld.2.2.2.1)).trans hHeld.2.2.2.1, (below_cell hb (World.block_lt_of_cell? _ _ hHeld.2.2.2.2.1)).trans hHeld.2.2.2.2.1, (below_cell hb (World.block_lt_of_cell? _ _ hHeld.2.2.2.2.2.1)).trans hHeld.2.2.2.2.2.1, (below_cell hb (World.block_lt_of_cell? _ _ hHeld.2.2.2.2.2.2.1)).trans hHeld.2.2.2.2.2.2.1, (below_cell hb (World.block_lt_of_cell? _ _ hHeld.2.2.2.2.2.2.2.1)).trans hHeld.2.2.2.2.2.2.2.1, Lib.hid (below_end hHeld.2.2.2.2.2.2.2.2.out hb)⟩
      clear hK K
      try simp only [Act.put, List.getElem_toArray, List.getElem_cons_succ, List.getElem_cons_zero, List.setIfInBounds_toArray, List.set_cons_zero, List.set_cons_succ]
      refine wpAnyH_take (i := 9) (v := ?_) rfl (by kernel_rfl) (by kernel_rfl) (by kernel_rfl) (fun _ _ _ h => h) (Or.inl ⟨by rfl, ?_⟩) (by assumption) ?_
      rotate_left
      · intro w hSw; (try dsimp only at hSw); go_simp; try with_reducible rfl
      try simp only [Act.put, List.getElem_toArray, List.getElem_cons_succ, List.getElem_cons_zero, List.setIfInBounds_toArray, List.set_cons_zero, List.set_cons_succ]
      refine wpAnyH_done (by kernel_rfl) ?_ _
      have HN := Lib.hid (below_end HW.out hHeld.2.2.2.2.2.2.2.2.out)
      clear hHeld HW
      go_wp2
      go_roundw
      case rel => exact ⟨k + 1, by omega, by go_num, HN⟩
      case measure => simp [intOf]; omega
    · go_wp2
      go_ret
      exact ⟨rfl, HW.out⟩

end Go.Proofs.YtmfbffhbgelnnaaGreatDoor
