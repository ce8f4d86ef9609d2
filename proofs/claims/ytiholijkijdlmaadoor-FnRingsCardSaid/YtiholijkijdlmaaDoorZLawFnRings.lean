/- The law FnRings holds at every argument: for every input it returns true and leaves the input as it was. -/
import Derived.Test.YtiholijkijdlmaaDoorZB4
import Derived.Test.YtiholijkijdlmaaDoorZDrawRL
import Derived.Test.YtiholijkijdlmaaDoorZB2
import Derived.Test.YtiholijkijdlmaaDoorZIRec
import Derived.Test.YtiholijkijdlmaaDoorZB7
import Derived.Test.YtiholijkijdlmaaDoorZSRing3
import Derived.Test.YtiholijkijdlmaaDoorZRingE
import Derived.Test.YtiholijkijdlmaaDoorZB3
set_option linter.unusedSimpArgs false
set_option linter.unusedVariables false
namespace Go.Proofs.YtiholijkijdlmaaDoor.lawFnRings
open Go.ChangeShapes Go.WideShapes Go.ChangeAt Go.RowKit Go.WideMaps Go.WideElems
open Go.ChangeMaps (open_string shut_string)

def RowP (w : World) (B : Nat) (u : Value) (l : List MsgM) : Prop := ∃ V pre post, MOwn w B V (pre ++ l ++ post) ∧ PartOf V pre.length l.length u
theorem RowP.reads {w : World} {B : Nat} {u : Value} {l : List MsgM} (h : RowP w B u l) : MsgsAt w u l := by obtain ⟨V, pre, post, h1, h2⟩ := h; exact part_at h1 h2
theorem RowP.below {w w' : World} {B : Nat} {u : Value} {l : List MsgM} (h : RowP w B u l) (hb : Below w.heap.size w w') : RowP w' B u l := by obtain ⟨V, pre, post, h1, h2⟩ := h; exact ⟨V, pre, post, row_below h1 hb, h2⟩
theorem RowP.thrown {w w' : World} {B g : Nat} {u : Value} {l : List MsgM} (h : RowP w B u l) (hg : g < B) (hw : w.grownBy w' (some g)) : RowP w' B u l := by obtain ⟨V, pre, post, h1, h2⟩ := h; exact ⟨V, pre, post, own_thrown h1 hg hw, h2⟩
theorem RowP.offR {w : World} {B R j : Nat} {q : Int} {u v x : Value} {l : List MsgM} (h : RowP w B u l) (hr : RB w R q v) : RowP (w.setCell ⟨R, j, none⟩ x) B u l := by obtain ⟨V, pre, post, h1, h2⟩ := h; exact ⟨V, pre, post, own_offR h1 hr, h2⟩
theorem Rolls.far {g : Nat} {a : Option Addr} {len cap : Nat} {w w' : World} (h : Rolls g a len cap w) (hb : Below (g + 1) w w') : Rolls g a len cap w' := by
  obtain ⟨i, x, hh, r⟩ := h.dice
  exact ⟨⟨i, x, (hb.block g (by omega)).trans hh, r⟩, h.code.below fun k hk => hb.block k (by omega)⟩

set_option maxRecDepth 100000 in
set_option maxHeartbeats 12800000 in
theorem law (w : World) (a : Option Addr) (len cap : Nat) (hc : CodeAt w.heap.size a len w) (m : Int) (hm : w.cell? ⟨0, 0, none⟩ = some (.int .i64 m)) :
    Calls Tryd.prog 3 #[.slice a len cap] w fun e w' => e = .returned (.bool true) ∧ Below w.heap.size w w' := by
  have HM := Lib.hid hm
  have hlt : 0 < w.heap.size := World.block_lt_of_cell? _ _ hm
  have HC := Lib.hid hc
  clear hm hc
  have cb := big_any a len cap w
  by_cases hb : 4096 < len
  · rw [decide_eq_true hb] at cb
    go_enter Tryd.func3, Tryd.ntmps3
    go_wp2_with fail
    refine cb.mono ?_
    rintro e w1 ⟨rfl, rfl⟩
    go_wp2
    go_ret
    exact ⟨rfl, Below.refl _ _⟩
  rw [decide_eq_false hb] at cb
  go_enter Tryd.func3, Tryd.ntmps3
  go_wp2_with fail
  refine cb.mono ?_
  rintro e w0 ⟨rfl, rfl⟩
  clear cb
  go_wp2_with fail
  refine (drawRecorded_any (by omega) HC.out).mono ?_
  rintro e w1 ⟨q, u, l, x, rfl, ho, hs, hx, b1⟩
  obtain ⟨ua, uc, hxu⟩ := own_slice ho
  subst hxu
  have K1 := Lib.hid (own_msgs_at ho)
  have B1 := Lib.hid b1
  clear ho b1
  have hl : l.length ≤ 1048576 := by have := hs.1; omega
  have hls : ∀ y ∈ l, y.2.2.1.size ≤ 1048576 := fun y hy => by have := hs.2 y hy; unfold ShortM at this; omega
  have hxs : x.2.2.1.size ≤ 1048576 := by unfold ShortM at hx; omega
  have CI := Lib.hid (fun wx (h : MsgsAt wx (.slice ua l.length uc) l) h2 => implRecorded_any q (.slice ua l.length uc) l x m wx hl hls hxs h h2)
  have CS := Lib.hid (fun wx (h : MsgsAt wx (.slice ua l.length uc) l) => specRecorded_any q (.slice ua l.length uc) l x wx hl hls hxs h)
  have CR := Lib.hid (fun wx (h : MsgsAt wx (.slice ua l.length uc) l) h2 => implRingOk_any q (.slice ua l.length uc) l m wx hl hls h h2)
  have CT := Lib.hid (fun wx (h : MsgsAt wx (.slice ua l.length uc) l) => specRingOk_any q (.slice ua l.length uc) l wx hl hls h)
  have hLl := recM_len q l x
  obtain ⟨rc, L, ok, hR⟩ : ∃ rc L ok, recM q l x = (rc, L, ok) := ⟨_, _, _, rfl⟩
  simp only [hR] at CI CS hLl
  obtain ⟨rb, hrb⟩ : ∃ b, ringB q l = b := ⟨_, rfl⟩
  rw [hrb] at CR CT
  have CQ := Lib.hid (fun u1 u2 wx (h1 : MsgsAt wx u1 L) (h2 : MsgsAt wx u2 L) => likeRing_any rc u1 u2 L wx (by omega) h1 h2)
  obtain ⟨xq, xf, xp, xd⟩ := x
  clear hs hx hls hxs hR hrb
  have hl9 := hl
  clear hl
  go_wp2_with fail
  have e0 : Below w1.heap.size w1 ((w1.alloc (.cells #[.int .i64 q, .slice ua l.length uc] 26)).alloc (.cells #[.int .i64 xq, .int .i64 xf, .string xp, .int .i64 xd] 28)) := ((Below.refl _ _).alloc (Nat.le_refl _) _).alloc (by simp) _
  have RM := Lib.hid (show RB ((w1.alloc (.cells #[.int .i64 q, .slice ua l.length uc] 26)).alloc (.cells #[.int .i64 xq, .int .i64 xf, .string xp, .int .i64 xd] 28)) w1.heap.size q (.slice ua l.length uc) from (RB.new w1 q (.slice ua l.length uc)).below ((Below.refl (w1.alloc (.cells #[.int .i64 q, .slice ua l.length uc] 26)).heap.size (w1.alloc (.cells #[.int .i64 q, .slice ua l.length uc] 26))).alloc (Nat.le_refl _) (.cells #[.int .i64 xq, .int .i64 xf, .string xp, .int .i64 xd] 28)))
  have SM := Lib.hid (show MBox ((w1.alloc (.cells #[.int .i64 q, .slice ua l.length uc] 26)).alloc (.cells #[.int .i64 xq, .int .i64 xf, .string xp, .int .i64 xd] 28)) (w1.heap.size + 1) 28 (xq, xf, xp, xd) from by
    have h := MBox.new (w1.alloc (.cells #[.int .i64 q, .slice ua l.length uc] 26)) 28 (xq, xf, xp, xd)
    rw [World.size_alloc] at h; exact h)
  have K2 := Lib.hid (K1.out.below e0)
  have B2 := Lib.hid (below_end B1.out e0)
  clear e0 K1 B1
  generalize (w1.alloc (.cells #[.int .i64 q, .slice ua l.length uc] 26)).alloc (.cells #[.int .i64 xq, .int .i64 xf, .string xp, .int .i64 xd] 28) = w2 at RM SM K2 B2 ⊢
  obtain ⟨M, hMM⟩ : ∃ M, w1.heap.size = M := ⟨_, rfl⟩
  rw [hMM] at RM SM ⊢
  clear hMM
  refine (CI.out _ K2.out ((B2.out.cell hlt).trans HM.out)).mono ?_
  rintro e w3 ⟨V, xu, pre, post, rfl, ho, hp, b3⟩
  have KX3 := Lib.hid (part_at ho hp)
  obtain ⟨xa, xc, hxu⟩ := hp.slice
  subst hxu
  have RM3 := Lib.hid (RM.out.below b3)
  have SM3 := Lib.hid (SM.out.below b3)
  have K3 := Lib.hid (K2.out.below b3)
  have B3 := Lib.hid (below_end B2.out b3)
  clear ho hp b3 RM SM K2 B2 CI pre post V
  have e0 := (Below.refl w3.heap.size w3).alloc (Nat.le_refl _) (.cells #[.int .i64 rc, .slice xa L.length xc] 26)
  have RX4 := Lib.hid (RB.new w3 rc (.slice xa L.length xc))
  have RM4 := Lib.hid (RM3.out.below e0)
  have SM4 := Lib.hid (SM3.out.below e0)
  have K4 := Lib.hid (K3.out.below e0)
  have KX4 := Lib.hid (KX3.out.below e0)
  have B4 := Lib.hid (below_end B3.out e0)
  clear e0 RM3 SM3 K3 KX3 B3
  have d0 := RM4.out.c0
  have d1 := RM4.out.c1
  obtain ⟨d2, d3, d4, d5⟩ := SM4.out.cells
  dsimp only at d2 d3 d4 d5
  go_wp2_with fail
  generalize w3.alloc (.cells #[.int .i64 rc, .slice xa L.length xc] 26) = w4 at RX4 RM4 SM4 K4 KX4 B4 d0 d1 d2 d3 d4 d5 ⊢
  obtain ⟨X, hXX⟩ : ∃ X, w3.heap.size = X := ⟨_, rfl⟩
  rw [hXX] at RX4 ⊢
  clear hXX
  refine (CS.out _ K4.out).mono ?_
  rintro e w5 ⟨yu, rfl, ho, b5⟩
  obtain ⟨ya, yc, hxu⟩ := own_slice ho
  subst hxu
  have KY5 := Lib.hid (own_msgs_at ho)
  have RX5 := Lib.hid (RX4.out.below b5)
  have RM5 := Lib.hid (RM4.out.below b5)
  have K5 := Lib.hid (K4.out.below b5)
  have KX5 := Lib.hid (KX4.out.below b5)
  have B5 := Lib.hid (below_end B4.out b5)
  clear ho b5 RX4 RM4 SM4 K4 KX4 B4 CS d0 d1 d2 d3 d4 d5
  go_wp2_with fail
  have e0 := (Below.refl w5.heap.size w5).alloc (Nat.le_refl _) (.cells #[.int .i64 rc, .slice ya L.length yc] 26)
  have RY6 := Lib.hid (RB.new w5 rc (.slice ya L.length yc))
  have RX6 := Lib.hid (RX5.out.below e0)
  have RM6 := Lib.hid (RM5.out.below e0)
  have K6 := Lib.hid (K5.out.below e0)
  have KX6 := Lib.hid (KX5.out.below e0)
  have KY6 := Lib.hid (KY5.out.below e0)
  have B6 := Lib.hid (below_end B5.out e0)
  clear e0 RX5 RM5 K5 KX5 KY5 B5
  generalize w5.alloc (.cells #[.int .i64 rc, .slice ya L.length yc] 26) = w6 at RY6 RX6 RM6 K6 KX6 KY6 B6 ⊢
  obtain ⟨Y, hYY⟩ : ∃ Y, w5.heap.size = Y := ⟨_, rfl⟩
  rw [hYY] at RY6 ⊢
  clear hYY
  go_wp2_with fail
  refine (drawLatest_any (by omega) ((HC.out.below B6.out.block).mono B6.out.size)).mono ?_
  rintro e w6b ⟨q2, u2, l2, n, f, rfl, ho, hs2, hn, hf, b7⟩
  obtain ⟨va, vc, hxu⟩ := own_slice ho
  subst hxu
  have hl2 : l2.length ≤ 1048576 := by have := hs2.1; omega
  have hls2 : ∀ y ∈ l2, y.2.2.1.size ≤ 1048576 := fun y hy => by have := hs2.2 y hy; unfold ShortM at this; omega
  have CL := Lib.hid (fun wx (h : MsgsAt wx (.slice va l2.length vc) l2) h2 => implLatest_any q2 (.slice va l2.length vc) l2 n f m wx hl2 hls2 (by omega) (by omega) h h2)
  have CZ := Lib.hid (fun wx (h : MsgsAt wx (.slice va l2.length vc) l2) => specLatest_any q2 (.slice va l2.length vc) l2 n f wx hl2 hls2 (by omega) (by omega) h)
  have hL2 := latestM_len q2 l2 n f
  obtain ⟨L2, hLL⟩ : ∃ L2, latestM q2 l2 n f = L2 := ⟨_, rfl⟩
  simp only [hLL] at CL CZ hL2
  have CM := Lib.hid (fun u1 u2 wx (h1 : MsgsAt wx u1 L2) (h2 : MsgsAt wx u2 L2) => likeMsgs_any u1 u2 L2 wx (by omega) h1 h2)
  clear hLL hs2 hls2 hL2
  have KU6 := Lib.hid (own_msgs_at ho)
  have RX := Lib.hid (RX6.out.below b7)
  have RY := Lib.hid (RY6.out.below b7)
  have RM := Lib.hid (RM6.out.below b7)
  have KR := Lib.hid (K6.out.below b7)
  have KX := Lib.hid (KX6.out.below b7)
  have KY := Lib.hid (KY6.out.below b7)
  have B7 := Lib.hid (below_end B6.out b7)
  clear ho b7 RX6 RY6 RM6 K6 KX6 KY6 B6
  go_wp2_with fail
  have e0 := (Below.refl w6b.heap.size w6b).alloc (Nat.le_refl _) (.cells #[.int .i64 q2, .slice va l2.length vc] 26)
  have RU := Lib.hid (RB.new w6b q2 (.slice va l2.length vc))
  replace RX := Lib.hid (RX.out.below e0)
  replace RY := Lib.hid (RY.out.below e0)
  replace RM := Lib.hid (RM.out.below e0)
  replace KR := Lib.hid (KR.out.below e0)
  replace KX := Lib.hid (KX.out.below e0)
  replace KY := Lib.hid (KY.out.below e0)
  have KU := Lib.hid (KU6.out.below e0)
  replace B7 := Lib.hid (below_end B7.out e0)
  clear e0 KU6
  generalize w6b.alloc (.cells #[.int .i64 q2, .slice va l2.length vc] 26) = w7 at RU RX RY RM KR KX KY KU B7 ⊢
  obtain ⟨U, hUU⟩ : ∃ U, w6b.heap.size = U := ⟨_, rfl⟩
  rw [hUU] at RU ⊢
  clear hUU
  have e1 : (ok != ok) = false := by simp
  have e2 : (rb != rb) = false := by simp
  refine wp_region_held_drew (S := fun wx => wx.cell? ⟨X, 0, none⟩ = some (.int .i64 rc) ∧ wx.cell? ⟨X, 1, none⟩ = some (.slice xa L.length xc) ∧ wx.cell? ⟨Y, 0, none⟩ = some (.int .i64 rc) ∧ wx.cell? ⟨Y, 1, none⟩ = some (.slice ya L.length yc) ∧ wx.cell? ⟨M, 0, none⟩ = some (.int .i64 q) ∧ wx.cell? ⟨M, 1, none⟩ = some (.slice ua l.length uc) ∧ wx.cell? ⟨U, 0, none⟩ = some (.int .i64 q2) ∧ wx.cell? ⟨U, 1, none⟩ = some (.slice va l2.length vc) ∧ Hid (Below w7.heap.size w7 wx)) (by kernel_rfl) ?_ (fun hHeld => ?_)
  · exact ⟨RX.out.c0, RX.out.c1, RY.out.c0, RY.out.c1, RM.out.c0, RM.out.c1, RU.out.c0, RU.out.c1, Lib.hid (Below.refl _ _).drew⟩
  change wpAnyH _ _ _ _ _ 28 #[false, false, false, false, false, false, false, false, false, false, false, false, false, false, false, false, false, false, false, false, false, false, false, false, false, false, false, false] _ _
  refine wpAnyH_take (i := 0) (v := ?_) rfl (by kernel_rfl) (by kernel_rfl) (by kernel_rfl) (fun _ _ _ h => h) (Or.inl ⟨by rfl, ?_⟩) (by assumption) ?_
  rotate_left
  · intro w hSw; (try dsimp only at hSw); go_simp; try with_reducible rfl
  try simp only [Act.put, List.getElem_toArray, List.getElem_cons_succ, List.getElem_cons_zero, List.setIfInBounds_toArray, List.set_cons_zero, List.set_cons_succ]
  refine wpAnyH_take (i := 1) (v := ?_) rfl (by kernel_rfl) (by kernel_rfl) (by kernel_rfl) (fun _ _ _ h => h) (Or.inl ⟨by rfl, ?_⟩) (by assumption) ?_
  rotate_left
  · intro w hSw; (try dsimp only at hSw); go_simp; try with_reducible rfl
  try simp only [Act.put, List.getElem_toArray, List.getElem_cons_succ, List.getElem_cons_zero, List.setIfInBounds_toArray, List.set_cons_zero, List.set_cons_succ]
  refine wpAnyH_take (i := 2) (v := ?_) rfl (by kernel_rfl) (by kernel_rfl) (by kernel_rfl) (fun _ _ _ h => h) (Or.inl ⟨by rfl, ?_⟩) (by assumption) ?_
  rotate_left
  · intro w hSw; (try dsimp only at hSw); go_simp; try with_reducible rfl
  try simp only [Act.put, List.getElem_toArray, List.getElem_cons_succ, List.getElem_cons_zero, List.setIfInBounds_toArray, List.set_cons_zero, List.set_cons_succ]
  refine wpAnyH_take (i := 3) (v := ?_) rfl (by kernel_rfl) (by kernel_rfl) (by kernel_rfl) (fun _ _ _ h => h) (Or.inl ⟨by rfl, ?_⟩) (by assumption) ?_
  rotate_left
  · intro w hSw; (try dsimp only at hSw); go_simp; try with_reducible rfl
  try simp only [Act.put, List.getElem_toArray, List.getElem_cons_succ, List.getElem_cons_zero, List.setIfInBounds_toArray, List.set_cons_zero, List.set_cons_succ]
  refine wpAnyH_take (i := 4) (v := ?_) rfl (by kernel_rfl) (by kernel_rfl) (by kernel_rfl) (fun _ _ _ h => h) (Or.inl ⟨by rfl, ?_⟩) (by assumption) ?_
  rotate_left
  · intro w hSw; (try dsimp only at hSw); go_simp; try with_reducible rfl
  try simp only [Act.put, List.getElem_toArray, List.getElem_cons_succ, List.getElem_cons_zero, List.setIfInBounds_toArray, List.set_cons_zero, List.set_cons_succ]
  refine wpAnyH_take (i := 5) (v := ?_) rfl (by kernel_rfl) (by kernel_rfl) (by kernel_rfl) (fun _ _ _ h => h) (Or.inl ⟨by rfl, ?_⟩) (by assumption) ?_
  rotate_left
  · intro w hSw; (try dsimp only at hSw); go_simp; try with_reducible rfl
  try simp only [Act.put, List.getElem_toArray, List.getElem_cons_succ, List.getElem_cons_zero, List.setIfInBounds_toArray, List.set_cons_zero, List.set_cons_succ]
  refine wpAnyH_ready (rs := [6]) (by kernel_rfl) (by simp) (AllReadyH.cons rfl (fun K hK => ?_) AllReadyH.nil)
  rw [if_pos (by rfl)]
  go_simp; go_at_call 9; refine (CQ.out _ _ _ (KX.out.below hHeld.2.2.2.2.2.2.2.2.out) (KY.out.below hHeld.2.2.2.2.2.2.2.2.out)).mono ?_; rintro e wa ⟨rfl, hb⟩; go_wp2_with fail
  refine hK.out _ _ ?_ (fun hHeld => ?_)
  · exact ⟨(below_cell hb (World.block_lt_of_cell? _ _ hHeld.1)).trans hHeld.1, (below_cell hb (World.block_lt_of_cell? _ _ hHeld.2.1)).trans hHeld.2.1, (below_cell hb (World.block_lt_of_cell? _ _ hHeld.2.2.1)).trans hHeld.2.2.1, (below_cell hb (World.block_lt_of_cell? _ _ hHeld.2.2.2.1)).trans hHeld.2.2.2.1, (below_cell hb (World.block_lt_of_cell? _ _ hHeld.2.2.2.2.1)).trans hHeld.2.2.2.2.1, (below_cell hb (World.block_lt_of_cell? _ _ hHeld.2.2.2.2.2.1)).trans hHeld.2.2.2.2.2.1, (below_cell hb (World.block_lt_of_cell? _ _ hHeld.2.2.2.2.2.2.1)).trans hHeld.2.2.2.2.2.2.1, (below_cell hb (World.block_lt_of_cell? _ _ hHeld.2.2.2.2.2.2.2.1)).trans hHeld.2.2.2.2.2.2.2.1, Lib.hid (below_end hHeld.2.2.2.2.2.2.2.2.out hb)⟩
  clear hK K
  try simp only [Act.put, List.getElem_toArray, List.getElem_cons_succ, List.getElem_cons_zero, List.setIfInBounds_toArray, List.set_cons_zero, List.set_cons_succ]
  clear hb
  refine wpAnyH_take (i := 7) (v := ?_) rfl (by kernel_rfl) (by kernel_rfl) (by kernel_rfl) (fun _ _ _ h => h) (Or.inl ⟨by rfl, ?_⟩) (by assumption) ?_
  rotate_left
  · intro w hSw; (try dsimp only at hSw); go_simp; try with_reducible rfl
  try simp only [Act.put, List.getElem_toArray, List.getElem_cons_succ, List.getElem_cons_zero, List.setIfInBounds_toArray, List.set_cons_zero, List.set_cons_succ]
  refine wpAnyH_take (i := 8) (v := ?_) rfl (by kernel_rfl) (by kernel_rfl) (by kernel_rfl) (fun _ _ _ h => h) (Or.inl ⟨by rfl, ?_⟩) (by assumption) ?_
  rotate_left
  · intro w hSw; (try dsimp only at hSw); go_simp; try with_reducible rfl
  try simp only [Act.put, List.getElem_toArray, List.getElem_cons_succ, List.getElem_cons_zero, List.setIfInBounds_toArray, List.set_cons_zero, List.set_cons_succ]
  refine wpAnyH_take (i := 9) (v := ?_) rfl (by kernel_rfl) (by kernel_rfl) (by kernel_rfl) (fun _ _ _ h => h) (Or.inl ⟨by rfl, ?_⟩) (by assumption) ?_
  rotate_left
  · intro w hSw; (try dsimp only at hSw); go_simp; try with_reducible rfl
  try simp only [Act.put, List.getElem_toArray, List.getElem_cons_succ, List.getElem_cons_zero, List.setIfInBounds_toArray, List.set_cons_zero, List.set_cons_succ]
  refine wpAnyH_take (i := 10) (v := ?_) rfl (by kernel_rfl) (by kernel_rfl) (by kernel_rfl) (fun _ _ _ h => h) (Or.inl ⟨by rfl, ?_⟩) (by assumption) ?_
  rotate_left
  · intro w hSw; (try dsimp only at hSw); go_simp; try with_reducible rfl
  try simp only [Act.put, List.getElem_toArray, List.getElem_cons_succ, List.getElem_cons_zero, List.setIfInBounds_toArray, List.set_cons_zero, List.set_cons_succ]
  refine wpAnyH_take (i := 12) (v := ?_) rfl (by kernel_rfl) (by kernel_rfl) (by kernel_rfl) (fun _ _ _ h => h) (Or.inl ⟨by rfl, ?_⟩) (by assumption) ?_
  rotate_left
  · intro w hSw; (try dsimp only at hSw); go_simp; try with_reducible rfl
  try simp only [Act.put, List.getElem_toArray, List.getElem_cons_succ, List.getElem_cons_zero, List.setIfInBounds_toArray, List.set_cons_zero, List.set_cons_succ]
  refine wpAnyH_ready (rs := [11]) (by kernel_rfl) (by simp) (AllReadyH.cons rfl (fun K hK => ?_) AllReadyH.nil)
  rw [if_pos (by rfl)]
  go_simp; go_at_call 10; refine (CR.out _ (KR.out.below hHeld.2.2.2.2.2.2.2.2.out) (((below_end B7.out hHeld.2.2.2.2.2.2.2.2.out).cell hlt).trans HM.out)).mono ?_; rintro e wa ⟨rfl, hb⟩; go_wp2_with fail
  refine hK.out _ _ ?_ (fun hHeld => ?_)
  · exact ⟨(below_cell hb (World.block_lt_of_cell? _ _ hHeld.1)).trans hHeld.1, (below_cell hb (World.block_lt_of_cell? _ _ hHeld.2.1)).trans hHeld.2.1, (below_cell hb (World.block_lt_of_cell? _ _ hHeld.2.2.1)).trans hHeld.2.2.1, (below_cell hb (World.block_lt_of_cell? _ _ hHeld.2.2.2.1)).trans hHeld.2.2.2.1, (below_cell hb (World.block_lt_of_cell? _ _ hHeld.2.2.2.2.1)).trans hHeld.2.2.2.2.1, (below_cell hb (World.block_lt_of_cell? _ _ hHeld.2.2.2.2.2.1)).trans hHeld.2.2.2.2.2.1, (below_cell hb (World.block_lt_of_cell? _ _ hHeld.2.2.2.2.2.2.1)).trans hHeld.2.2.2.2.2.2.1, (below_cell hb (World.block_lt_of_cell? _ _ hHeld.2.2.2.2.2.2.2.1)).trans hHeld.2.2.2.2.2.2.2.1, Lib.hid (below_end hHeld.2.2.2.2.2.2.2.2.out hb)⟩
  clear hK K
  try simp only [Act.put, List.getElem_toArray, List.getElem_cons_succ, List.getElem_cons_zero, List.setIfInBounds_toArray, List.set_cons_zero, List.set_cons_succ]
  clear hb
  refine wpAnyH_ready (rs := [13]) (by kernel_rfl) (by simp) (AllReadyH.cons rfl (fun K hK => ?_) AllReadyH.nil)
  rw [if_pos (by rfl)]
  go_simp; go_at_call 11; refine (CT.out _ (KR.out.below hHeld.2.2.2.2.2.2.2.2.out)).mono ?_; rintro e wa ⟨rfl, hb⟩; go_wp2_with fail
  refine hK.out _ _ ?_ (fun hHeld => ?_)
  · exact ⟨(below_cell hb (World.block_lt_of_cell? _ _ hHeld.1)).trans hHeld.1, (below_cell hb (World.block_lt_of_cell? _ _ hHeld.2.1)).trans hHeld.2.1, (below_cell hb (World.block_lt_of_cell? _ _ hHeld.2.2.1)).trans hHeld.2.2.1, (below_cell hb (World.block_lt_of_cell? _ _ hHeld.2.2.2.1)).trans hHeld.2.2.2.1, (below_cell hb (World.block_lt_of_cell? _ _ hHeld.2.2.2.2.1)).trans hHeld.2.2.2.2.1, (below_cell hb (World.block_lt_of_cell? _ _ hHeld.2.2.2.2.2.1)).trans hHeld.2.2.2.2.2.1, (below_cell hb (World.block_lt_of_cell? _ _ hHeld.2.2.2.2.2.2.1)).trans hHeld.2.2.2.2.2.2.1, (below_cell hb (World.block_lt_of_cell? _ _ hHeld.2.2.2.2.2.2.2.1)).trans hHeld.2.2.2.2.2.2.2.1, Lib.hid (below_end hHeld.2.2.2.2.2.2.2.2.out hb)⟩
  clear hK K
  try simp only [Act.put, List.getElem_toArray, List.getElem_cons_succ, List.getElem_cons_zero, List.setIfInBounds_toArray, List.set_cons_zero, List.set_cons_succ]
  clear hb
  refine wpAnyH_take (i := 14) (v := ?_) rfl (by kernel_rfl) (by kernel_rfl) (by kernel_rfl) (fun _ _ _ h => h) (Or.inl ⟨by rfl, ?_⟩) (by assumption) ?_
  rotate_left
  · intro w hSw; (try dsimp only at hSw); go_simp; try with_reducible rfl
  try simp only [Act.put, List.getElem_toArray, List.getElem_cons_succ, List.getElem_cons_zero, List.setIfInBounds_toArray, List.set_cons_zero, List.set_cons_succ]
  refine wpAnyH_take (i := 15) (v := ?_) rfl (by kernel_rfl) (by kernel_rfl) (by kernel_rfl) (fun _ _ _ h => h) (Or.inl ⟨by rfl, ?_⟩) (by assumption) ?_
  rotate_left
  · intro w hSw; (try dsimp only at hSw); go_simp; try with_reducible rfl
  try simp only [Act.put, List.getElem_toArray, List.getElem_cons_succ, List.getElem_cons_zero, List.setIfInBounds_toArray, List.set_cons_zero, List.set_cons_succ]
  refine wpAnyH_take (i := 16) (v := ?_) rfl (by kernel_rfl) (by kernel_rfl) (by kernel_rfl) (fun _ _ _ h => h) (Or.inl ⟨by rfl, ?_⟩) (by assumption) ?_
  rotate_left
  · intro w hSw; (try dsimp only at hSw); go_simp; try with_reducible rfl
  try simp only [Act.put, List.getElem_toArray, List.getElem_cons_succ, List.getElem_cons_zero, List.setIfInBounds_toArray, List.set_cons_zero, List.set_cons_succ]
  refine wpAnyH_take (i := 17) (v := ?_) rfl (by kernel_rfl) (by kernel_rfl) (by kernel_rfl) (fun _ _ _ h => h) (Or.inl ⟨by rfl, ?_⟩) (by assumption) ?_
  rotate_left
  · intro w hSw; (try dsimp only at hSw); go_simp; try with_reducible rfl
  try simp only [Act.put, List.getElem_toArray, List.getElem_cons_succ, List.getElem_cons_zero, List.setIfInBounds_toArray, List.set_cons_zero, List.set_cons_succ]
  refine wpAnyH_take (i := 18) (v := ?_) rfl (by kernel_rfl) (by kernel_rfl) (by kernel_rfl) (fun _ _ _ h => h) (Or.inl ⟨by rfl, ?_⟩) (by assumption) ?_
  rotate_left
  · intro w hSw; (try dsimp only at hSw); go_simp; try with_reducible rfl
  try simp only [Act.put, List.getElem_toArray, List.getElem_cons_succ, List.getElem_cons_zero, List.setIfInBounds_toArray, List.set_cons_zero, List.set_cons_succ]
  refine wpAnyH_take (i := 19) (v := ?_) rfl (by kernel_rfl) (by kernel_rfl) (by kernel_rfl) (fun _ _ _ h => h) (Or.inl ⟨by rfl, ?_⟩) (by assumption) ?_
  rotate_left
  · intro w hSw; (try dsimp only at hSw); go_simp; try with_reducible rfl
  try simp only [Act.put, List.getElem_toArray, List.getElem_cons_succ, List.getElem_cons_zero, List.setIfInBounds_toArray, List.set_cons_zero, List.set_cons_succ]
  refine wpAnyH_take (i := 21) (v := ?_) rfl (by kernel_rfl) (by kernel_rfl) (by kernel_rfl) (fun _ _ _ h => h) (Or.inl ⟨by rfl, ?_⟩) (by assumption) ?_
  rotate_left
  · intro w hSw; (try dsimp only at hSw); go_simp; try with_reducible rfl
  try simp only [Act.put, List.getElem_toArray, List.getElem_cons_succ, List.getElem_cons_zero, List.setIfInBounds_toArray, List.set_cons_zero, List.set_cons_succ]
  refine wpAnyH_take (i := 22) (v := ?_) rfl (by kernel_rfl) (by kernel_rfl) (by kernel_rfl) (fun _ _ _ h => h) (Or.inl ⟨by rfl, ?_⟩) (by assumption) ?_
  rotate_left
  · intro w hSw; (try dsimp only at hSw); go_simp; try with_reducible rfl
  try simp only [Act.put, List.getElem_toArray, List.getElem_cons_succ, List.getElem_cons_zero, List.setIfInBounds_toArray, List.set_cons_zero, List.set_cons_succ]
  refine wpAnyH_take (i := 23) (v := ?_) rfl (by kernel_rfl) (by kernel_rfl) (by kernel_rfl) (fun _ _ _ h => h) (Or.inl ⟨by rfl, ?_⟩) (by assumption) ?_
  rotate_left
  · intro w hSw; (try dsimp only at hSw); go_simp; try with_reducible rfl
  try simp only [Act.put, List.getElem_toArray, List.getElem_cons_succ, List.getElem_cons_zero, List.setIfInBounds_toArray, List.set_cons_zero, List.set_cons_succ]
  refine wpAnyH_ready (rs := [20]) (by kernel_rfl) (by simp) (AllReadyH.cons rfl (fun K hK => ?_) AllReadyH.nil)
  rw [if_pos (by rfl)]
  go_simp; go_at_call 13; refine (CL.out _ (KU.out.below hHeld.2.2.2.2.2.2.2.2.out) (((below_end B7.out hHeld.2.2.2.2.2.2.2.2.out).cell hlt).trans HM.out)).mono ?_; rintro e wa ⟨V, zu, pre, post, rfl, ho, hp, hb⟩; have KZ := Lib.hid (part_at ho hp); obtain ⟨za, zc, hxu⟩ := hp.slice; subst hxu; clear ho hp pre post V; go_wp2_with fail
  refine hK.out _ _ ?_ (fun hHeld => ?_)
  · exact ⟨(below_cell hb (World.block_lt_of_cell? _ _ hHeld.1)).trans hHeld.1, (below_cell hb (World.block_lt_of_cell? _ _ hHeld.2.1)).trans hHeld.2.1, (below_cell hb (World.block_lt_of_cell? _ _ hHeld.2.2.1)).trans hHeld.2.2.1, (below_cell hb (World.block_lt_of_cell? _ _ hHeld.2.2.2.1)).trans hHeld.2.2.2.1, (below_cell hb (World.block_lt_of_cell? _ _ hHeld.2.2.2.2.1)).trans hHeld.2.2.2.2.1, (below_cell hb (World.block_lt_of_cell? _ _ hHeld.2.2.2.2.2.1)).trans hHeld.2.2.2.2.2.1, (below_cell hb (World.block_lt_of_cell? _ _ hHeld.2.2.2.2.2.2.1)).trans hHeld.2.2.2.2.2.2.1, (below_cell hb (World.block_lt_of_cell? _ _ hHeld.2.2.2.2.2.2.2.1)).trans hHeld.2.2.2.2.2.2.2.1, Lib.hid (below_end hHeld.2.2.2.2.2.2.2.2.out hb)⟩
  clear hK K
  try simp only [Act.put, List.getElem_toArray, List.getElem_cons_succ, List.getElem_cons_zero, List.setIfInBounds_toArray, List.set_cons_zero, List.set_cons_succ]
  clear hb
  refine wpAnyH_ready (rs := [24]) (by kernel_rfl) (by simp) (AllReadyH.cons rfl (fun K hK => ?_) AllReadyH.nil)
  rw [if_pos (by rfl)]
  go_simp; go_at_call 14; refine (CZ.out _ (KU.out.below hHeld.2.2.2.2.2.2.2.2.out)).mono ?_; rintro e wa ⟨tu, rfl, ho, hb⟩; have KT := Lib.hid (own_msgs_at ho); obtain ⟨ta, tc, hxu⟩ := own_slice ho; subst hxu; replace KZ := Lib.hid (KZ.out.below hb); clear ho; go_wp2_with fail
  refine hK.out _ _ ?_ (fun hHeld => ?_)
  · exact ⟨(below_cell hb (World.block_lt_of_cell? _ _ hHeld.1)).trans hHeld.1, (below_cell hb (World.block_lt_of_cell? _ _ hHeld.2.1)).trans hHeld.2.1, (below_cell hb (World.block_lt_of_cell? _ _ hHeld.2.2.1)).trans hHeld.2.2.1, (below_cell hb (World.block_lt_of_cell? _ _ hHeld.2.2.2.1)).trans hHeld.2.2.2.1, (below_cell hb (World.block_lt_of_cell? _ _ hHeld.2.2.2.2.1)).trans hHeld.2.2.2.2.1, (below_cell hb (World.block_lt_of_cell? _ _ hHeld.2.2.2.2.2.1)).trans hHeld.2.2.2.2.2.1, (below_cell hb (World.block_lt_of_cell? _ _ hHeld.2.2.2.2.2.2.1)).trans hHeld.2.2.2.2.2.2.1, (below_cell hb (World.block_lt_of_cell? _ _ hHeld.2.2.2.2.2.2.2.1)).trans hHeld.2.2.2.2.2.2.2.1, Lib.hid (below_end hHeld.2.2.2.2.2.2.2.2.out hb)⟩
  clear hK K
  try simp only [Act.put, List.getElem_toArray, List.getElem_cons_succ, List.getElem_cons_zero, List.setIfInBounds_toArray, List.set_cons_zero, List.set_cons_succ]
  clear hb
  refine wpAnyH_ready (rs := [25]) (by kernel_rfl) (by simp) (AllReadyH.cons rfl (fun K hK => ?_) AllReadyH.nil)
  rw [if_pos (by rfl)]
  go_simp; go_at_call 12; refine (CM.out _ _ _ KZ.out KT.out).mono ?_; rintro e w8 ⟨rfl, hb⟩; go_wp2_with fail
  refine hK.out _ _ ?_ (fun hHeld => ?_)
  · exact ⟨(below_cell hb (World.block_lt_of_cell? _ _ hHeld.1)).trans hHeld.1, (below_cell hb (World.block_lt_of_cell? _ _ hHeld.2.1)).trans hHeld.2.1, (below_cell hb (World.block_lt_of_cell? _ _ hHeld.2.2.1)).trans hHeld.2.2.1, (below_cell hb (World.block_lt_of_cell? _ _ hHeld.2.2.2.1)).trans hHeld.2.2.2.1, (below_cell hb (World.block_lt_of_cell? _ _ hHeld.2.2.2.2.1)).trans hHeld.2.2.2.2.1, (below_cell hb (World.block_lt_of_cell? _ _ hHeld.2.2.2.2.2.1)).trans hHeld.2.2.2.2.2.1, (below_cell hb (World.block_lt_of_cell? _ _ hHeld.2.2.2.2.2.2.1)).trans hHeld.2.2.2.2.2.2.1, (below_cell hb (World.block_lt_of_cell? _ _ hHeld.2.2.2.2.2.2.2.1)).trans hHeld.2.2.2.2.2.2.2.1, Lib.hid (below_end hHeld.2.2.2.2.2.2.2.2.out hb)⟩
  clear hK K
  try simp only [Act.put, List.getElem_toArray, List.getElem_cons_succ, List.getElem_cons_zero, List.setIfInBounds_toArray, List.set_cons_zero, List.set_cons_succ]
  clear hb
  refine wpAnyH_take (i := 26) (v := ?_) rfl (by kernel_rfl) (by kernel_rfl) (by kernel_rfl) (fun _ _ _ h => h) (Or.inl ⟨by rfl, ?_⟩) (by assumption) ?_
  rotate_left
  · intro w hSw; (try dsimp only at hSw); go_simp; try with_reducible rfl
  try simp only [Act.put, List.getElem_toArray, List.getElem_cons_succ, List.getElem_cons_zero, List.setIfInBounds_toArray, List.set_cons_zero, List.set_cons_succ]
  refine wpAnyH_take (i := 27) (v := ?_) rfl (by kernel_rfl) (by kernel_rfl) (by kernel_rfl) (fun _ _ _ h => h) (Or.inl ⟨by rfl, ?_⟩) (by assumption) ?_
  rotate_left
  · intro w hSw; (try dsimp only at hSw); go_simp; try with_reducible rfl
  try simp only [Act.put, List.getElem_toArray, List.getElem_cons_succ, List.getElem_cons_zero, List.setIfInBounds_toArray, List.set_cons_zero, List.set_cons_succ]
  refine wpAnyH_done (by kernel_rfl) ?_ _
  have B8 := Lib.hid (below_end B7.out hHeld.2.2.2.2.2.2.2.2.out)
  clear hHeld RX RY RM RU KR KX KY KU KZ KT B7 CR CT CL CZ CM CQ
  go_wp2_with fail
  refine (roll_any a len cap 6 w8 (by omega) (by omega) ((HC.out.below B8.out.block).mono B8.out.size)).mono ?_
  rintro e w9 ⟨rfl, d7, b9, hs9⟩
  have R9 := Lib.hid (show Rolls w8.heap.size a len cap w9 from ⟨d7, ((HC.out.below B8.out.block).mono B8.out.size).below b9.block⟩)
  have B9 := Lib.hid (below_end B8.out b9)
  have hw8 : w.heap.size ≤ w8.heap.size := B8.out.size
  obtain ⟨g, hgg⟩ : ∃ g, w8.heap.size = g := ⟨_, rfl⟩
  rw [hgg] at R9 hw8 ⊢
  clear d7 b9 hs9 B8 hgg
  go_wp2_with fail
  refine (roll_below 5 (by omega) (by omega) R9.out).mono ?_
  rintro e w10 ⟨r, hr, rfl, h10, g10⟩
  have hg10 := h10.lt
  have B10 := Lib.hid (B9.out.grown g10 B9.out.size (fun k e => by cases e; exact hw8))
  obtain ⟨c, hcc⟩ : ∃ c, r + 1 = c := ⟨_, rfl⟩
  have hc1 : 1 ≤ c := by omega
  have hc5 : c ≤ 5 := by omega
  have hcv : 1 + (r : Int) = (c : Int) := by omega
  have hcw : IntKind.i64.wrap (1 + (r : Int)) = (c : Int) := by rw [IntKind.wrap_i64]; omega
  have H10 := Lib.hid h10
  have HCV := Lib.hid hcv
  clear h10 g10 R9 B9 hcc hcv
  go_wp2_with fail
  have e0 := (Below.refl w10.heap.size w10).alloc (Nat.le_refl _) (.cells #[.int .i64 (c : Int), .slice none 0 0] 26)
  have RQ := Lib.hid (RB.new w10 (c : Int) (.slice none 0 0))
  have H11 := Lib.hid (H10.out.after e0)
  have B11 := Lib.hid (below_end B10.out e0)
  have P11 : Hid (RowP (w10.alloc (.cells #[.int .i64 (c : Int), .slice none 0 0] 26)) (g + 1) (.slice none 0 0) []) := Lib.hid ⟨.slice none 0 0, [], [], World.ownsRow_nil _ _ _ _, .inl ⟨rfl, rfl, rfl⟩⟩
  clear e0 H10 B10
  generalize w10.alloc (.cells #[.int .i64 (c : Int), .slice none 0 0] 26) = w11 at RQ H11 B11 P11 ⊢
  obtain ⟨Q, hQQ⟩ : ∃ Q, w10.heap.size = Q := ⟨_, rfl⟩
  rw [hQQ] at RQ hg10 ⊢
  have hgQ : g < Q := hg10
  clear hQQ hg10 hcw HCV hr hl9 hl2 hn hf
  go_loopw [14] (fun i wr => ∃ (k : Nat) (u : Value) (l : List MsgM), k ≤ 9 ∧ i = .int .i64 ((k : Int) + 1) ∧ Hid (RB wr Q (c : Int) u) ∧ Hid (RowP wr (g + 1) u l) ∧ Hid (Rec9 c k l) ∧ Hid (Rolls g a len cap wr) ∧ Hid (Below w.heap.size w wr)) (fun i _ => 11 - (intOf i).toNat)
  case atStart => exact ⟨0, _, [], by omega, rfl, RQ, P11, Rec9.start c, H11, B11⟩
  case round =>
    obtain ⟨k, u9, l9, hk, rfl, HQ, HP, H9, HRo, HB⟩ := hrel
    clear RQ P11 H11 B11
    obtain ⟨oa, oc, hou⟩ : ∃ a c, u9 = .slice a l9.length c := by obtain ⟨a, c, h, _⟩ := HP.out.reads; exact ⟨a, c, h⟩
    subst hou
    have HSZ : Hid (l9.length ≤ 1048576 ∧ ∀ y ∈ l9, y.2.2.1.size ≤ 1048576) := Lib.hid ⟨by have := H9.out.len; omega, fun y hy => by have := (H9.out.good y hy).2; omega⟩
    by_cases hk9 : k < 9
    · have g1 : decide ((k : Int) + 1 ≤ 9) = true := decide_eq_true (by omega)
      have g2 : IntKind.i64.wrap ((k : Int) + 1 + 1) = (k : Int) + 1 + 1 := by rw [IntKind.wrap_i64]; omega
      go_wp2_with fail
      have d0 := HQ.out.c0
      have d1 := HQ.out.c1
      have CT := Lib.hid (topic_any (HRo.out.after (Below.refl _ _).drew))
      refine wp_region_held_drew (S := fun _ => True) (by kernel_rfl) ?_ (fun hHeld => ?_)
      · trivial
      change wpAnyH _ _ _ _ _ 10 #[false, false, false, false, false, false, false, false, false, false] _ _
      refine wpAnyH_take (i := 1) (v := ?_) rfl (by kernel_rfl) (by kernel_rfl) (by kernel_rfl) (fun _ _ _ h => h) (Or.inl ⟨by rfl, ?_⟩) (by assumption) ?_
      rotate_left
      · intro w hSw; (try dsimp only at hSw); go_simp; try with_reducible rfl
      try simp only [Act.put, List.getElem_toArray, List.getElem_cons_succ, List.getElem_cons_zero, List.setIfInBounds_toArray, List.set_cons_zero, List.set_cons_succ]
      refine wpAnyH_take (i := 2) (v := ?_) rfl (by kernel_rfl) (by kernel_rfl) (by kernel_rfl) (fun _ _ _ h => h) (Or.inl ⟨by rfl, ?_⟩) (by assumption) ?_
      rotate_left
      · intro w hSw; (try dsimp only at hSw); go_simp; try with_reducible rfl
      try simp only [Act.put, List.getElem_toArray, List.getElem_cons_succ, List.getElem_cons_zero, List.setIfInBounds_toArray, List.set_cons_zero, List.set_cons_succ]
      refine wpAnyH_ready (rs := [0, 3]) (by kernel_rfl) (by simp) (AllReadyH.cons rfl (fun K hK => ?_) (AllReadyH.cons rfl (fun K hK => ?_) AllReadyH.nil))
      · skip
        rw [if_pos (by rfl)]
        go_simp
        refine hK.out _ _ ?_ (fun hHeld => ?_)
        · trivial
        clear hK K
        try simp only [Act.put, List.getElem_toArray, List.getElem_cons_succ, List.getElem_cons_zero, List.setIfInBounds_toArray, List.set_cons_zero, List.set_cons_succ]
        refine wpAnyH_ready (rs := [3]) (by kernel_rfl) (by simp) (AllReadyH.cons rfl (fun K hK => ?_) AllReadyH.nil)
        rw [if_pos (by rfl)]
        go_simp; go_at_call 17; refine CT.out.mono ?_; rintro e w12 ⟨s, n9, rfl, hn9, hN, hs8, r12, g12⟩; clear d0 d1; go_wp2_with fail
        refine hK.out _ _ ?_ (fun hHeld => ?_)
        · trivial
        clear hK K
        try simp only [Act.put, List.getElem_toArray, List.getElem_cons_succ, List.getElem_cons_zero, List.setIfInBounds_toArray, List.set_cons_zero, List.set_cons_succ]
        have HL12 : Hid (g + 1 ≤ w12.heap.size) := Lib.hid (by have h := r12.lt; omega)
        have B12 := Lib.hid (HB.out.drew.grown g12 (HB.out.drew.size) (fun k e => by cases e; exact hw8))
        have Q12 := Lib.hid (RB.grown (w := wr.drew) HQ.out g12 (by omega))
        have P12 := Lib.hid ((HP.out.below (Below.refl _ _).drew).thrown (Nat.lt_succ_self g) g12)
        have R12 := Lib.hid r12
        obtain ⟨L9, hrc, hl9⟩ := H9.out.step hc1 (by omega) (by omega) (hN.topic (by omega)) hs8
        rw [show ((k + 1 : Nat) : Int) = (k : Int) + 1 by omega] at hrc
        have HL9 := Lib.hid hl9
        have ci := implRecorded_any (c : Int) (.slice oa l9.length oc) l9 ((k : Int) + 1, 0, s, 0) m w12 HSZ.out.1 HSZ.out.2 (show s.size ≤ 1048576 by omega) P12.out.reads ((B12.out.cell hlt).trans HM.out)
        rw [hrc] at ci
        have CI := Lib.hid ci
        clear ci hrc hl9 hN r12 g12
        refine wpAnyH_take (i := 4) (v := ?_) rfl (by kernel_rfl) (by kernel_rfl) (by kernel_rfl) (fun _ _ _ h => h) (Or.inl ⟨by rfl, ?_⟩) (by assumption) ?_
        rotate_left
        · intro w hSw; (try dsimp only at hSw); go_simp; try with_reducible rfl
        try simp only [Act.put, List.getElem_toArray, List.getElem_cons_succ, List.getElem_cons_zero, List.setIfInBounds_toArray, List.set_cons_zero, List.set_cons_succ]
        refine wpAnyH_ready (rs := [5]) (by kernel_rfl) (by simp) (AllReadyH.cons rfl (fun K hK => ?_) AllReadyH.nil)
        rw [if_pos (by rfl)]
        go_simp; go_at_call 6; refine CI.out.mono ?_; rintro e w13 ⟨V, nu, pre, post, rfl, ho, hp, b13⟩; obtain ⟨na, nc, hnu⟩ := hp.slice; subst hnu; have P13 : Hid (RowP w13 (g + 1) (.slice na L9.length nc) L9) := Lib.hid ⟨V, pre, post, own_mono ho (by have h := HL12.out; omega), hp⟩; have Q13 := Lib.hid (Q12.out.below b13); have R13 := Lib.hid (R12.out.after b13); have B13 := Lib.hid (below_end B12.out b13); clear ho hp b13 pre post V; go_wp2_with fail
        refine hK.out _ _ ?_ (fun hHeld => ?_)
        · trivial
        clear hK K
        try simp only [Act.put, List.getElem_toArray, List.getElem_cons_succ, List.getElem_cons_zero, List.setIfInBounds_toArray, List.set_cons_zero, List.set_cons_succ]
        refine wpAnyH_take (i := 6) (v := ?_) rfl (by kernel_rfl) (by kernel_rfl) (by kernel_rfl) (fun _ _ _ h => h) (Or.inl ⟨by rfl, ?_⟩) (by assumption) ?_
        rotate_left
        · intro w hSw; (try dsimp only at hSw); go_simp; try with_reducible rfl
        try simp only [Act.put, List.getElem_toArray, List.getElem_cons_succ, List.getElem_cons_zero, List.setIfInBounds_toArray, List.set_cons_zero, List.set_cons_succ]
        refine wpAnyH_take (i := 7) (v := ?_) rfl (by kernel_rfl) (by kernel_rfl) (by kernel_rfl) (fun _ _ _ h => h) (Or.inl ⟨by rfl, ?_⟩) (by assumption) ?_
        rotate_left
        · intro w hSw; (try dsimp only at hSw); go_simp; try with_reducible rfl
        try simp only [Act.put, List.getElem_toArray, List.getElem_cons_succ, List.getElem_cons_zero, List.setIfInBounds_toArray, List.set_cons_zero, List.set_cons_succ]
        refine wpAnyH_take (i := 8) (v := ?_) rfl (by kernel_rfl) (by kernel_rfl) (by kernel_rfl) (fun _ _ _ h => h) (Or.inl ⟨by rfl, ?_⟩) (by assumption) ?_
        rotate_left
        · intro w hSw; (try dsimp only at hSw); go_simp; try with_reducible rfl
        try simp only [Act.put, List.getElem_toArray, List.getElem_cons_succ, List.getElem_cons_zero, List.setIfInBounds_toArray, List.set_cons_zero, List.set_cons_succ]
        have d0 := Q13.out.c0
        have d1 := Q13.out.c1
        have f0 := Q13.out.fr 0
        have f1 := Q13.out.fr 1
        have HBW := (below_set (B := g + 1) (g := Q) (j := 0) w13 (.int .i64 (c : Int)) (by omega) (by have h := Q13.out.lt; omega)).trans (below_set (B := g + 1) (g := Q) (j := 1) _ (.slice na L9.length nc) (by omega) (by have h := Q13.out.lt; simp; omega))
        have Q14 := Lib.hid ((Q13.out.set0 (c : Int)).set1 (.slice na L9.length nc))
        have P14 := Lib.hid ((P13.out.offR (j := 0) (x := .int .i64 (c : Int)) Q13.out).offR (j := 1) (x := .slice na L9.length nc) (Q13.out.set0 (c : Int)))
        have R14 := Lib.hid (Rolls.far R13.out HBW)
        have B14 := Lib.hid (B13.out.trans (HBW.mono (by omega)))
        clear HBW Q13 P13 R13 B13
        refine wpAnyH_ready (rs := [9]) (by kernel_rfl) (by simp) (AllReadyH.cons rfl (fun K hK => ?_) AllReadyH.nil)
        rw [if_pos (by rfl)]
        go_simp
        refine hK.out _ _ ?_ (fun hHeld => ?_)
        · trivial
        clear hK K
        try simp only [Act.put, List.getElem_toArray, List.getElem_cons_succ, List.getElem_cons_zero, List.setIfInBounds_toArray, List.set_cons_zero, List.set_cons_succ]
        refine wpAnyH_done (by kernel_rfl) ?_ _
        clear hHeld d0 d1 f0 f1
        go_wp2
        go_roundw
        case rel => exact ⟨k + 1, _, L9, by omega, by go_num, Q14, P14, HL9, R14, B14⟩
        case measure => simp [intOf]; omega
      · skip
        rw [if_pos (by rfl)]
        go_simp; go_at_call 17; refine CT.out.mono ?_; rintro e w12 ⟨s, n9, rfl, hn9, hN, hs8, r12, g12⟩; clear d0 d1; go_wp2_with fail
        refine hK.out _ _ ?_ (fun hHeld => ?_)
        · trivial
        clear hK K
        try simp only [Act.put, List.getElem_toArray, List.getElem_cons_succ, List.getElem_cons_zero, List.setIfInBounds_toArray, List.set_cons_zero, List.set_cons_succ]
        have d0 : w12.cell? ⟨Q, 0, none⟩ = some (.int .i64 (c : Int)) := RB.c0 (RB.grown (w := wr.drew) HQ.out g12 (by omega))
        have d1 : w12.cell? ⟨Q, 1, none⟩ = some (.slice oa l9.length oc) := RB.c1 (RB.grown (w := wr.drew) HQ.out g12 (by omega))
        refine wpAnyH_take (i := 4) (v := ?_) rfl (by kernel_rfl) (by kernel_rfl) (by kernel_rfl) (fun _ _ _ h => h) (Or.inl ⟨by rfl, ?_⟩) (by assumption) ?_
        rotate_left
        · intro w hSw; (try dsimp only at hSw); go_simp; try with_reducible rfl
        try simp only [Act.put, List.getElem_toArray, List.getElem_cons_succ, List.getElem_cons_zero, List.setIfInBounds_toArray, List.set_cons_zero, List.set_cons_succ]
        refine wpAnyH_ready (rs := [0]) (by kernel_rfl) (by simp) (AllReadyH.cons rfl (fun K hK => ?_) AllReadyH.nil)
        rw [if_pos (by rfl)]
        go_simp
        refine hK.out _ _ ?_ (fun hHeld => ?_)
        · trivial
        clear hK K
        try simp only [Act.put, List.getElem_toArray, List.getElem_cons_succ, List.getElem_cons_zero, List.setIfInBounds_toArray, List.set_cons_zero, List.set_cons_succ]
        clear d0 d1
        have HL12 : Hid (g + 1 ≤ w12.heap.size) := Lib.hid (by have h := r12.lt; omega)
        have B12 := Lib.hid (HB.out.drew.grown g12 (HB.out.drew.size) (fun k e => by cases e; exact hw8))
        have Q12 := Lib.hid (RB.grown (w := wr.drew) HQ.out g12 (by omega))
        have P12 := Lib.hid ((HP.out.below (Below.refl _ _).drew).thrown (Nat.lt_succ_self g) g12)
        have R12 := Lib.hid r12
        obtain ⟨L9, hrc, hl9⟩ := H9.out.step hc1 (by omega) (by omega) (hN.topic (by omega)) hs8
        rw [show ((k + 1 : Nat) : Int) = (k : Int) + 1 by omega] at hrc
        have HL9 := Lib.hid hl9
        have ci := implRecorded_any (c : Int) (.slice oa l9.length oc) l9 ((k : Int) + 1, 0, s, 0) m w12 HSZ.out.1 HSZ.out.2 (show s.size ≤ 1048576 by omega) P12.out.reads ((B12.out.cell hlt).trans HM.out)
        rw [hrc] at ci
        have CI := Lib.hid ci
        clear ci hrc hl9 hN r12 g12
        refine wpAnyH_ready (rs := [5]) (by kernel_rfl) (by simp) (AllReadyH.cons rfl (fun K hK => ?_) AllReadyH.nil)
        rw [if_pos (by rfl)]
        go_simp; go_at_call 6; refine CI.out.mono ?_; rintro e w13 ⟨V, nu, pre, post, rfl, ho, hp, b13⟩; obtain ⟨na, nc, hnu⟩ := hp.slice; subst hnu; have P13 : Hid (RowP w13 (g + 1) (.slice na L9.length nc) L9) := Lib.hid ⟨V, pre, post, own_mono ho (by have h := HL12.out; omega), hp⟩; have Q13 := Lib.hid (Q12.out.below b13); have R13 := Lib.hid (R12.out.after b13); have B13 := Lib.hid (below_end B12.out b13); clear ho hp b13 pre post V; go_wp2_with fail
        refine hK.out _ _ ?_ (fun hHeld => ?_)
        · trivial
        clear hK K
        try simp only [Act.put, List.getElem_toArray, List.getElem_cons_succ, List.getElem_cons_zero, List.setIfInBounds_toArray, List.set_cons_zero, List.set_cons_succ]
        refine wpAnyH_take (i := 6) (v := ?_) rfl (by kernel_rfl) (by kernel_rfl) (by kernel_rfl) (fun _ _ _ h => h) (Or.inl ⟨by rfl, ?_⟩) (by assumption) ?_
        rotate_left
        · intro w hSw; (try dsimp only at hSw); go_simp; try with_reducible rfl
        try simp only [Act.put, List.getElem_toArray, List.getElem_cons_succ, List.getElem_cons_zero, List.setIfInBounds_toArray, List.set_cons_zero, List.set_cons_succ]
        refine wpAnyH_take (i := 7) (v := ?_) rfl (by kernel_rfl) (by kernel_rfl) (by kernel_rfl) (fun _ _ _ h => h) (Or.inl ⟨by rfl, ?_⟩) (by assumption) ?_
        rotate_left
        · intro w hSw; (try dsimp only at hSw); go_simp; try with_reducible rfl
        try simp only [Act.put, List.getElem_toArray, List.getElem_cons_succ, List.getElem_cons_zero, List.setIfInBounds_toArray, List.set_cons_zero, List.set_cons_succ]
        refine wpAnyH_take (i := 8) (v := ?_) rfl (by kernel_rfl) (by kernel_rfl) (by kernel_rfl) (fun _ _ _ h => h) (Or.inl ⟨by rfl, ?_⟩) (by assumption) ?_
        rotate_left
        · intro w hSw; (try dsimp only at hSw); go_simp; try with_reducible rfl
        try simp only [Act.put, List.getElem_toArray, List.getElem_cons_succ, List.getElem_cons_zero, List.setIfInBounds_toArray, List.set_cons_zero, List.set_cons_succ]
        have d0 := Q13.out.c0
        have d1 := Q13.out.c1
        have f0 := Q13.out.fr 0
        have f1 := Q13.out.fr 1
        have HBW := (below_set (B := g + 1) (g := Q) (j := 0) w13 (.int .i64 (c : Int)) (by omega) (by have h := Q13.out.lt; omega)).trans (below_set (B := g + 1) (g := Q) (j := 1) _ (.slice na L9.length nc) (by omega) (by have h := Q13.out.lt; simp; omega))
        have Q14 := Lib.hid ((Q13.out.set0 (c : Int)).set1 (.slice na L9.length nc))
        have P14 := Lib.hid ((P13.out.offR (j := 0) (x := .int .i64 (c : Int)) Q13.out).offR (j := 1) (x := .slice na L9.length nc) (Q13.out.set0 (c : Int)))
        have R14 := Lib.hid (Rolls.far R13.out HBW)
        have B14 := Lib.hid (B13.out.trans (HBW.mono (by omega)))
        clear HBW Q13 P13 R13 B13
        refine wpAnyH_ready (rs := [9]) (by kernel_rfl) (by simp) (AllReadyH.cons rfl (fun K hK => ?_) AllReadyH.nil)
        rw [if_pos (by rfl)]
        go_simp
        refine hK.out _ _ ?_ (fun hHeld => ?_)
        · trivial
        clear hK K
        try simp only [Act.put, List.getElem_toArray, List.getElem_cons_succ, List.getElem_cons_zero, List.setIfInBounds_toArray, List.set_cons_zero, List.set_cons_succ]
        refine wpAnyH_done (by kernel_rfl) ?_ _
        clear hHeld d0 d1 f0 f1
        go_wp2
        go_roundw
        case rel => exact ⟨k + 1, _, L9, by omega, by go_num, Q14, P14, HL9, R14, B14⟩
        case measure => simp [intOf]; omega
    · obtain rfl : k = 9 := by omega
      obtain ⟨hlat, hlc, hseq⟩ := H9.out.done hc5
      have d0 := HQ.out.c0
      have d1 := HQ.out.c1
      have ci := implLatest_any (c : Int) (.slice oa l9.length oc) l9 9 ⟨#[35]⟩ m wr HSZ.out.1 HSZ.out.2 (by decide) (by omega) HP.out.reads ((HB.out.cell hlt).trans HM.out)
      rw [hlat] at ci
      have CI := Lib.hid ci
      have HSQ := Lib.hid hseq
      have HLC := Lib.hid hlc
      have HLL := HSZ.out.1
      clear ci hlat hseq hlc
      go_wp2_with fail
      refine CI.out.mono ?_
      rintro e w13 ⟨V, nu, pre, post, rfl, ho, hp, b13⟩
      have K13 := Lib.hid (part_at ho hp)
      obtain ⟨na, nc, hnu⟩ := hp.slice
      subst hnu
      have Q13 := Lib.hid (HQ.out.below b13)
      have B13 := Lib.hid (below_end HB.out b13)
      clear ho hp b13 pre post V d0 d1 CI HQ HP H9 HRo HB
      go_wp2_with fail
      go_loopw [16] (fun i wx => ∃ k : Nat, k ≤ l9.length ∧ i = .int .i64 k ∧ Hid (∃ d, wx = w13.drewN d)) (fun i _ => l9.length - (intOf i).toNat)
      case atStart => exact ⟨0, Nat.zero_le _, rfl, ⟨0, rfl⟩⟩
      case round =>
        obtain ⟨k, hkl, rfl, HD⟩ := hrel
        obtain ⟨dd, rfl⟩ := HD.out
        have KX := Lib.hid (K13.out.below (below_drewN (Below.refl w13.heap.size w13) dd))
        have QX := Lib.hid (Q13.out.below (below_drewN (Below.refl w13.heap.size w13) dd))
        have HD2 := Lib.hid (show ∃ d, (w13.drewN dd).drew = w13.drewN d from ⟨dd + 1, rfl⟩)
        have BX := Lib.hid (below_end B13.out (below_drewN (Below.refl w13.heap.size w13) dd))
        generalize w13.drewN dd = wx at KX QX BX HD2 ⊢
        clear HD
        by_cases hlt9 : k < l9.length
        · obtain ⟨b, o, rfl, hin⟩ : ∃ b o, na = some ⟨b, o, none⟩ ∧ MsgsIn wx b o l9 := by
            obtain ⟨a', c', he, _, _, h⟩ := KX.out
            cases he
            rcases h with h | h
            · subst h; simp at hlt9
            · exact h
          have p0 := (hin k hlt9).1
          rw [HSQ.out k hlt9] at p0
          have d0 := QX.out.c0
          have g3 : IntKind.i64.wrap (10 - (c : Int)) = 10 - (c : Int) := by rw [IntKind.wrap_i64]; omega
          obtain ⟨y, hy⟩ : ∃ y, 10 - (c : Int) + (k : Int) = y := ⟨_, rfl⟩
          rw [hy] at p0
          have g4 : IntKind.i64.wrap (10 - (c : Int) + (k : Int)) = y := by rw [IntKind.wrap_i64]; omega
          have g5 : (y != y) = false := by simp
          have g6 : (y != 10 - (c : Int) + (k : Int)) = false := by rw [hy]; simp
          have HY := Lib.hid hy
          clear hin hy
          go_wp2_with fail
          refine wp_region_held_drew (S := fun wy => wy.cell? ⟨b, o + k * 4, none⟩ = some (.int .i64 y) ∧ wy.cell? ⟨Q, 0, none⟩ = some (.int .i64 (c : Int))) (by kernel_rfl) ?_ (fun hHeld => ?_)
          · exact ⟨p0, d0⟩
          change wpAnyH _ _ _ _ _ 11 #[false, false, false, false, false, false, false, false, false, false, false] _ _
          clear p0 d0
          refine wpAnyH_take (i := 0) (v := ?_) rfl (by kernel_rfl) (by kernel_rfl) (by kernel_rfl) (fun _ _ _ h => h) (Or.inl ⟨by rfl, ?_⟩) (by assumption) ?_
          rotate_left
          · intro w hSw; (try dsimp only at hSw); go_simp; try with_reducible rfl
          try simp only [Act.put, List.getElem_toArray, List.getElem_cons_succ, List.getElem_cons_zero, List.setIfInBounds_toArray, List.set_cons_zero, List.set_cons_succ]
          refine wpAnyH_take (i := 1) (v := ?_) rfl (by kernel_rfl) (by kernel_rfl) (by kernel_rfl) (fun _ _ _ h => h) (Or.inl ⟨by rfl, ?_⟩) (by assumption) ?_
          rotate_left
          · intro w hSw; (try dsimp only at hSw); go_simp; try with_reducible rfl
          try simp only [Act.put, List.getElem_toArray, List.getElem_cons_succ, List.getElem_cons_zero, List.setIfInBounds_toArray, List.set_cons_zero, List.set_cons_succ]
          refine wpAnyH_take (i := 2) (v := ?_) rfl (by kernel_rfl) (by kernel_rfl) (by kernel_rfl) (fun _ _ _ h => h) (Or.inl ⟨by rfl, ?_⟩) (by assumption) ?_
          rotate_left
          · intro w hSw; (try dsimp only at hSw); go_simp; try with_reducible rfl
          try simp only [Act.put, List.getElem_toArray, List.getElem_cons_succ, List.getElem_cons_zero, List.setIfInBounds_toArray, List.set_cons_zero, List.set_cons_succ]
          refine wpAnyH_take (i := 3) (v := ?_) rfl (by kernel_rfl) (by kernel_rfl) (by kernel_rfl) (fun _ _ _ h => h) (Or.inl ⟨by rfl, ?_⟩) (by assumption) ?_
          rotate_left
          · intro w hSw; (try dsimp only at hSw); go_simp; try with_reducible rfl
          try simp only [Act.put, List.getElem_toArray, List.getElem_cons_succ, List.getElem_cons_zero, List.setIfInBounds_toArray, List.set_cons_zero, List.set_cons_succ]
          refine wpAnyH_take (i := 4) (v := ?_) rfl (by kernel_rfl) (by kernel_rfl) (by kernel_rfl) (fun _ _ _ h => h) (Or.inl ⟨by rfl, ?_⟩) (by assumption) ?_
          rotate_left
          · intro w hSw; (try dsimp only at hSw); go_simp; try with_reducible rfl
          try simp only [Act.put, List.getElem_toArray, List.getElem_cons_succ, List.getElem_cons_zero, List.setIfInBounds_toArray, List.set_cons_zero, List.set_cons_succ]
          refine wpAnyH_take (i := 5) (v := ?_) rfl (by kernel_rfl) (by kernel_rfl) (by kernel_rfl) (fun _ _ _ h => h) (Or.inl ⟨by rfl, ?_⟩) (by assumption) ?_
          rotate_left
          · intro w hSw; (try dsimp only at hSw); go_simp; try with_reducible rfl
          try simp only [Act.put, List.getElem_toArray, List.getElem_cons_succ, List.getElem_cons_zero, List.setIfInBounds_toArray, List.set_cons_zero, List.set_cons_succ]
          refine wpAnyH_take (i := 6) (v := ?_) rfl (by kernel_rfl) (by kernel_rfl) (by kernel_rfl) (fun _ _ _ h => h) (Or.inl ⟨by rfl, ?_⟩) (by assumption) ?_
          rotate_left
          · intro w hSw; (try dsimp only at hSw); go_simp; try with_reducible rfl
          try simp only [Act.put, List.getElem_toArray, List.getElem_cons_succ, List.getElem_cons_zero, List.setIfInBounds_toArray, List.set_cons_zero, List.set_cons_succ]
          refine wpAnyH_take (i := 7) (v := ?_) rfl (by kernel_rfl) (by kernel_rfl) (by kernel_rfl) (fun _ _ _ h => h) (Or.inl ⟨by rfl, ?_⟩) (by assumption) ?_
          rotate_left
          · intro w hSw; (try dsimp only at hSw); go_simp; try with_reducible rfl
          try simp only [Act.put, List.getElem_toArray, List.getElem_cons_succ, List.getElem_cons_zero, List.setIfInBounds_toArray, List.set_cons_zero, List.set_cons_succ]
          refine wpAnyH_take (i := 8) (v := ?_) rfl (by kernel_rfl) (by kernel_rfl) (by kernel_rfl) (fun _ _ _ h => h) (Or.inl ⟨by rfl, ?_⟩) (by assumption) ?_
          rotate_left
          · intro w hSw; (try dsimp only at hSw); go_simp; try with_reducible rfl
          try simp only [Act.put, List.getElem_toArray, List.getElem_cons_succ, List.getElem_cons_zero, List.setIfInBounds_toArray, List.set_cons_zero, List.set_cons_succ]
          refine wpAnyH_take (i := 9) (v := ?_) rfl (by kernel_rfl) (by kernel_rfl) (by kernel_rfl) (fun _ _ _ h => h) (Or.inl ⟨by rfl, ?_⟩) (by assumption) ?_
          rotate_left
          · intro w hSw; (try dsimp only at hSw); go_simp; try with_reducible rfl
          try simp only [Act.put, List.getElem_toArray, List.getElem_cons_succ, List.getElem_cons_zero, List.setIfInBounds_toArray, List.set_cons_zero, List.set_cons_succ]
          refine wpAnyH_take (i := 10) (v := ?_) rfl (by kernel_rfl) (by kernel_rfl) (by kernel_rfl) (fun _ _ _ h => h) (Or.inl ⟨by rfl, ?_⟩) (by assumption) ?_
          rotate_left
          · intro w hSw; (try dsimp only at hSw); go_simp; try with_reducible rfl
          try simp only [Act.put, List.getElem_toArray, List.getElem_cons_succ, List.getElem_cons_zero, List.setIfInBounds_toArray, List.set_cons_zero, List.set_cons_succ]
          refine wpAnyH_done (by kernel_rfl) ?_ _
          clear hHeld
          go_wp2
          go_roundw
          case rel => exact ⟨k + 1, by omega, by go_num, HD2⟩
          case measure => simp [intOf]; omega
        · obtain rfl : k = l9.length := by omega
          have d0 := QX.out.c0
          have g3 : (((l9.length : Nat) : Int) == (c : Int)) = true := by rw [HLC.out]; simp
          have g4 : decide ((0 : Int) < (c : Int)) = true := decide_eq_true (by omega)
          have g5 : decide (0 < c) = true := decide_eq_true (by omega)
          go_wp2
          go_ret
          exact ⟨ret_bool (by simp [hc1]), BX.out⟩

set_option maxRecDepth 100000 in
theorem contract (H : Type) (enc : TypeId × Value → H) (W : World) (base : Nat) (args : Array Value) (ds gs : List (DataW H)) (before : List MemPlace)
    (hval : ∀ (j : Nat) t v, Tryd.f3.params[j]? = some t → args[j]? = some v → Value.okWide Tryd.prog W .any base t v)
    (hW : DataW.Whole enc Tryd.prog Tryd.f3.params.toList Rows.fnRingsSpec.vars false W args.toList ds gs before) (hsh : W.ShapedOpen Tryd.prog) :
    Calls Tryd.prog 3 args W fun e W' => ∃ v, e = .returned v ∧ Rows.fnRingsSpec.post enc Tryd.prog Tryd.f3 false true false false W args v W' := by
  have hW' := hW
  obtain ⟨p, q, hA0, hV, rfl, hfz, hnd⟩ := hW
  have hA : DataW.TrodAll enc Tryd.prog W 0 (fun _ => true) true Tryd.f3.params.toList args.toList ds p := hA0
  rw [Tryd.params3] at hA hval
  obtain ⟨v0, vs0, d0, ds0, p0, q0, hargs, rfl, rfl, h0, r0⟩ := trodAll_cons hA
  obtain ⟨rfl, rfl, rfl⟩ := trodAll_nil r0
  obtain rfl : args = #[v0] := by cases args; simp_all
  obtain ⟨rfl, rfl⟩ := trodVars_none hV
  obtain ⟨a0, len0, cap0, rfl⟩ := okWide_slice Tryd.underlying22 (hval 0 22 v0 rfl rfl)
  have k0 := h0
  have lt0 : ∀ x ∈ p0, x.block < W.heap.size := by obtain ⟨m, hm⟩ := k0; exact DataW.trod_lt m _ _ _ hm
  have w0 : CodeAt W.heap.size a0 len0 W := by
    obtain ⟨fuel, hf⟩ := h0
    rcases open_ints Tryd.underlying22 Tryd.underlying5 (by kernel_rfl) hf with ⟨hcs, _⟩ | ⟨x, l, c, zs, hcs, _, hl, hm, hz, _, hcell, hwz⟩
    · simp [Value.cells] at hcs
      obtain ⟨rfl, rfl, rfl⟩ := hcs
      exact .inl rfl
    · simp [Value.cells] at hcs
      obtain ⟨rfl, rfl, rfl⟩ := hcs
      exact CodeAt.of_ints hl (by simpa using hz) hcell hwz
  clear hA0
  simp only [List.append_nil] at hW'
  obtain ⟨m, hm⟩ := maxLen_cell hsh
  refine (law W a0 len0 cap0 w0 m hm).mono fun e W' ⟨he, hg⟩ => ?_
  subst he
  exact ⟨_, rfl, _, _, _, [], _, [], hW', trodAll_cons_mk (shut_bool Tryd.underlying4 _) trodAll_mk0, trodAll_cons_mk (Below.trod laidOut (by kernel_rfl) (of_decide_eq_true (by kernel_rfl)) k0 hg lt0) (trodAll_mk0), rfl, hg.frame _, fun h => by cases h⟩

theorem reads (os : Os) {H : Type} (enc : TypeId × Value → H) : ∃ places, DataW.whole enc Tryd.prog ((World.laidAll Tryd.prog os Rows.fnRingsRow.laid).forCall (fun _ _ => 0) ⟨#[], #[(.slice none 0 0 : Value)], []⟩).memory Tryd.f3.params.toList Rows.fnRingsSpec.vars false (#[(.slice none 0 0 : Value)] : Array Value).toList 8 = some ([.nil], [], places) :=
  ⟨[], by kernel_rfl⟩

theorem laid_met (os : Os) : laidMetH Tryd.prog Rows.fnRingsRow.laid ((World.laidAll Tryd.prog os Rows.fnRingsRow.laid).forCall (fun _ _ => 0) ⟨#[], #[(.slice none 0 0 : Value)], []⟩).memory := by
  rw [MakeChecks.laidMetH_plain _ _ _ (by kernel_rfl)]
  exact laidMet_laidAll _ (by kernel_rfl) (by kernel_rfl)

set_option maxRecDepth 100000 in
theorem lifted (os : Os) (started : os.Started) (H : Type) (enc : TypeId × Value → H) (F : Stop.Interp) :
    ReturnsInHanded {} Tryd.checked os 3 .any ((OpenSpec.ofChange Rows.fnRingsSpec).preRow enc Tryd.prog Tryd.f3 Rows.fnRingsRow.domain false Rows.fnRingsRow.laid) (((OpenSpec.ofChange Rows.fnRingsSpec).at F).post enc Tryd.prog Tryd.f3 false true false false) := by
  obtain ⟨places, hx⟩ := reads os enc
  refine returnsInHanded_of_row (C := Tryd.checked) (s := OpenSpec.ofChange Rows.fnRingsSpec) own started (by kernel_rfl) Tryd.func3
    (witness_row_at (enc := enc) (C := Tryd.checked) false (World.laidAll Tryd.prog os Rows.fnRingsRow.laid) #[(.slice none 0 0 : Value)] (World.laidAll_os _ _ _) (by kernel_rfl) (by kernel_rfl) (by kernel_rfl)
      (OpenSpec.preRow_of_cond 8 hx (by kernel_rfl) (fun k hk => by cases hk) (by kernel_rfl) (laid_met os))) ?_
  intro W base args ds gs before hval hW _ _ _ _ hsh _
  exact contract H enc W base args ds gs before hval hW hsh

theorem said : Rows.FnRingsSaid :=
  OpenClaim.holds_of_cond 3 Tryd.f3 rfl rfl rfl rfl rfl rfl rfl ⟨rfl, rfl, rfl, rfl, rfl⟩ rfl rfl rfl rfl rfl (by kernel_rfl) Tryd.func3 (by kernel_rfl)
    (of_decide_eq_true (by kernel_rfl)) (by unfold Func.isWrapper; first | (rw [if_pos (by decide +kernel)]; kernel_rfl) | (rw [if_neg (by decide +kernel)]; exact ⟨rfl, rfl⟩))
    (fun os started H enc _ F => by rw [OpenClaim.pre_eq_preRow]; exact lifted os started H enc F)

theorem plain (f : FuncId) (fn : Func) (hf : Tryd.pinned.checked.prog.funcNamed Tryd.f3.name = some f) (hfn : Tryd.pinned.checked.prog.funcs[f]? = some fn) :
    false = Tryd.pinned.checked.prog.looks [] ∧ ∀ (j : Nat) t, fn.params[j]? = some t → Tryd.pinned.checked.prog.wantsStandIn t = false := by
  obtain rfl : f = 3 := Option.some.inj ((show Tryd.prog.funcNamed Tryd.f3.name = some 3 by kernel_rfl).symm.trans hf) |>.symm
  obtain rfl : fn = Tryd.f3 := (Option.some.inj (Tryd.func3.symm.trans hfn)).symm
  refine ⟨by kernel_rfl, fun j t ht => ?_⟩
  rw [Tryd.params3] at ht
  have hm := Array.mem_of_getElem? ht
  have hall : (Tryd.f3.params.all fun u => !Tryd.prog.wantsStandIn u) = true := by kernel_rfl
  rw [Tryd.params3] at hall
  rw [Array.all_eq_true_iff_forall_mem] at hall
  have := hall t hm
  exact (show Tryd.prog.wantsStandIn t = false by simpa using this)

theorem card : Rows.FnRingsCardSaid :=
  Claim7.holds_tied_plain_at .later [] _ _ _ _ said (fun _ h => by cases h) (by kernel_rfl) (fun _ h => by cases h) fnRings_row_tie rfl ⟨rfl, rfl⟩ (by kernel_rfl) rfl plain (by kernel_rfl)
end Go.Proofs.YtiholijkijdlmaaDoor.lawFnRings
