/- The law FnTaken holds at every argument: for every input it returns true and leaves the input as it was. -/
import Derived.Test.YtfkikdoecoobgaaDoorZB4
import Derived.Test.YtfkikdoecoobgaaDoorZB1
import Derived.Test.YtfkikdoecoobgaaDoorZDrawTB
import Derived.Test.YtfkikdoecoobgaaDoorZB3
import Derived.Test.YtfkikdoecoobgaaDoorZITake
import Derived.Test.YtfkikdoecoobgaaDoorZB5
import Derived.Test.YtfkikdoecoobgaaDoorZB2
import Derived.Test.YtfkikdoecoobgaaDoorZSTake
set_option linter.unusedSimpArgs false
set_option linter.unusedVariables false
namespace Go.Proofs.YtfkikdoecoobgaaDoor.lawFnTaken
open Go.ChangeShapes Go.WideShapes Go.ChangeAt Go.RowKit Go.WideMaps Go.WideElems
open Go.ChangeMaps (open_string shut_string)

/-- A message in block F. -/
def MAt (w : World) (F : Nat) (x : MsgM) : Prop := w.heap[F]? = some (.cells #[.int .i64 x.1, .int .i64 x.2.1, .string x.2.2.1, .int .i64 x.2.2.2] 29 (0, 0))
theorem MAt.below {w w' : World} {F : Nat} {x : MsgM} (h : MAt w F x) (hb : Below w.heap.size w w') : MAt w' F x := (hb.block _ (Array.getElem?_eq_some_iff.1 h).1).trans h
theorem MAt.grown {w w' : World} {F g : Nat} {x : MsgM} (h : MAt w F x) (hg : w.grownBy w' (some g)) (hne : F ≠ g) : MAt w' F x := (hg.block _ (Array.getElem?_eq_some_iff.1 h).1 (fun e => hne (by cases e; rfl))).trans h
theorem RowP.offB {w : World} {B M : Nat} {u : Value} {l : List MsgM} {cs ds : Array Value} (h : RowP w B u l) (hx : w.heap[M]? = some (.cells cs 26 (0, 0))) : RowP (w.setRow M ds) B u l := by
  obtain ⟨V, pre, post, h1, h2⟩ := h
  exact ⟨V, pre, post, own_kept1 h1 (grown_setRow _ _ _) (own_off h1 hx), h2⟩
theorem cell_keep {bk o : Nat} {v : Value} {wa wb : World} (h : wa.cell? ⟨bk, o, none⟩ = some v) (hb : Below wa.heap.size wa wb) : wb.cell? ⟨bk, o, none⟩ = some v := (below_cell hb (World.block_lt_of_cell? _ _ h)).trans h
theorem RowP.keptB {w w' : World} {B M : Nat} {u : Value} {l : List MsgM} {b : BoxM} {v : Value} (h : RowP w B u l) (hx : BBox w M 26 b v) (hg : w.grownBy w' (some M)) : RowP w' B u l := by
  obtain ⟨V, pre, post, h1, h2⟩ := h
  exact ⟨V, pre, post, own_kept1 h1 hg (own_off h1 hx), h2⟩
theorem grown_of_below {w w' : World} (h : Below w.heap.size w w') (row : Option Nat) : w.grownBy w' row := ⟨h.os, h.tape, h.output, h.size, fun k hk _ => h.block k hk⟩
theorem RowP.whole {w : World} {B B0 : Nat} {u : Value} {l : List MsgM} (h : MOwn w B0 u l) (hB : B ≤ B0) : RowP w B u l := RowP.of (pre := []) (post := []) (by rw [List.nil_append, List.append_nil]; exact h) (PartOf.whole h) hB
theorem msg_neq_same (x : MsgM) (w : World) : Sem.run Tryd.prog (binOp .neq 29 (magg x) (magg x)) w = .ok (.bool false) w := by
  obtain ⟨q, f, s, d⟩ := x
  go_simp
theorem msg_eq_same (x : MsgM) (w : World) : Sem.run Tryd.prog (binOp .eql 29 (magg x) (magg x)) w = .ok (.bool true) w := by
  obtain ⟨q, f, s, d⟩ := x
  go_simp

set_option maxRecDepth 100000 in
set_option maxHeartbeats 12800000 in
theorem law (w : World) (a : Option Addr) (len cap : Nat) (hc : CodeAt w.heap.size a len w) (m : Int) (hm : w.cell? ⟨0, 0, none⟩ = some (.int .i64 m)) :
    Calls Tryd.prog 3 #[.slice a len cap] w fun e w' => e = .returned (.bool true) ∧ Below w.heap.size w w' := by
  have HM := Lib.hid hm
  have hlt : 0 < w.heap.size := World.block_lt_of_cell? _ _ hm
  have HC := Lib.hid hc
  have HMX := Lib.hid (fun wx (h : Below w.heap.size w wx) => (h.cell hlt).trans HM.out)
  have HCX := Lib.hid (fun wx (h : Below w.heap.size w wx) => (HC.out.below h.block).mono h.size)
  clear hm hc
  have cb := big_any a len cap w
  by_cases hb : 4096 < len
  · rw [decide_eq_true hb] at cb
    go_enter Tryd.func3, Tryd.ntmps3
    go_wp2_with fail
    refine cb.mono ?_
    rintro e w1 ⟨rfl, rfl⟩
    go_wp2
    go_ret
    exact ⟨rfl, Below.refl _ _⟩
  rw [decide_eq_false hb] at cb
  have hlen : len ≤ 4096 := by omega
  go_enter Tryd.func3, Tryd.ntmps3
  go_wp2_with fail
  refine cb.mono ?_
  rintro e w0 ⟨rfl, rfl⟩
  clear cb hb
  -- region 3: b
  go_wp2_with fail
  refine (drawTaken_any hlen HC.out).mono ?_
  rintro e v1 ⟨bq, uq, rfl, ho, hs, hb⟩
  obtain ⟨uqa, uqc, hu⟩ := own_slice ho
  subst hu
  have HSbq := Lib.hid hs
  have Rbq_v := RowP.whole ho (B := w.heap.size) (Nat.le_refl _)
  have Bv := hb
  clear ho hs hb
  go_upto_region 4 with (fail)
  have hal : Below v1.heap.size v1 (v1.alloc (.cells (bcells bq (.slice uqa bq.q.length uqc)) 26)) := (Below.refl _ _).alloc (Nat.le_refl _) _
  have Xbq_1 := BBox.new v1 26 bq (.slice uqa bq.q.length uqc)
  have Rbq_1 := Rbq_v.below hal
  have B1 := below_end Bv hal
  have gGQ : w.heap.size ≤ v1.heap.size := Bv.size
  generalize v1.alloc (.cells (bcells bq (.slice uqa bq.q.length uqc)) 26) = w1 at Xbq_1 Rbq_1 B1 ⊢
  obtain ⟨GQ, hGQ⟩ : ∃ G, v1.heap.size = G := ⟨_, rfl⟩
  rw [hGQ] at Xbq_1 gGQ ⊢
  clear hGQ hal Bv Rbq_v
  obtain ⟨hq1, hq2⟩ := ShortQ.small HSbq.out (by omega)
  have CI := Lib.hid (fun wx (h : MsgsAt wx (.slice uqa bq.q.length uqc) bq.q) hm => implTaken_any bq (.slice uqa bq.q.length uqc) m wx hq1 hq2 h hm)
  have CS := Lib.hid (fun wx (h : MsgsAt wx (.slice uqa bq.q.length uqc) bq.q) => specTaken_any bq (.slice uqa bq.q.length uqc) wx hq1 hq2 h)
  have CB := Lib.hid (fun wx (h : MsgsAt wx (.slice uqa bq.q.length uqc) bq.q) => specBoxOk_any bq (.slice uqa bq.q.length uqc) wx hq2 h)
  have HF := Lib.hid (fun h => takeM_first (b := bq) h)
  have HBAD := Lib.hid (fun h => takeM_bad (b := bq) h)
  have hlN := takeM_len bq
  obtain ⟨N, xm, ok, hR⟩ : ∃ N xm ok, takeM bq = (N, xm, ok) := ⟨_, _, _, rfl⟩
  simp only [hR] at CI CS HF HBAD hlN
  have HLN := Lib.hid (show N.q.length ≤ 4000000 by omega)
  clear hR hlN hq1 hq2
  go_wp2_with (first | refine wpList_load_row rfl 26 (.tmp 3) rfl GQ rfl 26 (bcells (bq) (.slice uqa bq.q.length uqc)) (0, 0) _ Xbq_1 Tryd.underlying26 rfl (by kernel_rfl) ?_)
  refine (CI.out _ Rbq_1.reads (HMX.out _ B1)).mono ?_
  rintro e v2 ⟨V, u2, pre, post, rfl, ho, hp, hb⟩
  obtain ⟨a2, c2, hu⟩ := hp.slice
  subst hu
  have Rx_v := RowP.of ho hp (B := w.heap.size) B1.size
  clear ho hp pre post V
  have Rbq_v := Rbq_1.below hb
  have Xbq_v := Xbq_1.below hb
  have Bv := below_end B1 hb
  clear hb B1 Rbq_1 Xbq_1
  go_upto_region 5 with (fail)
  have hal : Below v2.heap.size v2 ((v2.alloc (.cells (bcells N (.slice a2 N.q.length c2)) 26)).alloc (.cells #[.int .i64 xm.1, .int .i64 xm.2.1, .string xm.2.2.1, .int .i64 xm.2.2.2] 29)) := ((Below.refl _ _).alloc (Nat.le_refl _) _).alloc (by simp) _
  have hsz : (v2.alloc (.cells (bcells N (.slice a2 N.q.length c2)) 26)).heap.size = v2.heap.size + 1 := by simp
  have Xx_2 : BBox ((v2.alloc (.cells (bcells N (.slice a2 N.q.length c2)) 26)).alloc (.cells #[.int .i64 xm.1, .int .i64 xm.2.1, .string xm.2.2.1, .int .i64 xm.2.2.2] 29)) v2.heap.size 26 N (.slice a2 N.q.length c2) := (BBox.new v2 26 N (.slice a2 N.q.length c2)).below ((Below.refl _ _).alloc (Nat.le_refl _) _)
  have Mx_2 : MAt ((v2.alloc (.cells (bcells N (.slice a2 N.q.length c2)) 26)).alloc (.cells #[.int .i64 xm.1, .int .i64 xm.2.1, .string xm.2.2.1, .int .i64 xm.2.2.2] 29)) (v2.heap.size + 1) xm := by unfold MAt; rw [← hsz]; exact heap_alloc_new _ _
  have Rbq_2 := Rbq_v.below hal
  have Xbq_2 := Xbq_v.below hal
  have Rx_2 := Rx_v.below hal
  have B2 := below_end Bv hal
  have gx : w.heap.size ≤ v2.heap.size := Bv.size
  change Code.wp _ _ _ _ ((v2.alloc (.cells (bcells N (.slice a2 N.q.length c2)) 26)).alloc (.cells #[.int .i64 xm.1, .int .i64 xm.2.1, .string xm.2.2.1, .int .i64 xm.2.2.2] 29))
  generalize ((v2.alloc (.cells (bcells N (.slice a2 N.q.length c2)) 26)).alloc (.cells #[.int .i64 xm.1, .int .i64 xm.2.1, .string xm.2.2.1, .int .i64 xm.2.2.2] 29)) = w2 at Xx_2 Mx_2 Rbq_2 Xbq_2 Rx_2 B2 ⊢
  obtain ⟨FX, hFX⟩ : ∃ G, v2.heap.size + 1 = G := ⟨_, rfl⟩
  rw [hFX] at Mx_2 ⊢
  have gFX : w.heap.size ≤ FX := by omega
  obtain ⟨Gx, hGx⟩ : ∃ G, v2.heap.size = G := ⟨_, rfl⟩
  rw [hGx] at Xx_2 gx ⊢
  clear hGx hFX hsz hal Bv Rbq_v Xbq_v Rx_v
  go_wp2_with (first | refine wpList_load_row rfl 26 (.tmp 3) rfl GQ rfl 26 (bcells (bq) (.slice uqa bq.q.length uqc)) (0, 0) _ Xbq_2 Tryd.underlying26 rfl (by kernel_rfl) ?_)
  refine (CS.out _ Rbq_2.reads).mono ?_
  rintro e v3 ⟨u3, rfl, ho, hb⟩
  obtain ⟨a3, c3, hu⟩ := own_slice ho
  subst hu
  have Ry_v := RowP.whole ho (B := w.heap.size) B2.size
  clear ho
  have Rbq_v := Rbq_2.below hb
  have Xbq_v := Xbq_2.below hb
  have Rx_v := Rx_2.below hb
  have Xx_v := Xx_2.below hb
  have Mx_v := Mx_2.below hb
  have Bv := below_end B2 hb
  clear hb B2 Rbq_2 Xbq_2 Rx_2 Xx_2 Mx_2
  go_upto_region 6 with (fail)
  have hal : Below v3.heap.size v3 ((v3.alloc (.cells (bcells N (.slice a3 N.q.length c3)) 26)).alloc (.cells #[.int .i64 xm.1, .int .i64 xm.2.1, .string xm.2.2.1, .int .i64 xm.2.2.2] 29)) := ((Below.refl _ _).alloc (Nat.le_refl _) _).alloc (by simp) _
  have hsz : (v3.alloc (.cells (bcells N (.slice a3 N.q.length c3)) 26)).heap.size = v3.heap.size + 1 := by simp
  have Xy_3 : BBox ((v3.alloc (.cells (bcells N (.slice a3 N.q.length c3)) 26)).alloc (.cells #[.int .i64 xm.1, .int .i64 xm.2.1, .string xm.2.2.1, .int .i64 xm.2.2.2] 29)) v3.heap.size 26 N (.slice a3 N.q.length c3) := (BBox.new v3 26 N (.slice a3 N.q.length c3)).below ((Below.refl _ _).alloc (Nat.le_refl _) _)
  have My_3 : MAt ((v3.alloc (.cells (bcells N (.slice a3 N.q.length c3)) 26)).alloc (.cells #[.int .i64 xm.1, .int .i64 xm.2.1, .string xm.2.2.1, .int .i64 xm.2.2.2] 29)) (v3.heap.size + 1) xm := by unfold MAt; rw [← hsz]; exact heap_alloc_new _ _
  have Rbq_3 := Rbq_v.below hal
  have Xbq_3 := Xbq_v.below hal
  have Rx_3 := Rx_v.below hal
  have Xx_3 := Xx_v.below hal
  have Mx_3 := Mx_v.below hal
  have Ry_3 := Ry_v.below hal
  have B3 := below_end Bv hal
  have gy : w.heap.size ≤ v3.heap.size := Bv.size
  change Code.wp _ _ _ _ ((v3.alloc (.cells (bcells N (.slice a3 N.q.length c3)) 26)).alloc (.cells #[.int .i64 xm.1, .int .i64 xm.2.1, .string xm.2.2.1, .int .i64 xm.2.2.2] 29))
  generalize ((v3.alloc (.cells (bcells N (.slice a3 N.q.length c3)) 26)).alloc (.cells #[.int .i64 xm.1, .int .i64 xm.2.1, .string xm.2.2.1, .int .i64 xm.2.2.2] 29)) = w3 at Xy_3 My_3 Rbq_3 Xbq_3 Rx_3 Xx_3 Mx_3 Ry_3 B3 ⊢
  obtain ⟨FY, hFY⟩ : ∃ G, v3.heap.size + 1 = G := ⟨_, rfl⟩
  rw [hFY] at My_3 ⊢
  have gFY : w.heap.size ≤ FY := by omega
  obtain ⟨Gy, hGy⟩ : ∃ G, v3.heap.size = G := ⟨_, rfl⟩
  rw [hGy] at Xy_3 gy ⊢
  clear hGy hFY hsz hal Bv Rbq_v Xbq_v Rx_v Xx_v Mx_v Ry_v
  go_wp2_with fail
  refine (drawShut_any hlen (HCX.out _ B3)).mono ?_
  rintro e v4 ⟨bs, us, rfl, ho, hs, hb⟩
  obtain ⟨usa, usc, hu⟩ := own_slice ho
  subst hu
  have HSbs := Lib.hid hs
  have Rbs_v := RowP.whole ho (B := w.heap.size) B3.size
  have Bv := below_end B3 hb
  have Rbq_v := Rbq_3.below hb
  have Xbq_v := Xbq_3.below hb
  have Rx_v := Rx_3.below hb
  have Xx_v := Xx_3.below hb
  have Mx_v := Mx_3.below hb
  have Ry_v := Ry_3.below hb
  have Xy_v := Xy_3.below hb
  have My_v := My_3.below hb
  clear ho hs hb Rbq_3 Xbq_3 Rx_3 Xx_3 Mx_3 Ry_3 Xy_3 My_3 B3
  go_upto_region 7 with (fail)
  have hal : Below v4.heap.size v4 (v4.alloc (.cells (bcells bs (.slice usa bs.q.length usc)) 26)) := (Below.refl _ _).alloc (Nat.le_refl _) _
  have Xbs_4 := BBox.new v4 26 bs (.slice usa bs.q.length usc)
  have Rbq_4 := Rbq_v.below hal
  have Xbq_4 := Xbq_v.below hal
  have Rx_4 := Rx_v.below hal
  have Xx_4 := Xx_v.below hal
  have Mx_4 := Mx_v.below hal
  have Ry_4 := Ry_v.below hal
  have Xy_4 := Xy_v.below hal
  have My_4 := My_v.below hal
  have Rbs_4 := Rbs_v.below hal
  have B4 := below_end Bv hal
  have gGS : w.heap.size ≤ v4.heap.size := Bv.size
  generalize v4.alloc (.cells (bcells bs (.slice usa bs.q.length usc)) 26) = w4 at Xbs_4 Rbq_4 Xbq_4 Rx_4 Xx_4 Mx_4 Ry_4 Xy_4 My_4 Rbs_4 B4 ⊢
  obtain ⟨GS, hGS⟩ : ∃ G, v4.heap.size = G := ⟨_, rfl⟩
  rw [hGS] at Xbs_4 gGS ⊢
  clear hGS hal Bv Rbq_v Xbq_v Rx_v Xx_v Mx_v Ry_v Xy_v My_v Rbs_v
  go_wp2_with fail
  refine (drawEnd_any hlen (HCX.out _ B4)).mono ?_
  rintro e v5 ⟨be, ue, rfl, ho, hs, hb⟩
  obtain ⟨uea, uec, hu⟩ := own_slice ho
  subst hu
  have HSbe := Lib.hid hs
  have Rbe_v := RowP.whole ho (B := w.heap.size) B4.size
  have Bv := below_end B4 hb
  have Rbq_v := Rbq_4.below hb
  have Xbq_v := Xbq_4.below hb
  have Rx_v := Rx_4.below hb
  have Xx_v := Xx_4.below hb
  have Mx_v := Mx_4.below hb
  have Ry_v := Ry_4.below hb
  have Xy_v := Xy_4.below hb
  have My_v := My_4.below hb
  have Rbs_v := Rbs_4.below hb
  have Xbs_v := Xbs_4.below hb
  clear ho hs hb Rbq_4 Xbq_4 Rx_4 Xx_4 Mx_4 Ry_4 Xy_4 My_4 Rbs_4 Xbs_4 B4
  go_upto_region 8 with (fail)
  have hal : Below v5.heap.size v5 (v5.alloc (.cells (bcells be (.slice uea be.q.length uec)) 26)) := (Below.refl _ _).alloc (Nat.le_refl _) _
  have Xbe_5 := BBox.new v5 26 be (.slice uea be.q.length uec)
  have Rbq_5 := Rbq_v.below hal
  have Xbq_5 := Xbq_v.below hal
  have Rx_5 := Rx_v.below hal
  have Xx_5 := Xx_v.below hal
  have Mx_5 := Mx_v.below hal
  have Ry_5 := Ry_v.below hal
  have Xy_5 := Xy_v.below hal
  have My_5 := My_v.below hal
  have Rbs_5 := Rbs_v.below hal
  have Xbs_5 := Xbs_v.below hal
  have Rbe_5 := Rbe_v.below hal
  have B5 := below_end Bv hal
  have gGE : w.heap.size ≤ v5.heap.size := Bv.size
  generalize v5.alloc (.cells (bcells be (.slice uea be.q.length uec)) 26) = w5 at Xbe_5 Rbq_5 Xbq_5 Rx_5 Xx_5 Mx_5 Ry_5 Xy_5 My_5 Rbs_5 Xbs_5 Rbe_5 B5 ⊢
  obtain ⟨GE, hGE⟩ : ∃ G, v5.heap.size = G := ⟨_, rfl⟩
  rw [hGE] at Xbe_5 gGE ⊢
  clear hGE hal Bv Rbq_v Xbq_v Rx_v Xx_v Mx_v Ry_v Xy_v My_v Rbs_v Xbs_v Rbe_v
  clear CI CS
  obtain ⟨hs1, hs2⟩ := ShortQ.small HSbs.out (by omega)
  obtain ⟨he1, he2⟩ := ShortQ.small HSbe.out (by omega)
  have CI1 := Lib.hid (fun wx (h : MsgsAt wx (.slice usa bs.q.length usc) bs.q) hm => implShut_any bs (.slice usa bs.q.length usc) m wx hs1 hs2 h hm)
  have CS1 := Lib.hid (fun wx (h : MsgsAt wx (.slice usa bs.q.length usc) bs.q) => specShut_any bs (.slice usa bs.q.length usc) wx hs1 hs2 h)
  have CI2 := Lib.hid (fun wx (h : MsgsAt wx (.slice uea be.q.length uec) be.q) hm => implEnd_any be (.slice uea be.q.length uec) m wx he1 he2 h hm)
  have CS2 := Lib.hid (fun wx (h : MsgsAt wx (.slice uea be.q.length uec) be.q) => specEnd_any be (.slice uea be.q.length uec) wx he2 h)
  have CBS := Lib.hid (fun wx (h : MsgsAt wx (.slice usa bs.q.length usc) bs.q) => specBoxOk_any bs (.slice usa bs.q.length usc) wx hs2 h)
  have hsm := ShortQ.small (HSbs.out.shut) (by omega)
  have HTI := Lib.hid (fun h => TInv.start (s := bs) h)
  obtain ⟨S1, hS1⟩ : ∃ S1, shutM bs = S1 := ⟨_, rfl⟩
  obtain ⟨e1, he⟩ : ∃ e1, endB be = e1 := ⟨_, rfl⟩
  simp only [hS1, he] at CI1 CS1 CI2 CS2 hsm HTI
  have HSM := Lib.hid hsm
  clear hS1 he hs1 hs2 he1 he2 hsm
  have gk : (ok != ok) = false := by simp
  have ge : (e1 != e1) = false := by simp
  have mne := fun wx => msg_neq_same xm wx
  have CL1 := Lib.hid (fun u1 u2 wx (h1 : MsgsAt wx u1 N.q) (h2 : MsgsAt wx u2 N.q) => likeBox_any N u1 u2 wx HLN.out h1 h2)
  have CL2 := Lib.hid (fun u1 u2 wx (h1 : MsgsAt wx u1 S1.q) (h2 : MsgsAt wx u2 S1.q) => likeBox_any S1 u1 u2 wx (by have := HSM.out.1; omega) h1 h2)
  have hbd : Below w5.heap.size w5 w5.drew := (Below.refl _ _).drew
  have HRx := Lib.hid Rx_5
  have HRy := Lib.hid Ry_5
  have HRs := Lib.hid Rbs_5
  have HRe := Lib.hid Rbe_5
  have HB5 := Lib.hid B5
  have HXq := Lib.hid Xbq_5
  have HRq := Lib.hid Rbq_5
  refine wp_region_held_drew (S := fun wx => BBox wx Gx 26 N (.slice a2 N.q.length c2) ∧ BBox wx Gy 26 N (.slice a3 N.q.length c3) ∧ MAt wx FX xm ∧ MAt wx FY xm ∧ BBox wx GS 26 bs (.slice usa bs.q.length usc) ∧ BBox wx GE 26 be (.slice uea be.q.length uec) ∧ Hid (Below w5.heap.size w5 wx)) (by kernel_rfl) ?_ (fun hHeld => ?_)
  · exact ⟨Xx_5.below hbd, Xy_5.below hbd, Mx_5.below hbd, My_5.below hbd, Xbs_5.below hbd, Xbe_5.below hbd, Lib.hid hbd⟩
  change wpAnyH _ _ _ _ _ 29 #[false, false, false, false, false, false, false, false, false, false, false, false, false, false, false, false, false, false, false, false, false, false, false, false, false, false, false, false, false] _ _
  clear hbd Xx_5 Xy_5 Mx_5 My_5 Xbs_5 Xbe_5 Rx_5 Ry_5 Rbs_5 Rbe_5 B5 Xbq_5 Rbq_5
  refine wpAnyH_take (i := 0) (v := ?_) rfl (by kernel_rfl) (by kernel_rfl) (by kernel_rfl) (fun _ _ _ h => h) (Or.inl ⟨by rfl, ?_⟩) (by assumption) ?_
  rotate_left
  · intro w hSw; (try dsimp only at hSw); go_simp; try with_reducible rfl
  try simp only [Act.put, List.getElem_toArray, List.getElem_cons_succ, List.getElem_cons_zero, List.setIfInBounds_toArray, List.set_cons_zero, List.set_cons_succ]
  refine wpAnyH_take (i := 1) (v := ?_) rfl (by kernel_rfl) (by kernel_rfl) (by kernel_rfl) (fun _ _ _ h => h) (Or.inl ⟨by rfl, ?_⟩) (by assumption) ?_
  rotate_left
  · intro w hSw; (try dsimp only at hSw); go_simp; try with_reducible rfl
  try simp only [Act.put, List.getElem_toArray, List.getElem_cons_succ, List.getElem_cons_zero, List.setIfInBounds_toArray, List.set_cons_zero, List.set_cons_succ]
  refine wpAnyH_take (i := 2) (v := ?_) rfl (by kernel_rfl) (by kernel_rfl) (by kernel_rfl) (fun _ _ _ h => h) (Or.inl ⟨by rfl, ?_⟩) (by assumption) ?_
  rotate_left
  · intro w hSw; (try dsimp only at hSw); go_simp; try with_reducible rfl
  try simp only [Act.put, List.getElem_toArray, List.getElem_cons_succ, List.getElem_cons_zero, List.setIfInBounds_toArray, List.set_cons_zero, List.set_cons_succ]
  refine wpAnyH_take (i := 3) (v := ?_) rfl (by kernel_rfl) (by kernel_rfl) (by kernel_rfl) (fun _ _ _ h => h) (Or.inl ⟨by rfl, ?_⟩) (by assumption) ?_
  rotate_left
  · intro w hSw; (try dsimp only at hSw); go_simp; try with_reducible rfl
  try simp only [Act.put, List.getElem_toArray, List.getElem_cons_succ, List.getElem_cons_zero, List.setIfInBounds_toArray, List.set_cons_zero, List.set_cons_succ]
  refine wpAnyH_take (i := 4) (v := magg xm) rfl (by kernel_rfl) (by kernel_rfl) (by kernel_rfl) (fun _ _ _ h => h) (yieldsIf_load_mid rfl 29 (.tmp 5) rfl FX 0 rfl [.int .i64 xm.1, .int .i64 xm.2.1, .string xm.2.2.1, .int .i64 xm.2.2.2] _ (fun wx h => range_of_heap h.2.2.1) Tryd.underlying29 rfl (by kernel_rfl)) (by assumption) ?_
  try simp only [Act.put, List.getElem_toArray, List.getElem_cons_succ, List.getElem_cons_zero, List.setIfInBounds_toArray, List.set_cons_zero, List.set_cons_succ]
  refine wpAnyH_take (i := 5) (v := magg xm) rfl (by kernel_rfl) (by kernel_rfl) (by kernel_rfl) (fun _ _ _ h => h) (yieldsIf_load_mid rfl 29 (.tmp 8) rfl FY 0 rfl [.int .i64 xm.1, .int .i64 xm.2.1, .string xm.2.2.1, .int .i64 xm.2.2.2] _ (fun wx h => range_of_heap h.2.2.2.1) Tryd.underlying29 rfl (by kernel_rfl)) (by assumption) ?_
  try simp only [Act.put, List.getElem_toArray, List.getElem_cons_succ, List.getElem_cons_zero, List.setIfInBounds_toArray, List.set_cons_zero, List.set_cons_succ]
  refine wpAnyH_take (i := 6) (v := ?_) rfl (by kernel_rfl) (by kernel_rfl) (by kernel_rfl) (fun _ _ _ h => h) (Or.inl ⟨by rfl, ?_⟩) (by assumption) ?_
  rotate_left
  · intro w hSw; (try dsimp only at hSw); go_simp; try with_reducible rfl
  try simp only [Act.put, List.getElem_toArray, List.getElem_cons_succ, List.getElem_cons_zero, List.setIfInBounds_toArray, List.set_cons_zero, List.set_cons_succ]
  refine wpAnyH_take (i := 7) (v := ?_) rfl (by kernel_rfl) (by kernel_rfl) (by kernel_rfl) (fun _ _ _ h => h) (Or.inl ⟨by rfl, ?_⟩) (by assumption) ?_
  rotate_left
  · intro w hSw; (try dsimp only at hSw); go_simp; try with_reducible rfl
  try simp only [Act.put, List.getElem_toArray, List.getElem_cons_succ, List.getElem_cons_zero, List.setIfInBounds_toArray, List.set_cons_zero, List.set_cons_succ]
  refine wpAnyH_take (i := 8) (v := ?_) rfl (by kernel_rfl) (by kernel_rfl) (by kernel_rfl) (fun _ _ _ h => h) (Or.inl ⟨by rfl, ?_⟩) (by assumption) ?_
  rotate_left
  · intro w hSw; (try dsimp only at hSw); go_simp; try with_reducible rfl
  try simp only [Act.put, List.getElem_toArray, List.getElem_cons_succ, List.getElem_cons_zero, List.setIfInBounds_toArray, List.set_cons_zero, List.set_cons_succ]
  refine wpAnyH_take (i := 9) (v := bagg N (.slice a2 N.q.length c2)) rfl (by kernel_rfl) (by kernel_rfl) (by kernel_rfl) (fun _ _ _ h => h) (yieldsIf_load_mid rfl 26 (.tmp 4) rfl Gx 0 rfl [.int .i64 N.cap, .int .i64 N.pol, (.slice a2 N.q.length c2), .int .i64 N.ofr, .int .i64 N.rcv, .int .i64 N.drp, .int .i64 N.mrg, .bool N.shut] _ (fun wx h => range_of_heap h.1) Tryd.underlying26 rfl (by kernel_rfl)) (by assumption) ?_
  try simp only [Act.put, List.getElem_toArray, List.getElem_cons_succ, List.getElem_cons_zero, List.setIfInBounds_toArray, List.set_cons_zero, List.set_cons_succ]
  refine wpAnyH_take (i := 10) (v := bagg N (.slice a3 N.q.length c3)) rfl (by kernel_rfl) (by kernel_rfl) (by kernel_rfl) (fun _ _ _ h => h) (yieldsIf_load_mid rfl 26 (.tmp 7) rfl Gy 0 rfl [.int .i64 N.cap, .int .i64 N.pol, (.slice a3 N.q.length c3), .int .i64 N.ofr, .int .i64 N.rcv, .int .i64 N.drp, .int .i64 N.mrg, .bool N.shut] _ (fun wx h => range_of_heap h.2.1) Tryd.underlying26 rfl (by kernel_rfl)) (by assumption) ?_
  try simp only [Act.put, List.getElem_toArray, List.getElem_cons_succ, List.getElem_cons_zero, List.setIfInBounds_toArray, List.set_cons_zero, List.set_cons_succ]
  refine wpAnyH_ready (rs := [11]) (by kernel_rfl) (by simp) (AllReadyH.cons rfl (fun K hK => ?_) AllReadyH.nil)
  rw [if_pos (by rfl)]
  go_simp; go_at_call 10; refine (CL1.out _ _ _ (HRx.out.reads.below hHeld.2.2.2.2.2.2.out) (HRy.out.reads.below hHeld.2.2.2.2.2.2.out)).mono ?_; rintro e wa ⟨rfl, hb⟩; go_wp2_with fail
  refine hK.out _ _ ?_ (fun hHeld => ?_)
  · exact ⟨hHeld.1.below hb, hHeld.2.1.below hb, hHeld.2.2.1.below hb, hHeld.2.2.2.1.below hb, hHeld.2.2.2.2.1.below hb, hHeld.2.2.2.2.2.1.below hb, Lib.hid (below_end hHeld.2.2.2.2.2.2.out hb)⟩
  clear hK K
  try simp only [Act.put, List.getElem_toArray, List.getElem_cons_succ, List.getElem_cons_zero, List.setIfInBounds_toArray, List.set_cons_zero, List.set_cons_succ]
  clear hb
  refine wpAnyH_take (i := 12) (v := ?_) rfl (by kernel_rfl) (by kernel_rfl) (by kernel_rfl) (fun _ _ _ h => h) (Or.inl ⟨by rfl, ?_⟩) (by assumption) ?_
  rotate_left
  · intro w hSw; (try dsimp only at hSw); go_simp; try with_reducible rfl
  try simp only [Act.put, List.getElem_toArray, List.getElem_cons_succ, List.getElem_cons_zero, List.setIfInBounds_toArray, List.set_cons_zero, List.set_cons_succ]
  refine wpAnyH_take (i := 13) (v := ?_) rfl (by kernel_rfl) (by kernel_rfl) (by kernel_rfl) (fun _ _ _ h => h) (Or.inl ⟨by rfl, ?_⟩) (by assumption) ?_
  rotate_left
  · intro w hSw; (try dsimp only at hSw); go_simp; try with_reducible rfl
  try simp only [Act.put, List.getElem_toArray, List.getElem_cons_succ, List.getElem_cons_zero, List.setIfInBounds_toArray, List.set_cons_zero, List.set_cons_succ]
  refine wpAnyH_take (i := 14) (v := ?_) rfl (by kernel_rfl) (by kernel_rfl) (by kernel_rfl) (fun _ _ _ h => h) (Or.inl ⟨by rfl, ?_⟩) (by assumption) ?_
  rotate_left
  · intro w hSw; (try dsimp only at hSw); go_simp; try with_reducible rfl
  try simp only [Act.put, List.getElem_toArray, List.getElem_cons_succ, List.getElem_cons_zero, List.setIfInBounds_toArray, List.set_cons_zero, List.set_cons_succ]
  refine wpAnyH_take (i := 15) (v := bagg bs (.slice usa bs.q.length usc)) rfl (by kernel_rfl) (by kernel_rfl) (by kernel_rfl) (fun _ _ _ h => h) (yieldsIf_load_mid rfl 26 (.tmp 10) rfl GS 0 rfl [.int .i64 bs.cap, .int .i64 bs.pol, (.slice usa bs.q.length usc), .int .i64 bs.ofr, .int .i64 bs.rcv, .int .i64 bs.drp, .int .i64 bs.mrg, .bool bs.shut] _ (fun wx h => range_of_heap h.2.2.2.2.1) Tryd.underlying26 rfl (by kernel_rfl)) (by assumption) ?_
  try simp only [Act.put, List.getElem_toArray, List.getElem_cons_succ, List.getElem_cons_zero, List.setIfInBounds_toArray, List.set_cons_zero, List.set_cons_succ]
  refine wpAnyH_take (i := 17) (v := bagg bs (.slice usa bs.q.length usc)) rfl (by kernel_rfl) (by kernel_rfl) (by kernel_rfl) (fun _ _ _ h => h) (yieldsIf_load_mid rfl 26 (.tmp 10) rfl GS 0 rfl [.int .i64 bs.cap, .int .i64 bs.pol, (.slice usa bs.q.length usc), .int .i64 bs.ofr, .int .i64 bs.rcv, .int .i64 bs.drp, .int .i64 bs.mrg, .bool bs.shut] _ (fun wx h => range_of_heap h.2.2.2.2.1) Tryd.underlying26 rfl (by kernel_rfl)) (by assumption) ?_
  try simp only [Act.put, List.getElem_toArray, List.getElem_cons_succ, List.getElem_cons_zero, List.setIfInBounds_toArray, List.set_cons_zero, List.set_cons_succ]
  refine wpAnyH_ready (rs := [16]) (by kernel_rfl) (by simp) (AllReadyH.cons rfl (fun K hK => ?_) AllReadyH.nil)
  rw [if_pos (by rfl)]
  go_simp; go_at_call 11; refine (CI1.out _ (HRs.out.reads.below hHeld.2.2.2.2.2.2.out) (HMX.out _ (below_end HB5.out hHeld.2.2.2.2.2.2.out))).mono ?_; rintro e wb ⟨V, u1, pre, post, rfl, ho, hp, hb⟩; have R1 := part_at ho hp; obtain ⟨ia, ic, hu⟩ := hp.slice; subst hu; clear ho hp; go_wp2_with fail
  refine hK.out _ _ ?_ (fun hHeld => ?_)
  · exact ⟨hHeld.1.below hb, hHeld.2.1.below hb, hHeld.2.2.1.below hb, hHeld.2.2.2.1.below hb, hHeld.2.2.2.2.1.below hb, hHeld.2.2.2.2.2.1.below hb, Lib.hid (below_end hHeld.2.2.2.2.2.2.out hb)⟩
  clear hK K
  try simp only [Act.put, List.getElem_toArray, List.getElem_cons_succ, List.getElem_cons_zero, List.setIfInBounds_toArray, List.set_cons_zero, List.set_cons_succ]
  clear hb pre post V
  refine wpAnyH_ready (rs := [18]) (by kernel_rfl) (by simp) (AllReadyH.cons rfl (fun K hK => ?_) AllReadyH.nil)
  rw [if_pos (by rfl)]
  go_simp; go_at_call 12; refine (CS1.out _ (HRs.out.reads.below hHeld.2.2.2.2.2.2.out)).mono ?_; rintro e wc ⟨u2, rfl, ho, hb⟩; have R2 := own_msgs_at ho; have R1b := R1.below hb; obtain ⟨ja, jc, hu⟩ := own_slice ho; subst hu; clear ho R1; go_wp2_with fail
  refine hK.out _ _ ?_ (fun hHeld => ?_)
  · exact ⟨hHeld.1.below hb, hHeld.2.1.below hb, hHeld.2.2.1.below hb, hHeld.2.2.2.1.below hb, hHeld.2.2.2.2.1.below hb, hHeld.2.2.2.2.2.1.below hb, Lib.hid (below_end hHeld.2.2.2.2.2.2.out hb)⟩
  clear hK K
  try simp only [Act.put, List.getElem_toArray, List.getElem_cons_succ, List.getElem_cons_zero, List.setIfInBounds_toArray, List.set_cons_zero, List.set_cons_succ]
  clear hb
  refine wpAnyH_ready (rs := [19]) (by kernel_rfl) (by simp) (AllReadyH.cons rfl (fun K hK => ?_) AllReadyH.nil)
  rw [if_pos (by rfl)]
  go_simp; go_at_call 10; refine (CL2.out _ _ _ R1b R2).mono ?_; rintro e wd ⟨rfl, hb⟩; go_wp2_with fail
  refine hK.out _ _ ?_ (fun hHeld => ?_)
  · exact ⟨hHeld.1.below hb, hHeld.2.1.below hb, hHeld.2.2.1.below hb, hHeld.2.2.2.1.below hb, hHeld.2.2.2.2.1.below hb, hHeld.2.2.2.2.2.1.below hb, Lib.hid (below_end hHeld.2.2.2.2.2.2.out hb)⟩
  clear hK K
  try simp only [Act.put, List.getElem_toArray, List.getElem_cons_succ, List.getElem_cons_zero, List.setIfInBounds_toArray, List.set_cons_zero, List.set_cons_succ]
  clear hb R1b R2
  refine wpAnyH_take (i := 20) (v := ?_) rfl (by kernel_rfl) (by kernel_rfl) (by kernel_rfl) (fun _ _ _ h => h) (Or.inl ⟨by rfl, ?_⟩) (by assumption) ?_
  rotate_left
  · intro w hSw; (try dsimp only at hSw); go_simp; try with_reducible rfl
  try simp only [Act.put, List.getElem_toArray, List.getElem_cons_succ, List.getElem_cons_zero, List.setIfInBounds_toArray, List.set_cons_zero, List.set_cons_succ]
  refine wpAnyH_take (i := 21) (v := ?_) rfl (by kernel_rfl) (by kernel_rfl) (by kernel_rfl) (fun _ _ _ h => h) (Or.inl ⟨by rfl, ?_⟩) (by assumption) ?_
  rotate_left
  · intro w hSw; (try dsimp only at hSw); go_simp; try with_reducible rfl
  try simp only [Act.put, List.getElem_toArray, List.getElem_cons_succ, List.getElem_cons_zero, List.setIfInBounds_toArray, List.set_cons_zero, List.set_cons_succ]
  refine wpAnyH_take (i := 22) (v := ?_) rfl (by kernel_rfl) (by kernel_rfl) (by kernel_rfl) (fun _ _ _ h => h) (Or.inl ⟨by rfl, ?_⟩) (by assumption) ?_
  rotate_left
  · intro w hSw; (try dsimp only at hSw); go_simp; try with_reducible rfl
  try simp only [Act.put, List.getElem_toArray, List.getElem_cons_succ, List.getElem_cons_zero, List.setIfInBounds_toArray, List.set_cons_zero, List.set_cons_succ]
  refine wpAnyH_take (i := 23) (v := bagg be (.slice uea be.q.length uec)) rfl (by kernel_rfl) (by kernel_rfl) (by kernel_rfl) (fun _ _ _ h => h) (yieldsIf_load_mid rfl 26 (.tmp 11) rfl GE 0 rfl [.int .i64 be.cap, .int .i64 be.pol, (.slice uea be.q.length uec), .int .i64 be.ofr, .int .i64 be.rcv, .int .i64 be.drp, .int .i64 be.mrg, .bool be.shut] _ (fun wx h => range_of_heap h.2.2.2.2.2.1) Tryd.underlying26 rfl (by kernel_rfl)) (by assumption) ?_
  try simp only [Act.put, List.getElem_toArray, List.getElem_cons_succ, List.getElem_cons_zero, List.setIfInBounds_toArray, List.set_cons_zero, List.set_cons_succ]
  refine wpAnyH_take (i := 25) (v := bagg be (.slice uea be.q.length uec)) rfl (by kernel_rfl) (by kernel_rfl) (by kernel_rfl) (fun _ _ _ h => h) (yieldsIf_load_mid rfl 26 (.tmp 11) rfl GE 0 rfl [.int .i64 be.cap, .int .i64 be.pol, (.slice uea be.q.length uec), .int .i64 be.ofr, .int .i64 be.rcv, .int .i64 be.drp, .int .i64 be.mrg, .bool be.shut] _ (fun wx h => range_of_heap h.2.2.2.2.2.1) Tryd.underlying26 rfl (by kernel_rfl)) (by assumption) ?_
  try simp only [Act.put, List.getElem_toArray, List.getElem_cons_succ, List.getElem_cons_zero, List.setIfInBounds_toArray, List.set_cons_zero, List.set_cons_succ]
  refine wpAnyH_ready (rs := [24]) (by kernel_rfl) (by simp) (AllReadyH.cons rfl (fun K hK => ?_) AllReadyH.nil)
  rw [if_pos (by rfl)]
  go_simp; go_at_call 13; refine (CI2.out _ (HRe.out.reads.below hHeld.2.2.2.2.2.2.out) (HMX.out _ (below_end HB5.out hHeld.2.2.2.2.2.2.out))).mono ?_; rintro e we ⟨rfl, hb⟩; go_wp2_with fail
  refine hK.out _ _ ?_ (fun hHeld => ?_)
  · exact ⟨hHeld.1.below hb, hHeld.2.1.below hb, hHeld.2.2.1.below hb, hHeld.2.2.2.1.below hb, hHeld.2.2.2.2.1.below hb, hHeld.2.2.2.2.2.1.below hb, Lib.hid (below_end hHeld.2.2.2.2.2.2.out hb)⟩
  clear hK K
  try simp only [Act.put, List.getElem_toArray, List.getElem_cons_succ, List.getElem_cons_zero, List.setIfInBounds_toArray, List.set_cons_zero, List.set_cons_succ]
  clear hb
  refine wpAnyH_ready (rs := [26]) (by kernel_rfl) (by simp) (AllReadyH.cons rfl (fun K hK => ?_) AllReadyH.nil)
  rw [if_pos (by rfl)]
  go_simp; go_at_call 14; refine (CS2.out _ (HRe.out.reads.below hHeld.2.2.2.2.2.2.out)).mono ?_; rintro e w6 ⟨rfl, hb⟩; go_wp2_with fail
  refine hK.out _ _ ?_ (fun hHeld => ?_)
  · exact ⟨hHeld.1.below hb, hHeld.2.1.below hb, hHeld.2.2.1.below hb, hHeld.2.2.2.1.below hb, hHeld.2.2.2.2.1.below hb, hHeld.2.2.2.2.2.1.below hb, Lib.hid (below_end hHeld.2.2.2.2.2.2.out hb)⟩
  clear hK K
  try simp only [Act.put, List.getElem_toArray, List.getElem_cons_succ, List.getElem_cons_zero, List.setIfInBounds_toArray, List.set_cons_zero, List.set_cons_succ]
  clear hb
  refine wpAnyH_take (i := 27) (v := ?_) rfl (by kernel_rfl) (by kernel_rfl) (by kernel_rfl) (fun _ _ _ h => h) (Or.inl ⟨by rfl, ?_⟩) (by assumption) ?_
  rotate_left
  · intro w hSw; (try dsimp only at hSw); go_simp; try with_reducible rfl
  try simp only [Act.put, List.getElem_toArray, List.getElem_cons_succ, List.getElem_cons_zero, List.setIfInBounds_toArray, List.set_cons_zero, List.set_cons_succ]
  refine wpAnyH_take (i := 28) (v := ?_) rfl (by kernel_rfl) (by kernel_rfl) (by kernel_rfl) (fun _ _ _ h => h) (Or.inl ⟨by rfl, ?_⟩) (by assumption) ?_
  rotate_left
  · intro w hSw; (try dsimp only at hSw); go_simp; try with_reducible rfl
  try simp only [Act.put, List.getElem_toArray, List.getElem_cons_succ, List.getElem_cons_zero, List.setIfInBounds_toArray, List.set_cons_zero, List.set_cons_succ]
  refine wpAnyH_done (by kernel_rfl) ?_ _
  have hb6 := hHeld.2.2.2.2.2.2.out
  have B6 := below_end HB5.out hb6
  have Xbs_6 := hHeld.2.2.2.2.1
  have Mx_6 := hHeld.2.2.1
  have Xx_6 := hHeld.1
  have Xbq_6 := HXq.out.below hb6
  have Rbq_6 := HRq.out.below hb6
  have Rbs_6 := HRs.out.below hb6
  clear hHeld hb6 HRx HRy HRs HRe HB5 HXq HRq CI2 CS2 CL1 CL2 CS1 mne ge gk
  obtain ⟨bb, hbb⟩ : ∃ bb, boxB bs = bb := ⟨_, rfl⟩
  rw [hbb] at CBS HTI
  clear hbb
  go_wp2_with (first | refine wpList_load_row rfl 26 (.tmp 10) rfl GS rfl 26 (bcells (bs) (.slice usa bs.q.length usc)) (0, 0) _ Xbs_6 Tryd.underlying26 rfl (by kernel_rfl) ?_)
  refine (CBS.out _ Rbs_6.reads).mono ?_
  rintro e w7 ⟨rfl, hb⟩
  have B7 := below_end B6 hb
  have Xbs_7 := Xbs_6.below hb
  have Mx_7 := Mx_6.below hb
  have Xx_7 := Xx_6.below hb
  have Xbq_7 := Xbq_6.below hb
  have Rbq_7 := Rbq_6.below hb
  have Rbs_7 := Rbs_6.below hb
  clear Xbs_6 Mx_6 Xx_6 Xbq_6 Rbq_6 Rbs_6
  clear hb B6 CBS
  cases bb
  · clear HTI CI1
    have x0 : w7.cell? ⟨Gx, 0, none⟩ = some (.int .i64 N.cap) := cell_of_heap Xx_7 0
    by_cases hN : N.cap = 0
    · have g1 : (N.cap == 0) = true := by simp [hN]
      clear hN
      go_wp2
      go_ret
      exact ⟨rfl, B7⟩
    · have g1 : (N.cap == 0) = false := by simp [hN]
      have hq : boxB bq = true := by
        cases h : boxB bq
        · exact absurd (HBAD.out h) hN
        · rfl
      rw [hq] at CB
      clear hN hq
      obtain ⟨y0, y1, y2, y3, y4, y5, y6, y7⟩ := Xbq_7.cells
      go_wp2_with fail
      refine (CB.out _ Rbq_7.reads).mono ?_
      rintro e w8 ⟨rfl, hb⟩
      have B8 := below_end B7 hb
      clear hb x0 y0 y1 y2 y3 y4 y5 y6 y7
      go_wp2
      go_ret
      exact ⟨rfl, B8⟩
  have HT0 := Lib.hid (HTI.out rfl)
  clear HTI HBAD CB Xx_7
  go_wp2_with (first | refine wpList_load_row rfl 26 (.tmp 10) rfl GS rfl 26 (bcells (bs) (.slice usa bs.q.length usc)) (0, 0) _ Xbs_7 Tryd.underlying26 rfl (by kernel_rfl) ?_)
  refine (CI1.out _ Rbs_7.reads (HMX.out _ B7)).mono ?_
  rintro e v8 ⟨V, u1, pre, post, rfl, ho, hp, hb⟩
  obtain ⟨a1, c1, hu⟩ := hp.slice
  subst hu
  have RU_v := RowP.of ho hp (B := w.heap.size) B7.size
  clear ho hp pre post V
  have Bv := below_end B7 hb
  have Xbs_v := Xbs_7.below hb
  have Mx_v := Mx_7.below hb
  have Xbq_v := Xbq_7.below hb
  have Rbq_v := Rbq_7.below hb
  have Rbs_v := Rbs_7.below hb
  clear Xbs_7 Mx_7 Xbq_7 Rbq_7 Rbs_7
  clear hb B7 CI1
  go_upto_region 13 with (fail)
  have hal : Below v8.heap.size v8 (v8.alloc (.cells (bcells S1 (.slice a1 S1.q.length c1)) 26)) := (Below.refl _ _).alloc (Nat.le_refl _) _
  have XU_9 := BBox.new v8 26 S1 (.slice a1 S1.q.length c1)
  have lS : GS < v8.heap.size := Xbs_v.lt
  have lF : FX < v8.heap.size := (Array.getElem?_eq_some_iff.1 Mx_v).1
  have lQ : GQ < v8.heap.size := Xbq_v.lt
  have gU : w.heap.size ≤ v8.heap.size := Bv.size
  have B9 := below_end Bv hal
  have Xbs_9 := Xbs_v.below hal
  have Mx_9 := Mx_v.below hal
  have Xbq_9 := Xbq_v.below hal
  have Rbq_9 := Rbq_v.below hal
  have Rbs_9 := Rbs_v.below hal
  have RU_9 := RU_v.below hal
  clear Xbs_v Mx_v Xbq_v Rbq_v Rbs_v RU_v
  generalize v8.alloc (.cells (bcells S1 (.slice a1 S1.q.length c1)) 26) = w9 at XU_9 Xbs_9 Mx_9 Xbq_9 Rbq_9 Rbs_9 RU_9 B9 ⊢
  obtain ⟨U, hU⟩ : ∃ G, v8.heap.size = G := ⟨_, rfl⟩
  rw [hU] at XU_9 lS lF lQ gU ⊢
  clear hU hal Bv
  have x2 : w9.cell? ⟨GS, 2, none⟩ = some (.slice usa bs.q.length usc) := cell_of_heap Xbs_9 2
  have PX := Lib.hid Xbs_9
  have PM := Lib.hid Mx_9
  have PQ := Lib.hid Xbq_9
  have PRq := Lib.hid Rbq_9
  have PRs := Lib.hid Rbs_9
  have PU := Lib.hid XU_9
  have PRU := Lib.hid RU_9
  have PB := Lib.hid B9
  clear Xbs_9 Mx_9 Xbq_9 Rbq_9 Rbs_9 XU_9 RU_9 B9
  have HSZ : Hid (∀ k b, TInv bs k b → b.q.length ≤ 1048576 ∧ ∀ x ∈ b.q, x.2.2.1.size ≤ 1048576) := Lib.hid (fun k b h => by
    obtain ⟨s1, s2⟩ := ShortQ.small HSbs.out (by omega)
    rw [h.q]
    exact ⟨by rw [List.length_drop]; omega, fun x hx => s2 x (List.mem_of_mem_drop hx)⟩)
  go_wp2
  clear x2
  go_loopw [13] (fun i wr => ∃ (k : Nat) (b : BoxM) (u : Value), k ≤ bs.q.length ∧ i = .int .i64 k ∧ Hid (TInv bs k b) ∧ Hid (BBox wr U 26 b u) ∧ Hid (RowP wr w.heap.size u b.q) ∧ Hid (w9.grownBy wr (some U))) (fun i _ => (intOf i).toNat)
  case atStart => exact ⟨bs.q.length, S1, _, Nat.le_refl _, rfl, HT0, PU, PRU, grown_refl _ _⟩
  case round =>
    obtain ⟨k, b, u, hk, rfl, HT, HX, HR, HG⟩ := hrel
    clear HT0 PRU
    obtain ⟨ua, uc, hu⟩ := HR.out.slice
    subst hu
    have B_r := PB.out.grown HG.out PB.out.size (fun k e => by cases e; exact gU)
    have Xs_r := PX.out.grown HG.out (by omega)
    have Ms_r := PM.out.grown HG.out (by omega)
    have Xq_r := PQ.out.grown HG.out (by omega)
    have Rs_r := RowP.keptB PRs.out PU.out HG.out
    have Rq_r := RowP.keptB PRq.out PU.out HG.out
    have XU_r := HX.out
    have RU_r := HR.out
    have HGr := HG.out
    obtain ⟨z1, z2⟩ := HSZ.out k b HT.out
    clear HX HR HG
    by_cases hk0 : 0 < k
    · have g0 : decide ((0 : Int) < (k : Int)) = true := decide_eq_true (by omega)
      have g0' : decide (0 < k) = true := decide_eq_true hk0
      have hb10 : bs.q.length ≤ 10 := HSbs.out.1
      have e1 : IntKind.i64.wrap ((k : Int) - 1) = ((k - 1 : Nat) : Int) := by rw [IntKind.wrap_i64]; omega
      obtain ⟨b', htk, ht'⟩ := HT.out.step hk0
      obtain ⟨j, hj⟩ : ∃ j, bs.q.length - k = j := ⟨_, rfl⟩
      have hj1 : j < bs.q.length := by omega
      have ej : IntKind.i64.wrap ((bs.q.length : Int) - (k : Int)) = (j : Int) := by rw [IntKind.wrap_i64]; omega
      obtain ⟨xk, hxk⟩ : ∃ xk, bs.q[bs.q.length - k]'(by omega) = xk := ⟨_, rfl⟩
      have hxj : bs.q[j] = xk := by rw [← hxk]; congr 1; exact hj.symm
      rw [hxk] at htk
      have CI := implTaken_any b (.slice ua b.q.length uc) m wr z1 z2 RU_r.reads (HMX.out _ B_r)
      have CEn := Lib.hid (fun wx (h : MsgsAt wx (.slice ua b.q.length uc) b.q) hm => implEnd_any b (.slice ua b.q.length uc) m wx z1 z2 h hm)
      rw [htk] at CI
      simp only [HT.out.more hk0] at CEn
      have HT' := Lib.hid ht'
      clear htk ht' hxk hj z1 z2 HT
      go_wp2_with (first | refine wpList_load_row rfl 26 (.tmp 12) rfl U rfl 26 (bcells (b) (.slice ua b.q.length uc)) (0, 0) _ XU_r Tryd.underlying26 rfl (by kernel_rfl) ?_)
      refine CI.mono ?_
      rintro e v2 ⟨V, uv, pre, post, rfl, ho, hp, hb⟩
      obtain ⟨va, vc, hu⟩ := hp.slice
      subst hu
      have RV_v := RowP.of ho hp (B := w.heap.size) B_r.size
      clear ho hp pre post V CI
      have Bv := below_end B_r hb
      have HGv := grown_trans HGr (grown_of_below hb (some U))
      have Xs_v := Xs_r.below hb
      have XU_v := XU_r.below hb
      have RU_v := RU_r.below hb
      have Rs_v := Rs_r.below hb
      clear hb Xs_r XU_r RU_r Rs_r B_r HGr Ms_r Xq_r Rq_r
      go_upto_region 17 with (fail)
      have hal : Below v2.heap.size v2 ((v2.alloc (.cells (bcells b' (.slice va b'.q.length vc)) 26)).alloc (.cells #[.int .i64 xk.1, .int .i64 xk.2.1, .string xk.2.2.1, .int .i64 xk.2.2.2] 29)) := ((Below.refl _ _).alloc (Nat.le_refl _) _).alloc (by simp) _
      have hsz : (v2.alloc (.cells (bcells b' (.slice va b'.q.length vc)) 26)).heap.size = v2.heap.size + 1 := by simp
      have XV_3 : BBox ((v2.alloc (.cells (bcells b' (.slice va b'.q.length vc)) 26)).alloc (.cells #[.int .i64 xk.1, .int .i64 xk.2.1, .string xk.2.2.1, .int .i64 xk.2.2.2] 29)) v2.heap.size 26 b' (.slice va b'.q.length vc) := (BBox.new v2 26 b' (.slice va b'.q.length vc)).below ((Below.refl _ _).alloc (Nat.le_refl _) _)
      have MV_3 : MAt ((v2.alloc (.cells (bcells b' (.slice va b'.q.length vc)) 26)).alloc (.cells #[.int .i64 xk.1, .int .i64 xk.2.1, .string xk.2.2.1, .int .i64 xk.2.2.2] 29)) (v2.heap.size + 1) xk := by unfold MAt; rw [← hsz]; exact heap_alloc_new _ _
      have B3 := below_end Bv hal
      have HG3 := grown_trans HGv (grown_of_below hal (some U))
      have Xs_3 := Xs_v.below hal
      have XU_3 := XU_v.below hal
      have RU_3 := Lib.hid (RU_v.below hal)
      have RV_3 := RV_v.below hal
      have Rs_3 := Rs_v.below hal
      have lV : U < v2.heap.size := XU_v.lt
      change Code.wp _ _ _ _ ((v2.alloc (.cells (bcells b' (.slice va b'.q.length vc)) 26)).alloc (.cells #[.int .i64 xk.1, .int .i64 xk.2.1, .string xk.2.2.1, .int .i64 xk.2.2.2] 29))
      generalize ((v2.alloc (.cells (bcells b' (.slice va b'.q.length vc)) 26)).alloc (.cells #[.int .i64 xk.1, .int .i64 xk.2.1, .string xk.2.2.1, .int .i64 xk.2.2.2] 29)) = w3 at XV_3 MV_3 B3 HG3 Xs_3 XU_3 RU_3 RV_3 Rs_3 ⊢
      obtain ⟨FV, hFV⟩ : ∃ G, v2.heap.size + 1 = G := ⟨_, rfl⟩
      rw [hFV] at MV_3 ⊢
      obtain ⟨GV, hGV⟩ : ∃ G, v2.heap.size = G := ⟨_, rfl⟩
      rw [hGV] at XV_3 lV ⊢
      clear hGV hFV hsz hal Xs_v XU_v RU_v Rs_v RV_v Bv HGv
      obtain ⟨bk, ob, rfl, hin⟩ : ∃ bk ob, usa = some ⟨bk, ob, none⟩ ∧ MsgsIn w3 bk ob bs.q := by
        obtain ⟨_, _, he, _, _, h⟩ := Rs_3.reads
        cases he
        rcases h with h | h
        · rw [h] at hj1; simp at hj1
        · exact h
      obtain ⟨p0, p1, p2, p3⟩ := hin j hj1
      rw [hxj] at p0 p1 p2 p3
      have x2 : w3.cell? ⟨GS, 2, none⟩ = some (.slice (some ⟨bk, ob, none⟩) bs.q.length usc) := cell_of_heap Xs_3 2
      have mne := fun wx => msg_neq_same xk wx
      have hbd : Below w3.heap.size w3 w3.drew := (Below.refl _ _).drew
      obtain ⟨xq, xf, xp, xd⟩ := xk
      clear hin hxj
      refine wp_region_held_drew (S := fun wx => BBox wx U 26 b (.slice ua b.q.length uc) ∧ MAt wx FV (xq, xf, xp, xd) ∧ wx.cell? ⟨GS, 2, none⟩ = some (.slice (some ⟨bk, ob, none⟩) bs.q.length usc) ∧ wx.cell? ⟨bk, ob + j * 4, none⟩ = some (.int .i64 xq) ∧ wx.cell? ⟨bk, ob + j * 4 + 1, none⟩ = some (.int .i64 xf) ∧ wx.cell? ⟨bk, ob + j * 4 + 2, none⟩ = some (.string xp) ∧ wx.cell? ⟨bk, ob + j * 4 + 3, none⟩ = some (.int .i64 xd) ∧ Hid (Below w3.heap.size w3 wx)) (by kernel_rfl) ?_ (fun hHeld => ?_)
      · exact ⟨XU_3.below hbd, MV_3.below hbd, cell_keep x2 hbd, cell_keep p0 hbd, cell_keep p1 hbd, cell_keep p2 hbd, cell_keep p3 hbd, Lib.hid hbd⟩
      change wpAnyH _ _ _ _ _ 19 #[false, false, false, false, false, false, false, false, false, false, false, false, false, false, false, false, false, false, false] _ _
      clear x2 p0 p1 p2 p3 hbd
      refine wpAnyH_take (i := 0) (v := ?_) rfl (by kernel_rfl) (by kernel_rfl) (by kernel_rfl) (fun _ _ _ h => h) (Or.inl ⟨by rfl, ?_⟩) (by assumption) ?_
      rotate_left
      · intro w hSw; (try dsimp only at hSw); go_simp; try with_reducible rfl
      try simp only [Act.put, List.getElem_toArray, List.getElem_cons_succ, List.getElem_cons_zero, List.setIfInBounds_toArray, List.set_cons_zero, List.set_cons_succ]
      refine wpAnyH_take (i := 1) (v := ?_) rfl (by kernel_rfl) (by kernel_rfl) (by kernel_rfl) (fun _ _ _ h => h) (Or.inl ⟨by rfl, ?_⟩) (by assumption) ?_
      rotate_left
      · intro w hSw; (try dsimp only at hSw); go_simp; try with_reducible rfl
      try simp only [Act.put, List.getElem_toArray, List.getElem_cons_succ, List.getElem_cons_zero, List.setIfInBounds_toArray, List.set_cons_zero, List.set_cons_succ]
      refine wpAnyH_take (i := 2) (v := ?_) rfl (by kernel_rfl) (by kernel_rfl) (by kernel_rfl) (fun _ _ _ h => h) (Or.inl ⟨by rfl, ?_⟩) (by assumption) ?_
      rotate_left
      · intro w hSw; (try dsimp only at hSw); go_simp; try with_reducible rfl
      try simp only [Act.put, List.getElem_toArray, List.getElem_cons_succ, List.getElem_cons_zero, List.setIfInBounds_toArray, List.set_cons_zero, List.set_cons_succ]
      refine wpAnyH_take (i := 3) (v := bagg b (.slice ua b.q.length uc)) rfl (by kernel_rfl) (by kernel_rfl) (by kernel_rfl) (fun _ _ _ h => h) (yieldsIf_load_mid rfl 26 (.tmp 12) rfl U 0 rfl [.int .i64 b.cap, .int .i64 b.pol, (.slice ua b.q.length uc), .int .i64 b.ofr, .int .i64 b.rcv, .int .i64 b.drp, .int .i64 b.mrg, .bool b.shut] _ (fun wx h => range_of_heap h.1) Tryd.underlying26 rfl (by kernel_rfl)) (by assumption) ?_
      try simp only [Act.put, List.getElem_toArray, List.getElem_cons_succ, List.getElem_cons_zero, List.setIfInBounds_toArray, List.set_cons_zero, List.set_cons_succ]
      refine wpAnyH_ready (rs := [4]) (by kernel_rfl) (by simp) (AllReadyH.cons rfl (fun K hK => ?_) AllReadyH.nil)
      rw [if_pos (by rfl)]
      go_simp; go_at_call 13; refine (CEn.out _ (RU_3.out.reads.below hHeld.2.2.2.2.2.2.2.out) (HMX.out _ (below_end B3 hHeld.2.2.2.2.2.2.2.out))).mono ?_; rintro e wa ⟨rfl, hb⟩; go_wp2_with fail
      refine hK.out _ _ ?_ (fun hHeld => ?_)
      · exact ⟨hHeld.1.below hb, hHeld.2.1.below hb, cell_keep hHeld.2.2.1 hb, cell_keep hHeld.2.2.2.1 hb, cell_keep hHeld.2.2.2.2.1 hb, cell_keep hHeld.2.2.2.2.2.1 hb, cell_keep hHeld.2.2.2.2.2.2.1 hb, Lib.hid (below_end hHeld.2.2.2.2.2.2.2.out hb)⟩
      clear hK K
      try simp only [Act.put, List.getElem_toArray, List.getElem_cons_succ, List.getElem_cons_zero, List.setIfInBounds_toArray, List.set_cons_zero, List.set_cons_succ]
      clear hb
      refine wpAnyH_take (i := 5) (v := ?_) rfl (by kernel_rfl) (by kernel_rfl) (by kernel_rfl) (fun _ _ _ h => h) (Or.inl ⟨by rfl, ?_⟩) (by assumption) ?_
      rotate_left
      · intro w hSw; (try dsimp only at hSw); go_simp; try with_reducible rfl
      try simp only [Act.put, List.getElem_toArray, List.getElem_cons_succ, List.getElem_cons_zero, List.setIfInBounds_toArray, List.set_cons_zero, List.set_cons_succ]
      refine wpAnyH_take (i := 6) (v := ?_) rfl (by kernel_rfl) (by kernel_rfl) (by kernel_rfl) (fun _ _ _ h => h) (Or.inl ⟨by rfl, ?_⟩) (by assumption) ?_
      rotate_left
      · intro w hSw; (try dsimp only at hSw); go_simp; try with_reducible rfl
      try simp only [Act.put, List.getElem_toArray, List.getElem_cons_succ, List.getElem_cons_zero, List.setIfInBounds_toArray, List.set_cons_zero, List.set_cons_succ]
      refine wpAnyH_take (i := 7) (v := magg (xq, xf, xp, xd)) rfl (by kernel_rfl) (by kernel_rfl) (by kernel_rfl) (fun _ _ _ h => h) (yieldsIf_load_mid rfl 29 (.tmp 15) rfl FV 0 rfl [.int .i64 (xq, xf, xp, xd).1, .int .i64 (xq, xf, xp, xd).2.1, .string (xq, xf, xp, xd).2.2.1, .int .i64 (xq, xf, xp, xd).2.2.2] _ (fun wx h => range_of_heap h.2.1) Tryd.underlying29 rfl (by kernel_rfl)) (by assumption) ?_
      try simp only [Act.put, List.getElem_toArray, List.getElem_cons_succ, List.getElem_cons_zero, List.setIfInBounds_toArray, List.set_cons_zero, List.set_cons_succ]
      refine wpAnyH_take (i := 8) (v := ?_) rfl (by kernel_rfl) (by kernel_rfl) (by kernel_rfl) (fun _ _ _ h => h) (Or.inl ⟨by rfl, ?_⟩) (by assumption) ?_
      rotate_left
      · intro w hSw; (try dsimp only at hSw); go_simp; try with_reducible rfl
      try simp only [Act.put, List.getElem_toArray, List.getElem_cons_succ, List.getElem_cons_zero, List.setIfInBounds_toArray, List.set_cons_zero, List.set_cons_succ]
      refine wpAnyH_take (i := 9) (v := ?_) rfl (by kernel_rfl) (by kernel_rfl) (by kernel_rfl) (fun _ _ _ h => h) (Or.inl ⟨by rfl, ?_⟩) (by assumption) ?_
      rotate_left
      · intro w hSw; (try dsimp only at hSw); go_simp; try with_reducible rfl
      try simp only [Act.put, List.getElem_toArray, List.getElem_cons_succ, List.getElem_cons_zero, List.setIfInBounds_toArray, List.set_cons_zero, List.set_cons_succ]
      refine wpAnyH_take (i := 10) (v := ?_) rfl (by kernel_rfl) (by kernel_rfl) (by kernel_rfl) (fun _ _ _ h => h) (Or.inl ⟨by rfl, ?_⟩) (by assumption) ?_
      rotate_left
      · intro w hSw; (try dsimp only at hSw); go_simp; try with_reducible rfl
      try simp only [Act.put, List.getElem_toArray, List.getElem_cons_succ, List.getElem_cons_zero, List.setIfInBounds_toArray, List.set_cons_zero, List.set_cons_succ]
      refine wpAnyH_take (i := 11) (v := ?_) rfl (by kernel_rfl) (by kernel_rfl) (by kernel_rfl) (fun _ _ _ h => h) (Or.inl ⟨by rfl, ?_⟩) (by assumption) ?_
      rotate_left
      · intro w hSw; (try dsimp only at hSw); go_simp; try with_reducible rfl
      try simp only [Act.put, List.getElem_toArray, List.getElem_cons_succ, List.getElem_cons_zero, List.setIfInBounds_toArray, List.set_cons_zero, List.set_cons_succ]
      refine wpAnyH_take (i := 12) (v := ?_) rfl (by kernel_rfl) (by kernel_rfl) (by kernel_rfl) (fun _ _ _ h => h) (Or.inl ⟨by rfl, ?_⟩) (by assumption) ?_
      rotate_left
      · intro w hSw; (try dsimp only at hSw); go_simp; try with_reducible rfl
      try simp only [Act.put, List.getElem_toArray, List.getElem_cons_succ, List.getElem_cons_zero, List.setIfInBounds_toArray, List.set_cons_zero, List.set_cons_succ]
      refine wpAnyH_take (i := 13) (v := ?_) rfl (by kernel_rfl) (by kernel_rfl) (by kernel_rfl) (fun _ _ _ h => h) (Or.inl ⟨by rfl, ?_⟩) (by assumption) ?_
      rotate_left
      · intro w hSw; (try dsimp only at hSw); go_simp; try with_reducible rfl
      try simp only [Act.put, List.getElem_toArray, List.getElem_cons_succ, List.getElem_cons_zero, List.setIfInBounds_toArray, List.set_cons_zero, List.set_cons_succ]
      refine wpAnyH_take (i := 14) (v := ?_) rfl (by kernel_rfl) (by kernel_rfl) (by kernel_rfl) (fun _ _ _ h => h) (Or.inl ⟨by rfl, ?_⟩) (by assumption) ?_
      rotate_left
      · intro w hSw; (try dsimp only at hSw); go_simp; try with_reducible rfl
      try simp only [Act.put, List.getElem_toArray, List.getElem_cons_succ, List.getElem_cons_zero, List.setIfInBounds_toArray, List.set_cons_zero, List.set_cons_succ]
      refine wpAnyH_take (i := 15) (v := ?_) rfl (by kernel_rfl) (by kernel_rfl) (by kernel_rfl) (fun _ _ _ h => h) (Or.inl ⟨by rfl, ?_⟩) (by assumption) ?_
      rotate_left
      · intro w hSw; (try dsimp only at hSw); go_simp; try with_reducible rfl
      try simp only [Act.put, List.getElem_toArray, List.getElem_cons_succ, List.getElem_cons_zero, List.setIfInBounds_toArray, List.set_cons_zero, List.set_cons_succ]
      refine wpAnyH_take (i := 16) (v := ?_) rfl (by kernel_rfl) (by kernel_rfl) (by kernel_rfl) (fun _ _ _ h => h) (Or.inl ⟨by rfl, ?_⟩) (by assumption) ?_
      rotate_left
      · intro w hSw; (try dsimp only at hSw); go_simp; try with_reducible rfl
      try simp only [Act.put, List.getElem_toArray, List.getElem_cons_succ, List.getElem_cons_zero, List.setIfInBounds_toArray, List.set_cons_zero, List.set_cons_succ]
      refine wpAnyH_take (i := 17) (v := ?_) rfl (by kernel_rfl) (by kernel_rfl) (by kernel_rfl) (fun _ _ _ h => h) (Or.inl ⟨by rfl, ?_⟩) (by assumption) ?_
      rotate_left
      · intro w hSw; (try dsimp only at hSw); go_simp; try with_reducible rfl
      try simp only [Act.put, List.getElem_toArray, List.getElem_cons_succ, List.getElem_cons_zero, List.setIfInBounds_toArray, List.set_cons_zero, List.set_cons_succ]
      refine wpAnyH_take (i := 18) (v := ?_) rfl (by kernel_rfl) (by kernel_rfl) (by kernel_rfl) (fun _ _ _ h => h) (Or.inl ⟨by rfl, ?_⟩) (by assumption) ?_
      rotate_left
      · intro w hSw; (try dsimp only at hSw); go_simp; try with_reducible rfl
      try simp only [Act.put, List.getElem_toArray, List.getElem_cons_succ, List.getElem_cons_zero, List.setIfInBounds_toArray, List.set_cons_zero, List.set_cons_succ]
      refine wpAnyH_done (by kernel_rfl) ?_ _
      have hb4 := hHeld.2.2.2.2.2.2.2.out
      have XV_4 := XV_3.below hb4
      have XU_4 := XU_3.below hb4
      have RV_4 := RV_3.below hb4
      have HG4 := grown_trans HG3 (grown_of_below hb4 (some U))
      clear hHeld hb4 XV_3 XU_3 RV_3 HG3 MV_3 Xs_3 RU_3 Rs_3 B3 CEn mne
      go_upto_region 15 with (first | refine wpList_load_row rfl 26 (.tmp 14) rfl GV rfl 26 (bcells (b') (.slice va b'.q.length vc)) (0, 0) _ XV_4 Tryd.underlying26 rfl (by kernel_rfl) ?_ | refine wpList_store_rowTo rfl 26 (.tmp 12) _ rfl rfl U (bcells (b') (.slice va b'.q.length vc)) rfl rfl 26 _ XU_4 (by kernel_rfl) rfl (bcells_one _ _ _ _) ?_)
      have HG5 := Lib.hid (grown_trans HG4 (grown_setRow wa U (bcells b' (.slice va b'.q.length vc))))
      have XU_5 := Lib.hid (show BBox (wa.setRow U (bcells b' (.slice va b'.q.length vc))) U 26 b' (.slice va b'.q.length vc) from setRow_heap _ XU_4)
      have RV_5 := Lib.hid (RowP.offB (ds := bcells b' (.slice va b'.q.length vc)) RV_4 XU_4)
      generalize wa.setRow U (bcells b' (.slice va b'.q.length vc)) = w5 at HG5 XU_5 RV_5 ⊢
      clear HG4 XU_4 RV_4 XV_4
      go_wp2
      go_roundw
      case rel => exact ⟨k - 1, b', _, by omega, by go_num, HT', XU_5, RV_5, HG5⟩
      case measure => simp [intOf]; omega
    · obtain rfl : k = 0 := by omega
      have CO := specOffered_any b (.slice ua b.q.length uc) (1, 0, ⟨#[97]⟩, 0) wr z1 z2 (by decide) RU_r.reads
      have CEn := Lib.hid (fun wx (h : MsgsAt wx (.slice ua b.q.length uc) b.q) hm => implEnd_any b (.slice ua b.q.length uc) m wx z1 z2 h hm)
      simp only [HT.out.ends] at CEn
      have hof := HT.out.offer (1, 0, ⟨#[97]⟩, 0) (by decide)
      obtain ⟨B1, hB1⟩ : ∃ B1, (offerM b (1, 0, ⟨#[97]⟩, 0)).1 = B1 := ⟨_, rfl⟩
      obtain ⟨K, hK⟩ : ∃ K, (offerM b (1, 0, ⟨#[97]⟩, 0)).2 = K := ⟨_, rfl⟩
      simp only [hB1, hK] at CO hof
      clear hB1 hK z1 z2 HT Xs_r Rs_r
      go_wp2_with (first | refine wpList_load_row rfl 26 (.tmp 12) rfl U rfl 26 (bcells (b) (.slice ua b.q.length uc)) (0, 0) _ XU_r Tryd.underlying26 rfl (by kernel_rfl) ?_)
      refine CO.mono ?_
      rintro e v2 ⟨uo, rfl, ho, hb⟩
      obtain ⟨oa, oc, hu⟩ := own_slice ho
      subst hu
      have Bv := below_end B_r hb
      have XU_v := XU_r.below hb
      have RU_v := RU_r.below hb
      have Ms_v := Ms_r.below hb
      have Xq_v := Xq_r.below hb
      have Rq_v := Rq_r.below hb
      clear ho hb CO B_r XU_r RU_r Ms_r Xq_r Rq_r HGr
      go_upto_region 21 with (fail)
      have hal : Below v2.heap.size v2 (v2.alloc (.cells (bcells B1 (.slice oa B1.q.length oc)) 26)) := (Below.refl _ _).alloc (Nat.le_refl _) _
      have B3 := below_end Bv hal
      have XU_3 := XU_v.below hal
      have RU_3 := Lib.hid (RU_v.below hal)
      have Ms_3 := Ms_v.below hal
      have Xq_3 := Xq_v.below hal
      have Rq_3 := Rq_v.below hal
      change Code.wp _ _ _ _ (v2.alloc (.cells (bcells B1 (.slice oa B1.q.length oc)) 26))
      generalize v2.alloc (.cells (bcells B1 (.slice oa B1.q.length oc)) 26) = w3 at B3 XU_3 RU_3 Ms_3 Xq_3 Rq_3 ⊢
      clear hal Bv XU_v RU_v Ms_v Xq_v Rq_v
      have HB3 := Lib.hid B3
      have hbd : Below w3.heap.size w3 w3.drew := (Below.refl _ _).drew
      have y3 : w3.cell? ⟨U, 3, none⟩ = some (.int .i64 b.ofr) := cell_of_heap XU_3 3
      have y2 : w3.cell? ⟨GQ, 2, none⟩ = some (.slice uqa bq.q.length uqc) := cell_of_heap Xq_3 2
      have meq := fun wx => msg_eq_same xm wx
      clear B3
      cases ok
      · skip
        by_cases hK1 : K = 1
        · have gK : (K == 1) = true := by simp [hK1]
          clear hK1 hof
          refine wp_region_held_drew (S := fun wx => BBox wx U 26 b (.slice ua b.q.length uc) ∧ MAt wx FX xm ∧ wx.cell? ⟨U, 3, none⟩ = some (.int .i64 b.ofr) ∧ wx.cell? ⟨GQ, 2, none⟩ = some (.slice uqa bq.q.length uqc) ∧ Hid (Below w3.heap.size w3 wx)) (by kernel_rfl) ?_ (fun hHeld => ?_)
          · exact ⟨XU_3.below hbd, Ms_3.below hbd, cell_keep y3 hbd, cell_keep y2 hbd, Lib.hid hbd⟩
          change wpAnyH _ _ _ _ _ 24 #[false, false, false, false, false, false, false, false, false, false, false, false, false, false, false, false, false, false, false, false, false, false, false, false] _ _
          clear hbd y3 y2
          refine wpAnyH_take (i := 0) (v := bagg b (.slice ua b.q.length uc)) rfl (by kernel_rfl) (by kernel_rfl) (by kernel_rfl) (fun _ _ _ h => h) (yieldsIf_load_mid rfl 26 (.tmp 12) rfl U 0 rfl [.int .i64 b.cap, .int .i64 b.pol, (.slice ua b.q.length uc), .int .i64 b.ofr, .int .i64 b.rcv, .int .i64 b.drp, .int .i64 b.mrg, .bool b.shut] _ (fun wx h => range_of_heap h.1) Tryd.underlying26 rfl (by kernel_rfl)) (by assumption) ?_
          try simp only [Act.put, List.getElem_toArray, List.getElem_cons_succ, List.getElem_cons_zero, List.setIfInBounds_toArray, List.set_cons_zero, List.set_cons_succ]
          refine wpAnyH_ready (rs := [1]) (by kernel_rfl) (by simp) (AllReadyH.cons rfl (fun K hK => ?_) AllReadyH.nil)
          rw [if_pos (by rfl)]
          go_simp; go_at_call 13; refine (CEn.out _ (RU_3.out.reads.below hHeld.2.2.2.2.out) (HMX.out _ (below_end HB3.out hHeld.2.2.2.2.out))).mono ?_; rintro e wa ⟨rfl, hb⟩; go_wp2_with fail
          refine hK.out _ _ ?_ (fun hHeld => ?_)
          · exact ⟨hHeld.1.below hb, hHeld.2.1.below hb, cell_keep hHeld.2.2.1 hb, cell_keep hHeld.2.2.2.1 hb, Lib.hid (below_end hHeld.2.2.2.2.out hb)⟩
          clear hK K
          try simp only [Act.put, List.getElem_toArray, List.getElem_cons_succ, List.getElem_cons_zero, List.setIfInBounds_toArray, List.set_cons_zero, List.set_cons_succ]
          clear hb
          refine wpAnyH_take (i := 2) (v := ?_) rfl (by kernel_rfl) (by kernel_rfl) (by kernel_rfl) (fun _ _ _ h => h) (Or.inl ⟨by rfl, ?_⟩) (by assumption) ?_
          rotate_left
          · intro w hSw; (try dsimp only at hSw); go_simp; try with_reducible rfl
          try simp only [Act.put, List.getElem_toArray, List.getElem_cons_succ, List.getElem_cons_zero, List.setIfInBounds_toArray, List.set_cons_zero, List.set_cons_succ]
          refine wpAnyH_take (i := 3) (v := ?_) rfl (by kernel_rfl) (by kernel_rfl) (by kernel_rfl) (fun _ _ _ h => h) (Or.inl ⟨by rfl, ?_⟩) (by assumption) ?_
          rotate_left
          · intro w hSw; (try dsimp only at hSw); go_simp; try with_reducible rfl
          try simp only [Act.put, List.getElem_toArray, List.getElem_cons_succ, List.getElem_cons_zero, List.setIfInBounds_toArray, List.set_cons_zero, List.set_cons_succ]
          refine wpAnyH_take (i := 4) (v := ?_) rfl (by kernel_rfl) (by kernel_rfl) (by kernel_rfl) (fun _ _ _ h => h) (Or.inl ⟨by rfl, ?_⟩) (by assumption) ?_
          rotate_left
          · intro w hSw; (try dsimp only at hSw); go_simp; try with_reducible rfl
          try simp only [Act.put, List.getElem_toArray, List.getElem_cons_succ, List.getElem_cons_zero, List.setIfInBounds_toArray, List.set_cons_zero, List.set_cons_succ]
          refine wpAnyH_take (i := 5) (v := ?_) rfl (by kernel_rfl) (by kernel_rfl) (by kernel_rfl) (fun _ _ _ h => h) (Or.inl ⟨by rfl, ?_⟩) (by assumption) ?_
          rotate_left
          · intro w hSw; (try dsimp only at hSw); go_simp; try with_reducible rfl
          try simp only [Act.put, List.getElem_toArray, List.getElem_cons_succ, List.getElem_cons_zero, List.setIfInBounds_toArray, List.set_cons_zero, List.set_cons_succ]
          refine wpAnyH_take (i := 6) (v := undef) rfl (by kernel_rfl) (by kernel_rfl) (by kernel_rfl) (fun _ _ _ h => h) (Or.inr ⟨by rfl, rfl⟩) (by assumption) ?_
          try simp only [Act.put, List.getElem_toArray, List.getElem_cons_succ, List.getElem_cons_zero, List.setIfInBounds_toArray, List.set_cons_zero, List.set_cons_succ]
          refine wpAnyH_take (i := 7) (v := undef) rfl (by kernel_rfl) (by kernel_rfl) (by kernel_rfl) (fun _ _ _ h => h) (Or.inr ⟨by rfl, rfl⟩) (by assumption) ?_
          try simp only [Act.put, List.getElem_toArray, List.getElem_cons_succ, List.getElem_cons_zero, List.setIfInBounds_toArray, List.set_cons_zero, List.set_cons_succ]
          refine wpAnyH_take (i := 8) (v := undef) rfl (by kernel_rfl) (by kernel_rfl) (by kernel_rfl) (fun _ _ _ h => h) (Or.inr ⟨by rfl, rfl⟩) (by assumption) ?_
          try simp only [Act.put, List.getElem_toArray, List.getElem_cons_succ, List.getElem_cons_zero, List.setIfInBounds_toArray, List.set_cons_zero, List.set_cons_succ]
          refine wpAnyH_take (i := 9) (v := ?_) rfl (by kernel_rfl) (by kernel_rfl) (by kernel_rfl) (fun _ _ _ h => h) (Or.inl ⟨by rfl, ?_⟩) (by assumption) ?_
          rotate_left
          · intro w hSw; (try dsimp only at hSw); go_simp; try with_reducible rfl
          try simp only [Act.put, List.getElem_toArray, List.getElem_cons_succ, List.getElem_cons_zero, List.setIfInBounds_toArray, List.set_cons_zero, List.set_cons_succ]
          refine wpAnyH_take (i := 10) (v := ?_) rfl (by kernel_rfl) (by kernel_rfl) (by kernel_rfl) (fun _ _ _ h => h) (Or.inl ⟨by rfl, ?_⟩) (by assumption) ?_
          rotate_left
          · intro w hSw; (try dsimp only at hSw); go_simp; try with_reducible rfl
          try simp only [Act.put, List.getElem_toArray, List.getElem_cons_succ, List.getElem_cons_zero, List.setIfInBounds_toArray, List.set_cons_zero, List.set_cons_succ]
          refine wpAnyH_take (i := 11) (v := ?_) rfl (by kernel_rfl) (by kernel_rfl) (by kernel_rfl) (fun _ _ _ h => h) (Or.inl ⟨by rfl, ?_⟩) (by assumption) ?_
          rotate_left
          · intro w hSw; (try dsimp only at hSw); go_simp; try with_reducible rfl
          try simp only [Act.put, List.getElem_toArray, List.getElem_cons_succ, List.getElem_cons_zero, List.setIfInBounds_toArray, List.set_cons_zero, List.set_cons_succ]
          refine wpAnyH_take (i := 12) (v := ?_) rfl (by kernel_rfl) (by kernel_rfl) (by kernel_rfl) (fun _ _ _ h => h) (Or.inl ⟨by rfl, ?_⟩) (by assumption) ?_
          rotate_left
          · intro w hSw; (try dsimp only at hSw); go_simp; try with_reducible rfl
          try simp only [Act.put, List.getElem_toArray, List.getElem_cons_succ, List.getElem_cons_zero, List.setIfInBounds_toArray, List.set_cons_zero, List.set_cons_succ]
          refine wpAnyH_take (i := 13) (v := ?_) rfl (by kernel_rfl) (by kernel_rfl) (by kernel_rfl) (fun _ _ _ h => h) (Or.inl ⟨by rfl, ?_⟩) (by assumption) ?_
          rotate_left
          · intro w hSw; (try dsimp only at hSw); go_simp; try with_reducible rfl
          try simp only [Act.put, List.getElem_toArray, List.getElem_cons_succ, List.getElem_cons_zero, List.setIfInBounds_toArray, List.set_cons_zero, List.set_cons_succ]
          refine wpAnyH_take (i := 14) (v := ?_) rfl (by kernel_rfl) (by kernel_rfl) (by kernel_rfl) (fun _ _ _ h => h) (Or.inl ⟨by rfl, ?_⟩) (by assumption) ?_
          rotate_left
          · intro w hSw; (try dsimp only at hSw); go_simp; try with_reducible rfl
          try simp only [Act.put, List.getElem_toArray, List.getElem_cons_succ, List.getElem_cons_zero, List.setIfInBounds_toArray, List.set_cons_zero, List.set_cons_succ]
          refine wpAnyH_take (i := 15) (v := undef) rfl (by kernel_rfl) (by kernel_rfl) (by kernel_rfl) (fun _ _ _ h => h) (Or.inr ⟨by rfl, rfl⟩) (by assumption) ?_
          try simp only [Act.put, List.getElem_toArray, List.getElem_cons_succ, List.getElem_cons_zero, List.setIfInBounds_toArray, List.set_cons_zero, List.set_cons_succ]
          refine wpAnyH_take (i := 16) (v := undef) rfl (by kernel_rfl) (by kernel_rfl) (by kernel_rfl) (fun _ _ _ h => h) (Or.inr ⟨by rfl, rfl⟩) (by assumption) ?_
          try simp only [Act.put, List.getElem_toArray, List.getElem_cons_succ, List.getElem_cons_zero, List.setIfInBounds_toArray, List.set_cons_zero, List.set_cons_succ]
          refine wpAnyH_take (i := 17) (v := undef) rfl (by kernel_rfl) (by kernel_rfl) (by kernel_rfl) (fun _ _ _ h => h) (Or.inr ⟨by rfl, rfl⟩) (by assumption) ?_
          try simp only [Act.put, List.getElem_toArray, List.getElem_cons_succ, List.getElem_cons_zero, List.setIfInBounds_toArray, List.set_cons_zero, List.set_cons_succ]
          refine wpAnyH_take (i := 18) (v := undef) rfl (by kernel_rfl) (by kernel_rfl) (by kernel_rfl) (fun _ _ _ h => h) (Or.inr ⟨by rfl, rfl⟩) (by assumption) ?_
          try simp only [Act.put, List.getElem_toArray, List.getElem_cons_succ, List.getElem_cons_zero, List.setIfInBounds_toArray, List.set_cons_zero, List.set_cons_succ]
          refine wpAnyH_take (i := 19) (v := undef) rfl (by kernel_rfl) (by kernel_rfl) (by kernel_rfl) (fun _ _ _ h => h) (Or.inr ⟨by rfl, rfl⟩) (by assumption) ?_
          try simp only [Act.put, List.getElem_toArray, List.getElem_cons_succ, List.getElem_cons_zero, List.setIfInBounds_toArray, List.set_cons_zero, List.set_cons_succ]
          refine wpAnyH_take (i := 20) (v := undef) rfl (by kernel_rfl) (by kernel_rfl) (by kernel_rfl) (fun _ _ _ h => h) (Or.inr ⟨by rfl, rfl⟩) (by assumption) ?_
          try simp only [Act.put, List.getElem_toArray, List.getElem_cons_succ, List.getElem_cons_zero, List.setIfInBounds_toArray, List.set_cons_zero, List.set_cons_succ]
          refine wpAnyH_take (i := 21) (v := ?_) rfl (by kernel_rfl) (by kernel_rfl) (by kernel_rfl) (fun _ _ _ h => h) (Or.inl ⟨by rfl, ?_⟩) (by assumption) ?_
          rotate_left
          · intro w hSw; (try dsimp only at hSw); go_simp; try with_reducible rfl
          try simp only [Act.put, List.getElem_toArray, List.getElem_cons_succ, List.getElem_cons_zero, List.setIfInBounds_toArray, List.set_cons_zero, List.set_cons_succ]
          refine wpAnyH_take (i := 22) (v := ?_) rfl (by kernel_rfl) (by kernel_rfl) (by kernel_rfl) (fun _ _ _ h => h) (Or.inl ⟨by rfl, ?_⟩) (by assumption) ?_
          rotate_left
          · intro w hSw; (try dsimp only at hSw); go_simp; try with_reducible rfl
          try simp only [Act.put, List.getElem_toArray, List.getElem_cons_succ, List.getElem_cons_zero, List.setIfInBounds_toArray, List.set_cons_zero, List.set_cons_succ]
          refine wpAnyH_take (i := 23) (v := ?_) rfl (by kernel_rfl) (by kernel_rfl) (by kernel_rfl) (fun _ _ _ h => h) (Or.inl ⟨by rfl, ?_⟩) (by assumption) ?_
          rotate_left
          · intro w hSw; (try dsimp only at hSw); go_simp; try with_reducible rfl
          try simp only [Act.put, List.getElem_toArray, List.getElem_cons_succ, List.getElem_cons_zero, List.setIfInBounds_toArray, List.set_cons_zero, List.set_cons_succ]
          refine wpAnyH_done (by kernel_rfl) ?_ _
          have BF := below_end HB3.out hHeld.2.2.2.2.out
          clear hHeld
          go_wp2
          go_ret
          exact ⟨rfl, BF⟩
        · have gK : (K == 1) = false := by simp [hK1]
          have gO : (b.ofr == 100000) = true := by have h := hof.resolve_left hK1; simp [h]
          clear hK1 hof
          refine wp_region_held_drew (S := fun wx => BBox wx U 26 b (.slice ua b.q.length uc) ∧ MAt wx FX xm ∧ wx.cell? ⟨U, 3, none⟩ = some (.int .i64 b.ofr) ∧ wx.cell? ⟨GQ, 2, none⟩ = some (.slice uqa bq.q.length uqc) ∧ Hid (Below w3.heap.size w3 wx)) (by kernel_rfl) ?_ (fun hHeld => ?_)
          · exact ⟨XU_3.below hbd, Ms_3.below hbd, cell_keep y3 hbd, cell_keep y2 hbd, Lib.hid hbd⟩
          change wpAnyH _ _ _ _ _ 24 #[false, false, false, false, false, false, false, false, false, false, false, false, false, false, false, false, false, false, false, false, false, false, false, false] _ _
          clear hbd y3 y2
          refine wpAnyH_take (i := 0) (v := bagg b (.slice ua b.q.length uc)) rfl (by kernel_rfl) (by kernel_rfl) (by kernel_rfl) (fun _ _ _ h => h) (yieldsIf_load_mid rfl 26 (.tmp 12) rfl U 0 rfl [.int .i64 b.cap, .int .i64 b.pol, (.slice ua b.q.length uc), .int .i64 b.ofr, .int .i64 b.rcv, .int .i64 b.drp, .int .i64 b.mrg, .bool b.shut] _ (fun wx h => range_of_heap h.1) Tryd.underlying26 rfl (by kernel_rfl)) (by assumption) ?_
          try simp only [Act.put, List.getElem_toArray, List.getElem_cons_succ, List.getElem_cons_zero, List.setIfInBounds_toArray, List.set_cons_zero, List.set_cons_succ]
          refine wpAnyH_ready (rs := [1]) (by kernel_rfl) (by simp) (AllReadyH.cons rfl (fun K hK => ?_) AllReadyH.nil)
          rw [if_pos (by rfl)]
          go_simp; go_at_call 13; refine (CEn.out _ (RU_3.out.reads.below hHeld.2.2.2.2.out) (HMX.out _ (below_end HB3.out hHeld.2.2.2.2.out))).mono ?_; rintro e wa ⟨rfl, hb⟩; go_wp2_with fail
          refine hK.out _ _ ?_ (fun hHeld => ?_)
          · exact ⟨hHeld.1.below hb, hHeld.2.1.below hb, cell_keep hHeld.2.2.1 hb, cell_keep hHeld.2.2.2.1 hb, Lib.hid (below_end hHeld.2.2.2.2.out hb)⟩
          clear hK K
          try simp only [Act.put, List.getElem_toArray, List.getElem_cons_succ, List.getElem_cons_zero, List.setIfInBounds_toArray, List.set_cons_zero, List.set_cons_succ]
          clear hb
          refine wpAnyH_take (i := 2) (v := ?_) rfl (by kernel_rfl) (by kernel_rfl) (by kernel_rfl) (fun _ _ _ h => h) (Or.inl ⟨by rfl, ?_⟩) (by assumption) ?_
          rotate_left
          · intro w hSw; (try dsimp only at hSw); go_simp; try with_reducible rfl
          try simp only [Act.put, List.getElem_toArray, List.getElem_cons_succ, List.getElem_cons_zero, List.setIfInBounds_toArray, List.set_cons_zero, List.set_cons_succ]
          refine wpAnyH_take (i := 3) (v := ?_) rfl (by kernel_rfl) (by kernel_rfl) (by kernel_rfl) (fun _ _ _ h => h) (Or.inl ⟨by rfl, ?_⟩) (by assumption) ?_
          rotate_left
          · intro w hSw; (try dsimp only at hSw); go_simp; try with_reducible rfl
          try simp only [Act.put, List.getElem_toArray, List.getElem_cons_succ, List.getElem_cons_zero, List.setIfInBounds_toArray, List.set_cons_zero, List.set_cons_succ]
          refine wpAnyH_take (i := 4) (v := ?_) rfl (by kernel_rfl) (by kernel_rfl) (by kernel_rfl) (fun _ _ _ h => h) (Or.inl ⟨by rfl, ?_⟩) (by assumption) ?_
          rotate_left
          · intro w hSw; (try dsimp only at hSw); go_simp; try with_reducible rfl
          try simp only [Act.put, List.getElem_toArray, List.getElem_cons_succ, List.getElem_cons_zero, List.setIfInBounds_toArray, List.set_cons_zero, List.set_cons_succ]
          refine wpAnyH_take (i := 5) (v := ?_) rfl (by kernel_rfl) (by kernel_rfl) (by kernel_rfl) (fun _ _ _ h => h) (Or.inl ⟨by rfl, ?_⟩) (by assumption) ?_
          rotate_left
          · intro w hSw; (try dsimp only at hSw); go_simp; try with_reducible rfl
          try simp only [Act.put, List.getElem_toArray, List.getElem_cons_succ, List.getElem_cons_zero, List.setIfInBounds_toArray, List.set_cons_zero, List.set_cons_succ]
          refine wpAnyH_take (i := 6) (v := ?_) rfl (by kernel_rfl) (by kernel_rfl) (by kernel_rfl) (fun _ _ _ h => h) (Or.inl ⟨by rfl, ?_⟩) (by assumption) ?_
          rotate_left
          · intro w hSw; (try dsimp only at hSw); go_simp; try with_reducible rfl
          try simp only [Act.put, List.getElem_toArray, List.getElem_cons_succ, List.getElem_cons_zero, List.setIfInBounds_toArray, List.set_cons_zero, List.set_cons_succ]
          refine wpAnyH_take (i := 7) (v := ?_) rfl (by kernel_rfl) (by kernel_rfl) (by kernel_rfl) (fun _ _ _ h => h) (Or.inl ⟨by rfl, ?_⟩) (by assumption) ?_
          rotate_left
          · intro w hSw; (try dsimp only at hSw); go_simp; try with_reducible rfl
          try simp only [Act.put, List.getElem_toArray, List.getElem_cons_succ, List.getElem_cons_zero, List.setIfInBounds_toArray, List.set_cons_zero, List.set_cons_succ]
          refine wpAnyH_take (i := 8) (v := ?_) rfl (by kernel_rfl) (by kernel_rfl) (by kernel_rfl) (fun _ _ _ h => h) (Or.inl ⟨by rfl, ?_⟩) (by assumption) ?_
          rotate_left
          · intro w hSw; (try dsimp only at hSw); go_simp; try with_reducible rfl
          try simp only [Act.put, List.getElem_toArray, List.getElem_cons_succ, List.getElem_cons_zero, List.setIfInBounds_toArray, List.set_cons_zero, List.set_cons_succ]
          refine wpAnyH_take (i := 9) (v := ?_) rfl (by kernel_rfl) (by kernel_rfl) (by kernel_rfl) (fun _ _ _ h => h) (Or.inl ⟨by rfl, ?_⟩) (by assumption) ?_
          rotate_left
          · intro w hSw; (try dsimp only at hSw); go_simp; try with_reducible rfl
          try simp only [Act.put, List.getElem_toArray, List.getElem_cons_succ, List.getElem_cons_zero, List.setIfInBounds_toArray, List.set_cons_zero, List.set_cons_succ]
          refine wpAnyH_take (i := 10) (v := ?_) rfl (by kernel_rfl) (by kernel_rfl) (by kernel_rfl) (fun _ _ _ h => h) (Or.inl ⟨by rfl, ?_⟩) (by assumption) ?_
          rotate_left
          · intro w hSw; (try dsimp only at hSw); go_simp; try with_reducible rfl
          try simp only [Act.put, List.getElem_toArray, List.getElem_cons_succ, List.getElem_cons_zero, List.setIfInBounds_toArray, List.set_cons_zero, List.set_cons_succ]
          refine wpAnyH_take (i := 11) (v := ?_) rfl (by kernel_rfl) (by kernel_rfl) (by kernel_rfl) (fun _ _ _ h => h) (Or.inl ⟨by rfl, ?_⟩) (by assumption) ?_
          rotate_left
          · intro w hSw; (try dsimp only at hSw); go_simp; try with_reducible rfl
          try simp only [Act.put, List.getElem_toArray, List.getElem_cons_succ, List.getElem_cons_zero, List.setIfInBounds_toArray, List.set_cons_zero, List.set_cons_succ]
          refine wpAnyH_take (i := 12) (v := ?_) rfl (by kernel_rfl) (by kernel_rfl) (by kernel_rfl) (fun _ _ _ h => h) (Or.inl ⟨by rfl, ?_⟩) (by assumption) ?_
          rotate_left
          · intro w hSw; (try dsimp only at hSw); go_simp; try with_reducible rfl
          try simp only [Act.put, List.getElem_toArray, List.getElem_cons_succ, List.getElem_cons_zero, List.setIfInBounds_toArray, List.set_cons_zero, List.set_cons_succ]
          refine wpAnyH_take (i := 13) (v := ?_) rfl (by kernel_rfl) (by kernel_rfl) (by kernel_rfl) (fun _ _ _ h => h) (Or.inl ⟨by rfl, ?_⟩) (by assumption) ?_
          rotate_left
          · intro w hSw; (try dsimp only at hSw); go_simp; try with_reducible rfl
          try simp only [Act.put, List.getElem_toArray, List.getElem_cons_succ, List.getElem_cons_zero, List.setIfInBounds_toArray, List.set_cons_zero, List.set_cons_succ]
          refine wpAnyH_take (i := 14) (v := ?_) rfl (by kernel_rfl) (by kernel_rfl) (by kernel_rfl) (fun _ _ _ h => h) (Or.inl ⟨by rfl, ?_⟩) (by assumption) ?_
          rotate_left
          · intro w hSw; (try dsimp only at hSw); go_simp; try with_reducible rfl
          try simp only [Act.put, List.getElem_toArray, List.getElem_cons_succ, List.getElem_cons_zero, List.setIfInBounds_toArray, List.set_cons_zero, List.set_cons_succ]
          refine wpAnyH_take (i := 15) (v := undef) rfl (by kernel_rfl) (by kernel_rfl) (by kernel_rfl) (fun _ _ _ h => h) (Or.inr ⟨by rfl, rfl⟩) (by assumption) ?_
          try simp only [Act.put, List.getElem_toArray, List.getElem_cons_succ, List.getElem_cons_zero, List.setIfInBounds_toArray, List.set_cons_zero, List.set_cons_succ]
          refine wpAnyH_take (i := 16) (v := undef) rfl (by kernel_rfl) (by kernel_rfl) (by kernel_rfl) (fun _ _ _ h => h) (Or.inr ⟨by rfl, rfl⟩) (by assumption) ?_
          try simp only [Act.put, List.getElem_toArray, List.getElem_cons_succ, List.getElem_cons_zero, List.setIfInBounds_toArray, List.set_cons_zero, List.set_cons_succ]
          refine wpAnyH_take (i := 17) (v := undef) rfl (by kernel_rfl) (by kernel_rfl) (by kernel_rfl) (fun _ _ _ h => h) (Or.inr ⟨by rfl, rfl⟩) (by assumption) ?_
          try simp only [Act.put, List.getElem_toArray, List.getElem_cons_succ, List.getElem_cons_zero, List.setIfInBounds_toArray, List.set_cons_zero, List.set_cons_succ]
          refine wpAnyH_take (i := 18) (v := undef) rfl (by kernel_rfl) (by kernel_rfl) (by kernel_rfl) (fun _ _ _ h => h) (Or.inr ⟨by rfl, rfl⟩) (by assumption) ?_
          try simp only [Act.put, List.getElem_toArray, List.getElem_cons_succ, List.getElem_cons_zero, List.setIfInBounds_toArray, List.set_cons_zero, List.set_cons_succ]
          refine wpAnyH_take (i := 19) (v := undef) rfl (by kernel_rfl) (by kernel_rfl) (by kernel_rfl) (fun _ _ _ h => h) (Or.inr ⟨by rfl, rfl⟩) (by assumption) ?_
          try simp only [Act.put, List.getElem_toArray, List.getElem_cons_succ, List.getElem_cons_zero, List.setIfInBounds_toArray, List.set_cons_zero, List.set_cons_succ]
          refine wpAnyH_take (i := 20) (v := undef) rfl (by kernel_rfl) (by kernel_rfl) (by kernel_rfl) (fun _ _ _ h => h) (Or.inr ⟨by rfl, rfl⟩) (by assumption) ?_
          try simp only [Act.put, List.getElem_toArray, List.getElem_cons_succ, List.getElem_cons_zero, List.setIfInBounds_toArray, List.set_cons_zero, List.set_cons_succ]
          refine wpAnyH_take (i := 21) (v := ?_) rfl (by kernel_rfl) (by kernel_rfl) (by kernel_rfl) (fun _ _ _ h => h) (Or.inl ⟨by rfl, ?_⟩) (by assumption) ?_
          rotate_left
          · intro w hSw; (try dsimp only at hSw); go_simp; try with_reducible rfl
          try simp only [Act.put, List.getElem_toArray, List.getElem_cons_succ, List.getElem_cons_zero, List.setIfInBounds_toArray, List.set_cons_zero, List.set_cons_succ]
          refine wpAnyH_take (i := 22) (v := ?_) rfl (by kernel_rfl) (by kernel_rfl) (by kernel_rfl) (fun _ _ _ h => h) (Or.inl ⟨by rfl, ?_⟩) (by assumption) ?_
          rotate_left
          · intro w hSw; (try dsimp only at hSw); go_simp; try with_reducible rfl
          try simp only [Act.put, List.getElem_toArray, List.getElem_cons_succ, List.getElem_cons_zero, List.setIfInBounds_toArray, List.set_cons_zero, List.set_cons_succ]
          refine wpAnyH_take (i := 23) (v := ?_) rfl (by kernel_rfl) (by kernel_rfl) (by kernel_rfl) (fun _ _ _ h => h) (Or.inl ⟨by rfl, ?_⟩) (by assumption) ?_
          rotate_left
          · intro w hSw; (try dsimp only at hSw); go_simp; try with_reducible rfl
          try simp only [Act.put, List.getElem_toArray, List.getElem_cons_succ, List.getElem_cons_zero, List.setIfInBounds_toArray, List.set_cons_zero, List.set_cons_succ]
          refine wpAnyH_done (by kernel_rfl) ?_ _
          have BF := below_end HB3.out hHeld.2.2.2.2.out
          clear hHeld
          go_wp2
          go_ret
          exact ⟨rfl, BF⟩
      · skip
        obtain ⟨h0, hx0⟩ := HF.out rfl
        obtain ⟨bk, ob, hus, hin⟩ : ∃ bk ob, uqa = some ⟨bk, ob, none⟩ ∧ MsgsIn w3 bk ob bq.q := by
          obtain ⟨_, _, he, _, _, h⟩ := Rq_3.reads
          cases he
          rcases h with h | h
          · rw [h] at h0; simp at h0
          · exact h
        obtain ⟨p0, p1, p2, p3⟩ := hin 0 h0
        rw [hx0] at p0 p1 p2 p3
        simp only [Nat.zero_mul, Nat.add_zero] at p0 p1 p2 p3
        rw [hus] at y2 ⊢
        clear hin hus hx0
        by_cases hK1 : K = 1
        · have gK : (K == 1) = true := by simp [hK1]
          clear hK1 hof
          refine wp_region_held_drew (S := fun wx => BBox wx U 26 b (.slice ua b.q.length uc) ∧ MAt wx FX xm ∧ wx.cell? ⟨U, 3, none⟩ = some (.int .i64 b.ofr) ∧ wx.cell? ⟨GQ, 2, none⟩ = some (.slice (some ⟨bk, ob, none⟩) bq.q.length uqc) ∧ wx.cell? ⟨bk, ob, none⟩ = some (.int .i64 xm.1) ∧ wx.cell? ⟨bk, ob + 1, none⟩ = some (.int .i64 xm.2.1) ∧ wx.cell? ⟨bk, ob + 2, none⟩ = some (.string xm.2.2.1) ∧ wx.cell? ⟨bk, ob + 3, none⟩ = some (.int .i64 xm.2.2.2) ∧ Hid (Below w3.heap.size w3 wx)) (by kernel_rfl) ?_ (fun hHeld => ?_)
          · exact ⟨XU_3.below hbd, Ms_3.below hbd, cell_keep y3 hbd, cell_keep y2 hbd, cell_keep p0 hbd, cell_keep p1 hbd, cell_keep p2 hbd, cell_keep p3 hbd, Lib.hid hbd⟩
          change wpAnyH _ _ _ _ _ 24 #[false, false, false, false, false, false, false, false, false, false, false, false, false, false, false, false, false, false, false, false, false, false, false, false] _ _
          clear hbd y3 y2
          refine wpAnyH_take (i := 0) (v := bagg b (.slice ua b.q.length uc)) rfl (by kernel_rfl) (by kernel_rfl) (by kernel_rfl) (fun _ _ _ h => h) (yieldsIf_load_mid rfl 26 (.tmp 12) rfl U 0 rfl [.int .i64 b.cap, .int .i64 b.pol, (.slice ua b.q.length uc), .int .i64 b.ofr, .int .i64 b.rcv, .int .i64 b.drp, .int .i64 b.mrg, .bool b.shut] _ (fun wx h => range_of_heap h.1) Tryd.underlying26 rfl (by kernel_rfl)) (by assumption) ?_
          try simp only [Act.put, List.getElem_toArray, List.getElem_cons_succ, List.getElem_cons_zero, List.setIfInBounds_toArray, List.set_cons_zero, List.set_cons_succ]
          refine wpAnyH_ready (rs := [1]) (by kernel_rfl) (by simp) (AllReadyH.cons rfl (fun K hK => ?_) AllReadyH.nil)
          rw [if_pos (by rfl)]
          go_simp; go_at_call 13; refine (CEn.out _ (RU_3.out.reads.below hHeld.2.2.2.2.2.2.2.2.out) (HMX.out _ (below_end HB3.out hHeld.2.2.2.2.2.2.2.2.out))).mono ?_; rintro e wa ⟨rfl, hb⟩; go_wp2_with fail
          refine hK.out _ _ ?_ (fun hHeld => ?_)
          · exact ⟨hHeld.1.below hb, hHeld.2.1.below hb, cell_keep hHeld.2.2.1 hb, cell_keep hHeld.2.2.2.1 hb, cell_keep hHeld.2.2.2.2.1 hb, cell_keep hHeld.2.2.2.2.2.1 hb, cell_keep hHeld.2.2.2.2.2.2.1 hb, cell_keep hHeld.2.2.2.2.2.2.2.1 hb, Lib.hid (below_end hHeld.2.2.2.2.2.2.2.2.out hb)⟩
          clear hK K
          try simp only [Act.put, List.getElem_toArray, List.getElem_cons_succ, List.getElem_cons_zero, List.setIfInBounds_toArray, List.set_cons_zero, List.set_cons_succ]
          clear hb
          refine wpAnyH_take (i := 2) (v := ?_) rfl (by kernel_rfl) (by kernel_rfl) (by kernel_rfl) (fun _ _ _ h => h) (Or.inl ⟨by rfl, ?_⟩) (by assumption) ?_
          rotate_left
          · intro w hSw; (try dsimp only at hSw); go_simp; try with_reducible rfl
          try simp only [Act.put, List.getElem_toArray, List.getElem_cons_succ, List.getElem_cons_zero, List.setIfInBounds_toArray, List.set_cons_zero, List.set_cons_succ]
          refine wpAnyH_take (i := 3) (v := ?_) rfl (by kernel_rfl) (by kernel_rfl) (by kernel_rfl) (fun _ _ _ h => h) (Or.inl ⟨by rfl, ?_⟩) (by assumption) ?_
          rotate_left
          · intro w hSw; (try dsimp only at hSw); go_simp; try with_reducible rfl
          try simp only [Act.put, List.getElem_toArray, List.getElem_cons_succ, List.getElem_cons_zero, List.setIfInBounds_toArray, List.set_cons_zero, List.set_cons_succ]
          refine wpAnyH_take (i := 4) (v := ?_) rfl (by kernel_rfl) (by kernel_rfl) (by kernel_rfl) (fun _ _ _ h => h) (Or.inl ⟨by rfl, ?_⟩) (by assumption) ?_
          rotate_left
          · intro w hSw; (try dsimp only at hSw); go_simp; try with_reducible rfl
          try simp only [Act.put, List.getElem_toArray, List.getElem_cons_succ, List.getElem_cons_zero, List.setIfInBounds_toArray, List.set_cons_zero, List.set_cons_succ]
          refine wpAnyH_take (i := 5) (v := ?_) rfl (by kernel_rfl) (by kernel_rfl) (by kernel_rfl) (fun _ _ _ h => h) (Or.inl ⟨by rfl, ?_⟩) (by assumption) ?_
          rotate_left
          · intro w hSw; (try dsimp only at hSw); go_simp; try with_reducible rfl
          try simp only [Act.put, List.getElem_toArray, List.getElem_cons_succ, List.getElem_cons_zero, List.setIfInBounds_toArray, List.set_cons_zero, List.set_cons_succ]
          refine wpAnyH_take (i := 6) (v := undef) rfl (by kernel_rfl) (by kernel_rfl) (by kernel_rfl) (fun _ _ _ h => h) (Or.inr ⟨by rfl, rfl⟩) (by assumption) ?_
          try simp only [Act.put, List.getElem_toArray, List.getElem_cons_succ, List.getElem_cons_zero, List.setIfInBounds_toArray, List.set_cons_zero, List.set_cons_succ]
          refine wpAnyH_take (i := 7) (v := undef) rfl (by kernel_rfl) (by kernel_rfl) (by kernel_rfl) (fun _ _ _ h => h) (Or.inr ⟨by rfl, rfl⟩) (by assumption) ?_
          try simp only [Act.put, List.getElem_toArray, List.getElem_cons_succ, List.getElem_cons_zero, List.setIfInBounds_toArray, List.set_cons_zero, List.set_cons_succ]
          refine wpAnyH_take (i := 8) (v := undef) rfl (by kernel_rfl) (by kernel_rfl) (by kernel_rfl) (fun _ _ _ h => h) (Or.inr ⟨by rfl, rfl⟩) (by assumption) ?_
          try simp only [Act.put, List.getElem_toArray, List.getElem_cons_succ, List.getElem_cons_zero, List.setIfInBounds_toArray, List.set_cons_zero, List.set_cons_succ]
          refine wpAnyH_take (i := 9) (v := ?_) rfl (by kernel_rfl) (by kernel_rfl) (by kernel_rfl) (fun _ _ _ h => h) (Or.inl ⟨by rfl, ?_⟩) (by assumption) ?_
          rotate_left
          · intro w hSw; (try dsimp only at hSw); go_simp; try with_reducible rfl
          try simp only [Act.put, List.getElem_toArray, List.getElem_cons_succ, List.getElem_cons_zero, List.setIfInBounds_toArray, List.set_cons_zero, List.set_cons_succ]
          refine wpAnyH_take (i := 10) (v := ?_) rfl (by kernel_rfl) (by kernel_rfl) (by kernel_rfl) (fun _ _ _ h => h) (Or.inl ⟨by rfl, ?_⟩) (by assumption) ?_
          rotate_left
          · intro w hSw; (try dsimp only at hSw); go_simp; try with_reducible rfl
          try simp only [Act.put, List.getElem_toArray, List.getElem_cons_succ, List.getElem_cons_zero, List.setIfInBounds_toArray, List.set_cons_zero, List.set_cons_succ]
          refine wpAnyH_take (i := 11) (v := ?_) rfl (by kernel_rfl) (by kernel_rfl) (by kernel_rfl) (fun _ _ _ h => h) (Or.inl ⟨by rfl, ?_⟩) (by assumption) ?_
          rotate_left
          · intro w hSw; (try dsimp only at hSw); go_simp; try with_reducible rfl
          try simp only [Act.put, List.getElem_toArray, List.getElem_cons_succ, List.getElem_cons_zero, List.setIfInBounds_toArray, List.set_cons_zero, List.set_cons_succ]
          refine wpAnyH_take (i := 12) (v := ?_) rfl (by kernel_rfl) (by kernel_rfl) (by kernel_rfl) (fun _ _ _ h => h) (Or.inl ⟨by rfl, ?_⟩) (by assumption) ?_
          rotate_left
          · intro w hSw; (try dsimp only at hSw); go_simp; try with_reducible rfl
          try simp only [Act.put, List.getElem_toArray, List.getElem_cons_succ, List.getElem_cons_zero, List.setIfInBounds_toArray, List.set_cons_zero, List.set_cons_succ]
          refine wpAnyH_take (i := 13) (v := ?_) rfl (by kernel_rfl) (by kernel_rfl) (by kernel_rfl) (fun _ _ _ h => h) (Or.inl ⟨by rfl, ?_⟩) (by assumption) ?_
          rotate_left
          · intro w hSw; (try dsimp only at hSw); go_simp; try with_reducible rfl
          try simp only [Act.put, List.getElem_toArray, List.getElem_cons_succ, List.getElem_cons_zero, List.setIfInBounds_toArray, List.set_cons_zero, List.set_cons_succ]
          refine wpAnyH_take (i := 14) (v := ?_) rfl (by kernel_rfl) (by kernel_rfl) (by kernel_rfl) (fun _ _ _ h => h) (Or.inl ⟨by rfl, ?_⟩) (by assumption) ?_
          rotate_left
          · intro w hSw; (try dsimp only at hSw); go_simp; try with_reducible rfl
          try simp only [Act.put, List.getElem_toArray, List.getElem_cons_succ, List.getElem_cons_zero, List.setIfInBounds_toArray, List.set_cons_zero, List.set_cons_succ]
          refine wpAnyH_take (i := 15) (v := magg xm) rfl (by kernel_rfl) (by kernel_rfl) (by kernel_rfl) (fun _ _ _ h => h) (yieldsIf_load_mid rfl 29 (.tmp 5) rfl FX 0 rfl [.int .i64 xm.1, .int .i64 xm.2.1, .string xm.2.2.1, .int .i64 xm.2.2.2] _ (fun wx h => range_of_heap h.2.1) Tryd.underlying29 rfl (by kernel_rfl)) (by assumption) ?_
          try simp only [Act.put, List.getElem_toArray, List.getElem_cons_succ, List.getElem_cons_zero, List.setIfInBounds_toArray, List.set_cons_zero, List.set_cons_succ]
          refine wpAnyH_take (i := 16) (v := ?_) rfl (by kernel_rfl) (by kernel_rfl) (by kernel_rfl) (fun _ _ _ h => h) (Or.inl ⟨by rfl, ?_⟩) (by assumption) ?_
          rotate_left
          · intro w hSw; (try dsimp only at hSw); go_simp; try with_reducible rfl
          try simp only [Act.put, List.getElem_toArray, List.getElem_cons_succ, List.getElem_cons_zero, List.setIfInBounds_toArray, List.set_cons_zero, List.set_cons_succ]
          refine wpAnyH_take (i := 17) (v := ?_) rfl (by kernel_rfl) (by kernel_rfl) (by kernel_rfl) (fun _ _ _ h => h) (Or.inl ⟨by rfl, ?_⟩) (by assumption) ?_
          rotate_left
          · intro w hSw; (try dsimp only at hSw); go_simp; try with_reducible rfl
          try simp only [Act.put, List.getElem_toArray, List.getElem_cons_succ, List.getElem_cons_zero, List.setIfInBounds_toArray, List.set_cons_zero, List.set_cons_succ]
          refine wpAnyH_take (i := 18) (v := ?_) rfl (by kernel_rfl) (by kernel_rfl) (by kernel_rfl) (fun _ _ _ h => h) (Or.inl ⟨by rfl, ?_⟩) (by assumption) ?_
          rotate_left
          · intro w hSw; (try dsimp only at hSw); go_simp; try with_reducible rfl
          try simp only [Act.put, List.getElem_toArray, List.getElem_cons_succ, List.getElem_cons_zero, List.setIfInBounds_toArray, List.set_cons_zero, List.set_cons_succ]
          refine wpAnyH_take (i := 19) (v := ?_) rfl (by kernel_rfl) (by kernel_rfl) (by kernel_rfl) (fun _ _ _ h => h) (Or.inl ⟨by rfl, ?_⟩) (by assumption) ?_
          rotate_left
          · intro w hSw; (try dsimp only at hSw); go_simp; try with_reducible rfl
          try simp only [Act.put, List.getElem_toArray, List.getElem_cons_succ, List.getElem_cons_zero, List.setIfInBounds_toArray, List.set_cons_zero, List.set_cons_succ]
          refine wpAnyH_take (i := 20) (v := ?_) rfl (by kernel_rfl) (by kernel_rfl) (by kernel_rfl) (fun _ _ _ h => h) (Or.inl ⟨by rfl, ?_⟩) (by assumption) ?_
          rotate_left
          · intro w hSw; (try dsimp only at hSw); go_simp; try with_reducible rfl
          try simp only [Act.put, List.getElem_toArray, List.getElem_cons_succ, List.getElem_cons_zero, List.setIfInBounds_toArray, List.set_cons_zero, List.set_cons_succ]
          refine wpAnyH_take (i := 21) (v := ?_) rfl (by kernel_rfl) (by kernel_rfl) (by kernel_rfl) (fun _ _ _ h => h) (Or.inl ⟨by rfl, ?_⟩) (by assumption) ?_
          rotate_left
          · intro w hSw; (try dsimp only at hSw); go_simp; try with_reducible rfl
          try simp only [Act.put, List.getElem_toArray, List.getElem_cons_succ, List.getElem_cons_zero, List.setIfInBounds_toArray, List.set_cons_zero, List.set_cons_succ]
          refine wpAnyH_take (i := 22) (v := ?_) rfl (by kernel_rfl) (by kernel_rfl) (by kernel_rfl) (fun _ _ _ h => h) (Or.inl ⟨by rfl, ?_⟩) (by assumption) ?_
          rotate_left
          · intro w hSw; (try dsimp only at hSw); go_simp; try with_reducible rfl
          try simp only [Act.put, List.getElem_toArray, List.getElem_cons_succ, List.getElem_cons_zero, List.setIfInBounds_toArray, List.set_cons_zero, List.set_cons_succ]
          refine wpAnyH_take (i := 23) (v := ?_) rfl (by kernel_rfl) (by kernel_rfl) (by kernel_rfl) (fun _ _ _ h => h) (Or.inl ⟨by rfl, ?_⟩) (by assumption) ?_
          rotate_left
          · intro w hSw; (try dsimp only at hSw); go_simp; try with_reducible rfl
          try simp only [Act.put, List.getElem_toArray, List.getElem_cons_succ, List.getElem_cons_zero, List.setIfInBounds_toArray, List.set_cons_zero, List.set_cons_succ]
          refine wpAnyH_done (by kernel_rfl) ?_ _
          have BF := below_end HB3.out hHeld.2.2.2.2.2.2.2.2.out
          clear hHeld
          go_wp2
          go_ret
          exact ⟨rfl, BF⟩
        · have gK : (K == 1) = false := by simp [hK1]
          have gO : (b.ofr == 100000) = true := by have h := hof.resolve_left hK1; simp [h]
          clear hK1 hof
          refine wp_region_held_drew (S := fun wx => BBox wx U 26 b (.slice ua b.q.length uc) ∧ MAt wx FX xm ∧ wx.cell? ⟨U, 3, none⟩ = some (.int .i64 b.ofr) ∧ wx.cell? ⟨GQ, 2, none⟩ = some (.slice (some ⟨bk, ob, none⟩) bq.q.length uqc) ∧ wx.cell? ⟨bk, ob, none⟩ = some (.int .i64 xm.1) ∧ wx.cell? ⟨bk, ob + 1, none⟩ = some (.int .i64 xm.2.1) ∧ wx.cell? ⟨bk, ob + 2, none⟩ = some (.string xm.2.2.1) ∧ wx.cell? ⟨bk, ob + 3, none⟩ = some (.int .i64 xm.2.2.2) ∧ Hid (Below w3.heap.size w3 wx)) (by kernel_rfl) ?_ (fun hHeld => ?_)
          · exact ⟨XU_3.below hbd, Ms_3.below hbd, cell_keep y3 hbd, cell_keep y2 hbd, cell_keep p0 hbd, cell_keep p1 hbd, cell_keep p2 hbd, cell_keep p3 hbd, Lib.hid hbd⟩
          change wpAnyH _ _ _ _ _ 24 #[false, false, false, false, false, false, false, false, false, false, false, false, false, false, false, false, false, false, false, false, false, false, false, false] _ _
          clear hbd y3 y2
          refine wpAnyH_take (i := 0) (v := bagg b (.slice ua b.q.length uc)) rfl (by kernel_rfl) (by kernel_rfl) (by kernel_rfl) (fun _ _ _ h => h) (yieldsIf_load_mid rfl 26 (.tmp 12) rfl U 0 rfl [.int .i64 b.cap, .int .i64 b.pol, (.slice ua b.q.length uc), .int .i64 b.ofr, .int .i64 b.rcv, .int .i64 b.drp, .int .i64 b.mrg, .bool b.shut] _ (fun wx h => range_of_heap h.1) Tryd.underlying26 rfl (by kernel_rfl)) (by assumption) ?_
          try simp only [Act.put, List.getElem_toArray, List.getElem_cons_succ, List.getElem_cons_zero, List.setIfInBounds_toArray, List.set_cons_zero, List.set_cons_succ]
          refine wpAnyH_ready (rs := [1]) (by kernel_rfl) (by simp) (AllReadyH.cons rfl (fun K hK => ?_) AllReadyH.nil)
          rw [if_pos (by rfl)]
          go_simp; go_at_call 13; refine (CEn.out _ (RU_3.out.reads.below hHeld.2.2.2.2.2.2.2.2.out) (HMX.out _ (below_end HB3.out hHeld.2.2.2.2.2.2.2.2.out))).mono ?_; rintro e wa ⟨rfl, hb⟩; go_wp2_with fail
          refine hK.out _ _ ?_ (fun hHeld => ?_)
          · exact ⟨hHeld.1.below hb, hHeld.2.1.below hb, cell_keep hHeld.2.2.1 hb, cell_keep hHeld.2.2.2.1 hb, cell_keep hHeld.2.2.2.2.1 hb, cell_keep hHeld.2.2.2.2.2.1 hb, cell_keep hHeld.2.2.2.2.2.2.1 hb, cell_keep hHeld.2.2.2.2.2.2.2.1 hb, Lib.hid (below_end hHeld.2.2.2.2.2.2.2.2.out hb)⟩
          clear hK K
          try simp only [Act.put, List.getElem_toArray, List.getElem_cons_succ, List.getElem_cons_zero, List.setIfInBounds_toArray, List.set_cons_zero, List.set_cons_succ]
          clear hb
          refine wpAnyH_take (i := 2) (v := ?_) rfl (by kernel_rfl) (by kernel_rfl) (by kernel_rfl) (fun _ _ _ h => h) (Or.inl ⟨by rfl, ?_⟩) (by assumption) ?_
          rotate_left
          · intro w hSw; (try dsimp only at hSw); go_simp; try with_reducible rfl
          try simp only [Act.put, List.getElem_toArray, List.getElem_cons_succ, List.getElem_cons_zero, List.setIfInBounds_toArray, List.set_cons_zero, List.set_cons_succ]
          refine wpAnyH_take (i := 3) (v := ?_) rfl (by kernel_rfl) (by kernel_rfl) (by kernel_rfl) (fun _ _ _ h => h) (Or.inl ⟨by rfl, ?_⟩) (by assumption) ?_
          rotate_left
          · intro w hSw; (try dsimp only at hSw); go_simp; try with_reducible rfl
          try simp only [Act.put, List.getElem_toArray, List.getElem_cons_succ, List.getElem_cons_zero, List.setIfInBounds_toArray, List.set_cons_zero, List.set_cons_succ]
          refine wpAnyH_take (i := 4) (v := ?_) rfl (by kernel_rfl) (by kernel_rfl) (by kernel_rfl) (fun _ _ _ h => h) (Or.inl ⟨by rfl, ?_⟩) (by assumption) ?_
          rotate_left
          · intro w hSw; (try dsimp only at hSw); go_simp; try with_reducible rfl
          try simp only [Act.put, List.getElem_toArray, List.getElem_cons_succ, List.getElem_cons_zero, List.setIfInBounds_toArray, List.set_cons_zero, List.set_cons_succ]
          refine wpAnyH_take (i := 5) (v := ?_) rfl (by kernel_rfl) (by kernel_rfl) (by kernel_rfl) (fun _ _ _ h => h) (Or.inl ⟨by rfl, ?_⟩) (by assumption) ?_
          rotate_left
          · intro w hSw; (try dsimp only at hSw); go_simp; try with_reducible rfl
          try simp only [Act.put, List.getElem_toArray, List.getElem_cons_succ, List.getElem_cons_zero, List.setIfInBounds_toArray, List.set_cons_zero, List.set_cons_succ]
          refine wpAnyH_take (i := 6) (v := ?_) rfl (by kernel_rfl) (by kernel_rfl) (by kernel_rfl) (fun _ _ _ h => h) (Or.inl ⟨by rfl, ?_⟩) (by assumption) ?_
          rotate_left
          · intro w hSw; (try dsimp only at hSw); go_simp; try with_reducible rfl
          try simp only [Act.put, List.getElem_toArray, List.getElem_cons_succ, List.getElem_cons_zero, List.setIfInBounds_toArray, List.set_cons_zero, List.set_cons_succ]
          refine wpAnyH_take (i := 7) (v := ?_) rfl (by kernel_rfl) (by kernel_rfl) (by kernel_rfl) (fun _ _ _ h => h) (Or.inl ⟨by rfl, ?_⟩) (by assumption) ?_
          rotate_left
          · intro w hSw; (try dsimp only at hSw); go_simp; try with_reducible rfl
          try simp only [Act.put, List.getElem_toArray, List.getElem_cons_succ, List.getElem_cons_zero, List.setIfInBounds_toArray, List.set_cons_zero, List.set_cons_succ]
          refine wpAnyH_take (i := 8) (v := ?_) rfl (by kernel_rfl) (by kernel_rfl) (by kernel_rfl) (fun _ _ _ h => h) (Or.inl ⟨by rfl, ?_⟩) (by assumption) ?_
          rotate_left
          · intro w hSw; (try dsimp only at hSw); go_simp; try with_reducible rfl
          try simp only [Act.put, List.getElem_toArray, List.getElem_cons_succ, List.getElem_cons_zero, List.setIfInBounds_toArray, List.set_cons_zero, List.set_cons_succ]
          refine wpAnyH_take (i := 9) (v := ?_) rfl (by kernel_rfl) (by kernel_rfl) (by kernel_rfl) (fun _ _ _ h => h) (Or.inl ⟨by rfl, ?_⟩) (by assumption) ?_
          rotate_left
          · intro w hSw; (try dsimp only at hSw); go_simp; try with_reducible rfl
          try simp only [Act.put, List.getElem_toArray, List.getElem_cons_succ, List.getElem_cons_zero, List.setIfInBounds_toArray, List.set_cons_zero, List.set_cons_succ]
          refine wpAnyH_take (i := 10) (v := ?_) rfl (by kernel_rfl) (by kernel_rfl) (by kernel_rfl) (fun _ _ _ h => h) (Or.inl ⟨by rfl, ?_⟩) (by assumption) ?_
          rotate_left
          · intro w hSw; (try dsimp only at hSw); go_simp; try with_reducible rfl
          try simp only [Act.put, List.getElem_toArray, List.getElem_cons_succ, List.getElem_cons_zero, List.setIfInBounds_toArray, List.set_cons_zero, List.set_cons_succ]
          refine wpAnyH_take (i := 11) (v := ?_) rfl (by kernel_rfl) (by kernel_rfl) (by kernel_rfl) (fun _ _ _ h => h) (Or.inl ⟨by rfl, ?_⟩) (by assumption) ?_
          rotate_left
          · intro w hSw; (try dsimp only at hSw); go_simp; try with_reducible rfl
          try simp only [Act.put, List.getElem_toArray, List.getElem_cons_succ, List.getElem_cons_zero, List.setIfInBounds_toArray, List.set_cons_zero, List.set_cons_succ]
          refine wpAnyH_take (i := 12) (v := ?_) rfl (by kernel_rfl) (by kernel_rfl) (by kernel_rfl) (fun _ _ _ h => h) (Or.inl ⟨by rfl, ?_⟩) (by assumption) ?_
          rotate_left
          · intro w hSw; (try dsimp only at hSw); go_simp; try with_reducible rfl
          try simp only [Act.put, List.getElem_toArray, List.getElem_cons_succ, List.getElem_cons_zero, List.setIfInBounds_toArray, List.set_cons_zero, List.set_cons_succ]
          refine wpAnyH_take (i := 13) (v := ?_) rfl (by kernel_rfl) (by kernel_rfl) (by kernel_rfl) (fun _ _ _ h => h) (Or.inl ⟨by rfl, ?_⟩) (by assumption) ?_
          rotate_left
          · intro w hSw; (try dsimp only at hSw); go_simp; try with_reducible rfl
          try simp only [Act.put, List.getElem_toArray, List.getElem_cons_succ, List.getElem_cons_zero, List.setIfInBounds_toArray, List.set_cons_zero, List.set_cons_succ]
          refine wpAnyH_take (i := 14) (v := ?_) rfl (by kernel_rfl) (by kernel_rfl) (by kernel_rfl) (fun _ _ _ h => h) (Or.inl ⟨by rfl, ?_⟩) (by assumption) ?_
          rotate_left
          · intro w hSw; (try dsimp only at hSw); go_simp; try with_reducible rfl
          try simp only [Act.put, List.getElem_toArray, List.getElem_cons_succ, List.getElem_cons_zero, List.setIfInBounds_toArray, List.set_cons_zero, List.set_cons_succ]
          refine wpAnyH_take (i := 15) (v := magg xm) rfl (by kernel_rfl) (by kernel_rfl) (by kernel_rfl) (fun _ _ _ h => h) (yieldsIf_load_mid rfl 29 (.tmp 5) rfl FX 0 rfl [.int .i64 xm.1, .int .i64 xm.2.1, .string xm.2.2.1, .int .i64 xm.2.2.2] _ (fun wx h => range_of_heap h.2.1) Tryd.underlying29 rfl (by kernel_rfl)) (by assumption) ?_
          try simp only [Act.put, List.getElem_toArray, List.getElem_cons_succ, List.getElem_cons_zero, List.setIfInBounds_toArray, List.set_cons_zero, List.set_cons_succ]
          refine wpAnyH_take (i := 16) (v := ?_) rfl (by kernel_rfl) (by kernel_rfl) (by kernel_rfl) (fun _ _ _ h => h) (Or.inl ⟨by rfl, ?_⟩) (by assumption) ?_
          rotate_left
          · intro w hSw; (try dsimp only at hSw); go_simp; try with_reducible rfl
          try simp only [Act.put, List.getElem_toArray, List.getElem_cons_succ, List.getElem_cons_zero, List.setIfInBounds_toArray, List.set_cons_zero, List.set_cons_succ]
          refine wpAnyH_take (i := 17) (v := ?_) rfl (by kernel_rfl) (by kernel_rfl) (by kernel_rfl) (fun _ _ _ h => h) (Or.inl ⟨by rfl, ?_⟩) (by assumption) ?_
          rotate_left
          · intro w hSw; (try dsimp only at hSw); go_simp; try with_reducible rfl
          try simp only [Act.put, List.getElem_toArray, List.getElem_cons_succ, List.getElem_cons_zero, List.setIfInBounds_toArray, List.set_cons_zero, List.set_cons_succ]
          refine wpAnyH_take (i := 18) (v := ?_) rfl (by kernel_rfl) (by kernel_rfl) (by kernel_rfl) (fun _ _ _ h => h) (Or.inl ⟨by rfl, ?_⟩) (by assumption) ?_
          rotate_left
          · intro w hSw; (try dsimp only at hSw); go_simp; try with_reducible rfl
          try simp only [Act.put, List.getElem_toArray, List.getElem_cons_succ, List.getElem_cons_zero, List.setIfInBounds_toArray, List.set_cons_zero, List.set_cons_succ]
          refine wpAnyH_take (i := 19) (v := ?_) rfl (by kernel_rfl) (by kernel_rfl) (by kernel_rfl) (fun _ _ _ h => h) (Or.inl ⟨by rfl, ?_⟩) (by assumption) ?_
          rotate_left
          · intro w hSw; (try dsimp only at hSw); go_simp; try with_reducible rfl
          try simp only [Act.put, List.getElem_toArray, List.getElem_cons_succ, List.getElem_cons_zero, List.setIfInBounds_toArray, List.set_cons_zero, List.set_cons_succ]
          refine wpAnyH_take (i := 20) (v := ?_) rfl (by kernel_rfl) (by kernel_rfl) (by kernel_rfl) (fun _ _ _ h => h) (Or.inl ⟨by rfl, ?_⟩) (by assumption) ?_
          rotate_left
          · intro w hSw; (try dsimp only at hSw); go_simp; try with_reducible rfl
          try simp only [Act.put, List.getElem_toArray, List.getElem_cons_succ, List.getElem_cons_zero, List.setIfInBounds_toArray, List.set_cons_zero, List.set_cons_succ]
          refine wpAnyH_take (i := 21) (v := ?_) rfl (by kernel_rfl) (by kernel_rfl) (by kernel_rfl) (fun _ _ _ h => h) (Or.inl ⟨by rfl, ?_⟩) (by assumption) ?_
          rotate_left
          · intro w hSw; (try dsimp only at hSw); go_simp; try with_reducible rfl
          try simp only [Act.put, List.getElem_toArray, List.getElem_cons_succ, List.getElem_cons_zero, List.setIfInBounds_toArray, List.set_cons_zero, List.set_cons_succ]
          refine wpAnyH_take (i := 22) (v := ?_) rfl (by kernel_rfl) (by kernel_rfl) (by kernel_rfl) (fun _ _ _ h => h) (Or.inl ⟨by rfl, ?_⟩) (by assumption) ?_
          rotate_left
          · intro w hSw; (try dsimp only at hSw); go_simp; try with_reducible rfl
          try simp only [Act.put, List.getElem_toArray, List.getElem_cons_succ, List.getElem_cons_zero, List.setIfInBounds_toArray, List.set_cons_zero, List.set_cons_succ]
          refine wpAnyH_take (i := 23) (v := ?_) rfl (by kernel_rfl) (by kernel_rfl) (by kernel_rfl) (fun _ _ _ h => h) (Or.inl ⟨by rfl, ?_⟩) (by assumption) ?_
          rotate_left
          · intro w hSw; (try dsimp only at hSw); go_simp; try with_reducible rfl
          try simp only [Act.put, List.getElem_toArray, List.getElem_cons_succ, List.getElem_cons_zero, List.setIfInBounds_toArray, List.set_cons_zero, List.set_cons_succ]
          refine wpAnyH_done (by kernel_rfl) ?_ _
          have BF := below_end HB3.out hHeld.2.2.2.2.2.2.2.2.out
          clear hHeld
          go_wp2
          go_ret
          exact ⟨rfl, BF⟩

set_option maxRecDepth 100000 in
theorem contract (H : Type) (enc : TypeId × Value → H) (W : World) (base : Nat) (args : Array Value) (ds gs : List (DataW H)) (before : List MemPlace)
    (hval : ∀ (j : Nat) t v, Tryd.f3.params[j]? = some t → args[j]? = some v → Value.okWide Tryd.prog W .any base t v)
    (hW : DataW.Whole enc Tryd.prog Tryd.f3.params.toList Rows.fnTakenSpec.vars false W args.toList ds gs before) (hsh : W.ShapedOpen Tryd.prog) :
    Calls Tryd.prog 3 args W fun e W' => ∃ v, e = .returned v ∧ Rows.fnTakenSpec.post enc Tryd.prog Tryd.f3 false true false false W args v W' := by
  have hW' := hW
  obtain ⟨p, q, hA0, hV, rfl, hfz, hnd⟩ := hW
  have hA : DataW.TrodAll enc Tryd.prog W 0 (fun _ => true) true Tryd.f3.params.toList args.toList ds p := hA0
  rw [Tryd.params3] at hA hval
  obtain ⟨v0, vs0, d0, ds0, p0, q0, hargs, rfl, rfl, h0, r0⟩ := trodAll_cons hA
  obtain ⟨rfl, rfl, rfl⟩ := trodAll_nil r0
  obtain rfl : args = #[v0] := by cases args; simp_all
  obtain ⟨rfl, rfl⟩ := trodVars_none hV
  obtain ⟨a0, len0, cap0, rfl⟩ := okWide_slice Tryd.underlying22 (hval 0 22 v0 rfl rfl)
  have k0 := h0
  have lt0 : ∀ x ∈ p0, x.block < W.heap.size := by obtain ⟨m, hm⟩ := k0; exact DataW.trod_lt m _ _ _ hm
  have w0 : CodeAt W.heap.size a0 len0 W := by
    obtain ⟨fuel, hf⟩ := h0
    rcases open_ints Tryd.underlying22 Tryd.underlying5 (by kernel_rfl) hf with ⟨hcs, _⟩ | ⟨x, l, c, zs, hcs, _, hl, hm, hz, _, hcell, hwz⟩
    · simp [Value.cells] at hcs
      obtain ⟨rfl, rfl, rfl⟩ := hcs
      exact .inl rfl
    · simp [Value.cells] at hcs
      obtain ⟨rfl, rfl, rfl⟩ := hcs
      exact CodeAt.of_ints hl (by simpa using hz) hcell hwz
  clear hA0
  simp only [List.append_nil] at hW'
  obtain ⟨m, hm⟩ := maxLen_cell hsh
  refine (law W a0 len0 cap0 w0 m hm).mono fun e W' ⟨he, hg⟩ => ?_
  subst he
  exact ⟨_, rfl, _, _, _, [], _, [], hW', trodAll_cons_mk (shut_bool Tryd.underlying4 _) trodAll_mk0, trodAll_cons_mk (Below.trod laidOut (by kernel_rfl) (of_decide_eq_true (by kernel_rfl)) k0 hg lt0) (trodAll_mk0), rfl, hg.frame _, fun h => by cases h⟩

theorem reads (os : Os) {H : Type} (enc : TypeId × Value → H) : ∃ places, DataW.whole enc Tryd.prog ((World.laidAll Tryd.prog os Rows.fnTakenRow.laid).forCall (fun _ _ => 0) ⟨#[], #[(.slice none 0 0 : Value)], []⟩).memory Tryd.f3.params.toList Rows.fnTakenSpec.vars false (#[(.slice none 0 0 : Value)] : Array Value).toList 8 = some ([.nil], [], places) :=
  ⟨[], by kernel_rfl⟩

theorem laid_met (os : Os) : laidMetH Tryd.prog Rows.fnTakenRow.laid ((World.laidAll Tryd.prog os Rows.fnTakenRow.laid).forCall (fun _ _ => 0) ⟨#[], #[(.slice none 0 0 : Value)], []⟩).memory := by
  rw [MakeChecks.laidMetH_plain _ _ _ (by kernel_rfl)]
  exact laidMet_laidAll _ (by kernel_rfl) (by kernel_rfl)

set_option maxRecDepth 100000 in
theorem lifted (os : Os) (started : os.Started) (H : Type) (enc : TypeId × Value → H) (F : Stop.Interp) :
    ReturnsInHanded {} Tryd.checked os 3 .any ((OpenSpec.ofChange Rows.fnTakenSpec).preRow enc Tryd.prog Tryd.f3 Rows.fnTakenRow.domain false Rows.fnTakenRow.laid) (((OpenSpec.ofChange Rows.fnTakenSpec).at F).post enc Tryd.prog Tryd.f3 false true false false) := by
  obtain ⟨places, hx⟩ := reads os enc
  refine returnsInHanded_of_row (C := Tryd.checked) (s := OpenSpec.ofChange Rows.fnTakenSpec) own started (by kernel_rfl) Tryd.func3
    (witness_row_at (enc := enc) (C := Tryd.checked) false (World.laidAll Tryd.prog os Rows.fnTakenRow.laid) #[(.slice none 0 0 : Value)] (World.laidAll_os _ _ _) (by kernel_rfl) (by kernel_rfl) (by kernel_rfl)
      (OpenSpec.preRow_of_cond 8 hx (by kernel_rfl) (fun k hk => by cases hk) (by kernel_rfl) (laid_met os))) ?_
  intro W base args ds gs before hval hW _ _ _ _ hsh _
  exact contract H enc W base args ds gs before hval hW hsh

theorem said : Rows.FnTakenSaid :=
  OpenClaim.holds_of_cond 3 Tryd.f3 rfl rfl rfl rfl rfl rfl rfl ⟨rfl, rfl, rfl, rfl, rfl⟩ rfl rfl rfl rfl rfl (by kernel_rfl) Tryd.func3 (by kernel_rfl)
    (of_decide_eq_true (by kernel_rfl)) (by unfold Func.isWrapper; first | (rw [if_pos (by decide +kernel)]; kernel_rfl) | (rw [if_neg (by decide +kernel)]; exact ⟨rfl, rfl⟩))
    (fun os started H enc _ F => by rw [OpenClaim.pre_eq_preRow]; exact lifted os started H enc F)

theorem plain (f : FuncId) (fn : Func) (hf : Tryd.pinned.checked.prog.funcNamed Tryd.f3.name = some f) (hfn : Tryd.pinned.checked.prog.funcs[f]? = some fn) :
    ∀ (j : Nat) t, fn.params[j]? = some t → Tryd.pinned.checked.prog.wantsStandIn t = false := by
  obtain rfl : f = 3 := Option.some.inj ((show Tryd.prog.funcNamed Tryd.f3.name = some 3 by kernel_rfl).symm.trans hf) |>.symm
  obtain rfl : fn = Tryd.f3 := (Option.some.inj (Tryd.func3.symm.trans hfn)).symm
  intro j t ht
  rw [Tryd.params3] at ht
  have hm := Array.mem_of_getElem? ht
  have hall : (Tryd.f3.params.all fun u => !Tryd.prog.wantsStandIn u) = true := by kernel_rfl
  rw [Tryd.params3] at hall
  rw [Array.all_eq_true_iff_forall_mem] at hall
  have := hall t hm
  exact (show Tryd.prog.wantsStandIn t = false by simpa using this)

theorem card : Rows.FnTakenCardSaid :=
  Claim7.holds_tied_plain_at .later [] _ _ _ _ said (fun _ h => by cases h) (by kernel_rfl) (fun _ h => by cases h) fnTaken_row_tie rfl ⟨rfl, rfl⟩ (by kernel_rfl) rfl (fun f fn hf hfn => ⟨by kernel_rfl, plain f fn hf hfn⟩) (by kernel_rfl)
end Go.Proofs.YtfkikdoecoobgaaDoor.lawFnTaken
