/- Small texts, laid together. -/
import Derived.Test.YtnclkdhaabggkaaDoorZOffM
import Derived.Test.YtnclkdhaabggkaaDoorZB3
import Derived.Test.YtnclkdhaabggkaaDoorZB2
set_option linter.unusedSimpArgs false
set_option linter.unusedVariables false
/- The walk of impl.ShutOf. -/
namespace Go.Proofs.YtnclkdhaabggkaaDoor
open Go.RowKit

set_option maxRecDepth 100000 in
set_option maxHeartbeats 1600000 in
theorem implShut_any (b : BoxM) (v : Value) (m : Int) (w : World) (hl : b.q.length ≤ 1048576) (hs : ∀ x ∈ b.q, x.2.2.1.size ≤ 1048576) (hv : MsgsAt w v b.q) (hm : w.cell? ⟨0, 0, none⟩ = some (.int .i64 m)) :
    Calls Tryd.prog 15 #[bagg b v] w fun e w' => ∃ V u pre post, e = .returned (bagg (shutM b) u) ∧ MOwn w' w.heap.size V (pre ++ (shutM b).q ++ post) ∧ PartOf V pre.length (shutM b).q.length u ∧ Below w.heap.size w w' := by
  have CB := Lib.hid (fun wx (h : MsgsAt wx v b.q) hm => implBoxOk_any b v m wx hl hs h hm)
  have CC := Lib.hid (fun wx (h : MsgsAt wx v b.q) => ownBox_any b v wx (by omega) h)
  have HR0 : Hid (shutM b = if boxB b then { b with shut := true } else zeroBox) := Lib.hid rfl
  have HV := Lib.hid hv
  have HM := Lib.hid hm
  have HMX := Lib.hid (fun wx (h : Below w.heap.size w wx) => (h.cell (World.block_lt_of_cell? _ _ HM.out)).trans HM.out)
  obtain ⟨ua, uc, rfl, _, _, _⟩ := hv
  clear hs hm
  obtain ⟨b1, hb1⟩ : ∃ x, boxB b = x := ⟨_, rfl⟩
  obtain ⟨RR, hRR⟩ : ∃ x, shutM b = x := ⟨_, rfl⟩
  rw [hb1] at CB HR0
  rw [hRR] at HR0 ⊢
  clear hb1 hRR
  go_enter Tryd.func15, Tryd.ntmps15
  go_upto_region 1 with (fail)
  have s1 : (w.alloc (.cells (bcells b (.slice ua b.q.length uc)) 28)).heap.size = w.heap.size + 1 := by simp
  have b1 : Below w.heap.size w (w.alloc (.cells (bcells b (.slice ua b.q.length uc)) 28)) := (Below.refl _ _).alloc (Nat.le_refl _) _
  have r1 : BBox (w.alloc (.cells (bcells b (.slice ua b.q.length uc)) 28)) w.heap.size 28 b (.slice ua b.q.length uc) := BBox.new _ _ _ _
  generalize w.alloc (.cells (bcells b (.slice ua b.q.length uc)) 28) = w1 at s1 b1 r1 ⊢
  have s2 : (w1.alloc (.cells (bcells zeroBox (.slice none 0 0)) 28)).heap.size = w.heap.size + 1 + 1 := by simp [s1]
  have b2 : Below w.heap.size w (w1.alloc (.cells (bcells zeroBox (.slice none 0 0)) 28)) := b1.alloc (by omega) _
  have r2 : BBox (w1.alloc (.cells (bcells zeroBox (.slice none 0 0)) 28)) (w.heap.size + 1) 28 zeroBox (.slice none 0 0) := by rw [← s1]; exact BBox.new _ _ _ _
  have q2 := r1.below ((Below.refl _ w1).alloc (Nat.le_refl _) (.cells (bcells zeroBox (.slice none 0 0)) 28))
  change Code.wp _ _ _ _ (w1.alloc (.cells (bcells zeroBox (.slice none 0 0)) 28))
  generalize w1.alloc (.cells (bcells zeroBox (.slice none 0 0)) 28) = w2 at s2 b2 r2 q2 ⊢
  clear s1 b1 r1
  go_wp2_with (first | refine wpList_load_row rfl 28 (.tmp 1) rfl w.heap.size rfl 28 (bcells b (.slice ua b.q.length uc)) (0, 0) _ q2 Tryd.underlying28 rfl (by kernel_rfl) ?_)
  refine (CB.out _ (HV.out.below b2) (HMX.out _ b2)).mono ?_
  rintro e w3 ⟨rfl, hb⟩
  have q3 := q2.below hb
  have r3 := r2.below hb
  have b3 : Below w.heap.size w w3 := b2.trans (hb.mono (by omega))
  have s3 : w.heap.size + 1 + 1 ≤ w3.heap.size := by have := hb.size; omega
  clear q2 r2 b2 s2 hb CB
  cases b1
  · have HE := Lib.hid (show RR = zeroBox by rw [HR0.out]; rfl)
    go_wp2_with (first | refine wpList_store_rowTo rfl 28 (.tmp 2) (.tmp 7) rfl rfl (w.heap.size + 1) (bcells zeroBox (.slice none 0 0)) rfl rfl 28 _ r3 (by kernel_rfl) rfl (bcells_one _ _ _ _) ?_)
    have G := grown_setRow w3 (w.heap.size + 1) (bcells zeroBox (.slice none 0 0))
    have HR := setRow_heap (bcells zeroBox (.slice none 0 0)) r3
    exact bodyPost_ret (results_cell_row rfl _ _ _ _ _ _ _ rfl HR Tryd.underlying28 rfl (by kernel_rfl)) rfl ⟨.slice none 0 0, .slice none 0 0, [], [], by rw [HE.out], by rw [HE.out]; exact World.ownsRow_nil _ _ _ _, by rw [HE.out]; exact .inl ⟨rfl, rfl, rfl⟩, b3.trans (below_of_grown G (by omega) b3.size)⟩
  have HE := Lib.hid (show RR = { b with shut := true } by rw [HR0.out]; rfl)
  go_wp2_with (first | refine wpList_load_row rfl 28 (.tmp 1) rfl w.heap.size rfl 28 (bcells b (.slice ua b.q.length uc)) (0, 0) _ q3 Tryd.underlying28 rfl (by kernel_rfl) ?_)
  refine (CC.out _ (HV.out.below b3)).mono ?_
  rintro e w4 ⟨u, rfl, ho, hb⟩
  obtain ⟨xa, xc, hxu⟩ := own_slice ho
  subst hxu
  have r4 := r3.below hb
  have b4 : Below w.heap.size w w4 := b3.trans (hb.mono b3.size)
  have o4 : MOwn w4 (w.heap.size + 1 + 1) _ _ := own_mono ho s3
  have s4 : w.heap.size + 1 + 1 ≤ w4.heap.size := Nat.le_trans s3 hb.size
  clear q3 r3 b3 s3 ho hb CC
  go_upto_region 4 with (fail)
  have q5 := (Below.refl w4.heap.size w4).alloc (Nat.le_refl _) (.cells (bcells b (.slice xa b.q.length xc)) 28)
  have n5 : (w4.alloc (.cells (bcells b (.slice xa b.q.length xc)) 28)).heap[w4.heap.size]? = some (.cells (bcells b (.slice xa b.q.length xc)) 28 (0, 0)) := heap_alloc_new _ _
  generalize w4.alloc (.cells (bcells b (.slice xa b.q.length xc)) 28) = w5 at q5 n5 ⊢
  have r5 := r4.below q5
  have b5 : Below w.heap.size w w5 := b4.trans (q5.mono b4.size)
  have o5 : MOwn w5 (w.heap.size + 1 + 1) (.slice xa b.q.length xc) b.q := row_below o4 q5
  obtain ⟨G, hG⟩ : ∃ G, w4.heap.size = G := ⟨_, rfl⟩
  rw [hG] at n5 s4 ⊢
  clear hG r4 b4 o4 q5
  have y7 : w5.cell? ⟨G, 7, none⟩ = some (.bool b.shut) := cell_of_heap n5 7
  have f7 : w5.frozen? ⟨G, 7, none⟩ = false := frozen_of_row _ _ _ _ _ n5
  go_upto_region 5 with (fail)
  have gs := grown_setCell w5 G 7 (.bool true)
  have r6 := r5.grown gs (by omega)
  have b6 := b5.trans (below_of_grown (n := w.heap.size) gs (by omega) b5.size)
  have o6 := own_kept1 o5 gs (own_off o5 n5)
  have n6 : (w5.setCell ⟨G, 7, none⟩ (.bool true)).heap[G]? = some (.cells (bcells { b with shut := true } (.slice xa b.q.length xc)) 28 (0, 0)) := heap_setCell_same _ _ 7 _ _ (.bool true) n5
  generalize w5.setCell ⟨G, 7, none⟩ (.bool true) = w6 at r6 b6 o6 n6 ⊢
  clear r5 b5 o5 n5 y7 f7 gs
  go_wp2_with (first
    | refine wpList_load_row rfl 28 (.tmp 3) rfl G rfl 28 (bcells { b with shut := true } (.slice xa b.q.length xc)) (0, 0) _ n6 Tryd.underlying28 rfl (by kernel_rfl) ?_
    | refine wpList_store_rowTo rfl 28 (.tmp 2) (.tmp 11) rfl rfl (w.heap.size + 1) (bcells { b with shut := true } (.slice xa b.q.length xc)) rfl rfl 28 _ r6 (by kernel_rfl) rfl (bcells_one _ _ _ _) ?_)
  have g7 := grown_setRow w6 (w.heap.size + 1) (bcells { b with shut := true } (.slice xa b.q.length xc))
  have HR := setRow_heap (bcells { b with shut := true } (.slice xa b.q.length xc)) r6
  have HO := own_mono (own_grownN o6 (by omega) g7) (A := w.heap.size) (by omega)
  have HB := b6.trans (below_of_grown (n := w.heap.size) g7 (by omega) b6.size)
  exact bodyPost_ret (results_cell_row rfl _ _ _ _ _ _ _ rfl HR Tryd.underlying28 rfl (by kernel_rfl)) rfl ⟨_, _, [], [], by rw [HE.out], by rw [HE.out, List.nil_append, List.append_nil]; exact HO, by rw [HE.out]; exact PartOf.whole HO, HB⟩

end Go.Proofs.YtnclkdhaabggkaaDoor

/- The walks of the reference's ShutOf. -/
namespace Go.Proofs.YtnclkdhaabggkaaDoor
open Go.RowKit

set_option maxRecDepth 100000 in
set_option maxHeartbeats 1600000 in
theorem specShut_any (b : BoxM) (v : Value) (w : World) (hl : b.q.length ≤ 1048576) (hs : ∀ x ∈ b.q, x.2.2.1.size ≤ 1048576) (hv : MsgsAt w v b.q) :
    Calls Tryd.prog 14 #[bagg b v] w fun e w' => ∃ u, e = .returned (bagg (shutM b) u) ∧ MOwn w' w.heap.size u (shutM b).q ∧ Below w.heap.size w w' := by
  have CB := Lib.hid (fun wx (h : MsgsAt wx v b.q) => specBoxOk_any b v wx hs h)
  have CC := Lib.hid (fun wx (h : MsgsAt wx v b.q) => specCopyB_any b v wx (by omega) h)
  have HR0 : Hid (shutM b = if boxB b then { b with shut := true } else zeroBox) := Lib.hid rfl
  have HV := Lib.hid hv
  obtain ⟨ua, uc, rfl, _, _, _⟩ := hv
  clear hs
  obtain ⟨b1, hb1⟩ : ∃ x, boxB b = x := ⟨_, rfl⟩
  obtain ⟨RR, hRR⟩ : ∃ x, shutM b = x := ⟨_, rfl⟩
  rw [hb1] at CB HR0
  rw [hRR] at HR0 ⊢
  clear hb1 hRR
  go_enter Tryd.func14, Tryd.ntmps14
  go_upto_region 1 with (fail)
  have s1 : (w.alloc (.cells (bcells b (.slice ua b.q.length uc)) 28)).heap.size = w.heap.size + 1 := by simp
  have b1 : Below w.heap.size w (w.alloc (.cells (bcells b (.slice ua b.q.length uc)) 28)) := (Below.refl _ _).alloc (Nat.le_refl _) _
  have r1 : BBox (w.alloc (.cells (bcells b (.slice ua b.q.length uc)) 28)) w.heap.size 28 b (.slice ua b.q.length uc) := BBox.new _ _ _ _
  generalize w.alloc (.cells (bcells b (.slice ua b.q.length uc)) 28) = w1 at s1 b1 r1 ⊢
  have s2 : (w1.alloc (.cells (bcells zeroBox (.slice none 0 0)) 28)).heap.size = w.heap.size + 1 + 1 := by simp [s1]
  have b2 : Below w.heap.size w (w1.alloc (.cells (bcells zeroBox (.slice none 0 0)) 28)) := b1.alloc (by omega) _
  have r2 : BBox (w1.alloc (.cells (bcells zeroBox (.slice none 0 0)) 28)) (w.heap.size + 1) 28 zeroBox (.slice none 0 0) := by rw [← s1]; exact BBox.new _ _ _ _
  have q2 := r1.below ((Below.refl _ w1).alloc (Nat.le_refl _) (.cells (bcells zeroBox (.slice none 0 0)) 28))
  change Code.wp _ _ _ _ (w1.alloc (.cells (bcells zeroBox (.slice none 0 0)) 28))
  generalize w1.alloc (.cells (bcells zeroBox (.slice none 0 0)) 28) = w2 at s2 b2 r2 q2 ⊢
  clear s1 b1 r1
  go_wp2_with (first | refine wpList_load_row rfl 28 (.tmp 1) rfl w.heap.size rfl 28 (bcells b (.slice ua b.q.length uc)) (0, 0) _ q2 Tryd.underlying28 rfl (by kernel_rfl) ?_)
  refine (CB.out _ (HV.out.below b2)).mono ?_
  rintro e w3 ⟨rfl, hb⟩
  have q3 := q2.below hb
  have r3 := r2.below hb
  have b3 : Below w.heap.size w w3 := b2.trans (hb.mono (by omega))
  have s3 : w.heap.size + 1 + 1 ≤ w3.heap.size := by have := hb.size; omega
  clear q2 r2 b2 s2 hb CB
  cases b1
  · have HE := Lib.hid (show RR = zeroBox by rw [HR0.out]; rfl)
    go_wp2_with (first | refine wpList_store_rowTo rfl 28 (.tmp 2) (.tmp 7) rfl rfl (w.heap.size + 1) (bcells zeroBox (.slice none 0 0)) rfl rfl 28 _ r3 (by kernel_rfl) rfl (bcells_one _ _ _ _) ?_)
    have G := grown_setRow w3 (w.heap.size + 1) (bcells zeroBox (.slice none 0 0))
    have HR := setRow_heap (bcells zeroBox (.slice none 0 0)) r3
    exact bodyPost_ret (results_cell_row rfl _ _ _ _ _ _ _ rfl HR Tryd.underlying28 rfl (by kernel_rfl)) rfl ⟨_, by rw [HE.out], by rw [HE.out]; exact World.ownsRow_nil _ _ _ _, b3.trans (below_of_grown G (by omega) b3.size)⟩
  have HE := Lib.hid (show RR = { b with shut := true } by rw [HR0.out]; rfl)
  go_wp2_with (first | refine wpList_load_row rfl 28 (.tmp 1) rfl w.heap.size rfl 28 (bcells b (.slice ua b.q.length uc)) (0, 0) _ q3 Tryd.underlying28 rfl (by kernel_rfl) ?_)
  refine (CC.out _ (HV.out.below b3)).mono ?_
  rintro e w4 ⟨u, rfl, ho, hb⟩
  obtain ⟨xa, xc, hxu⟩ := own_slice ho
  subst hxu
  have r4 := r3.below hb
  have b4 : Below w.heap.size w w4 := b3.trans (hb.mono b3.size)
  have o4 : MOwn w4 (w.heap.size + 1 + 1) _ _ := own_mono ho s3
  have s4 : w.heap.size + 1 + 1 ≤ w4.heap.size := Nat.le_trans s3 hb.size
  clear q3 r3 b3 s3 ho hb CC
  go_upto_region 4 with (fail)
  have q5 := (Below.refl w4.heap.size w4).alloc (Nat.le_refl _) (.cells (bcells b (.slice xa b.q.length xc)) 28)
  have n5 : (w4.alloc (.cells (bcells b (.slice xa b.q.length xc)) 28)).heap[w4.heap.size]? = some (.cells (bcells b (.slice xa b.q.length xc)) 28 (0, 0)) := heap_alloc_new _ _
  generalize w4.alloc (.cells (bcells b (.slice xa b.q.length xc)) 28) = w5 at q5 n5 ⊢
  have r5 := r4.below q5
  have b5 : Below w.heap.size w w5 := b4.trans (q5.mono b4.size)
  have o5 : MOwn w5 (w.heap.size + 1 + 1) (.slice xa b.q.length xc) b.q := row_below o4 q5
  obtain ⟨G, hG⟩ : ∃ G, w4.heap.size = G := ⟨_, rfl⟩
  rw [hG] at n5 s4 ⊢
  clear hG r4 b4 o4 q5
  have y7 : w5.cell? ⟨G, 7, none⟩ = some (.bool b.shut) := cell_of_heap n5 7
  have f7 : w5.frozen? ⟨G, 7, none⟩ = false := frozen_of_row _ _ _ _ _ n5
  go_upto_region 5 with (fail)
  have gs := grown_setCell w5 G 7 (.bool true)
  have r6 := r5.grown gs (by omega)
  have b6 := b5.trans (below_of_grown (n := w.heap.size) gs (by omega) b5.size)
  have o6 := own_kept1 o5 gs (own_off o5 n5)
  have n6 : (w5.setCell ⟨G, 7, none⟩ (.bool true)).heap[G]? = some (.cells (bcells { b with shut := true } (.slice xa b.q.length xc)) 28 (0, 0)) := heap_setCell_same _ _ 7 _ _ (.bool true) n5
  generalize w5.setCell ⟨G, 7, none⟩ (.bool true) = w6 at r6 b6 o6 n6 ⊢
  clear r5 b5 o5 n5 y7 f7 gs
  go_wp2_with (first
    | refine wpList_load_row rfl 28 (.tmp 3) rfl G rfl 28 (bcells { b with shut := true } (.slice xa b.q.length xc)) (0, 0) _ n6 Tryd.underlying28 rfl (by kernel_rfl) ?_
    | refine wpList_store_rowTo rfl 28 (.tmp 2) (.tmp 11) rfl rfl (w.heap.size + 1) (bcells { b with shut := true } (.slice xa b.q.length xc)) rfl rfl 28 _ r6 (by kernel_rfl) rfl (bcells_one _ _ _ _) ?_)
  have g7 := grown_setRow w6 (w.heap.size + 1) (bcells { b with shut := true } (.slice xa b.q.length xc))
  have HR := setRow_heap (bcells { b with shut := true } (.slice xa b.q.length xc)) r6
  have HO := own_mono (own_grownN o6 (by omega) g7) (A := w.heap.size) (by omega)
  have HB := b6.trans (below_of_grown (n := w.heap.size) g7 (by omega) b6.size)
  exact bodyPost_ret (results_cell_row rfl _ _ _ _ _ _ _ rfl HR Tryd.underlying28 rfl (by kernel_rfl)) rfl ⟨_, by rw [HE.out], by rw [HE.out]; exact HO, HB⟩

end Go.Proofs.YtnclkdhaabggkaaDoor

/- What the walks of TakenFrom are told in. -/
namespace Go.Proofs.YtnclkdhaabggkaaDoor
open Go.RowKit

theorem results_row_row_tmp {P : Program} {fn : Func} {p u u3 : Tmp} {ty ty2 : TypeId} (h : fn.results = #[.cell p ty, .cell u ty2, .tmp u3]) (tmps : Array Value) (w : World) (g : Nat) (t : TypeId) (cs : Array Value) (fr : Nat × Nat) (d : TypeDesc)
    (g2 : Nat) (t2 : TypeId) (cs2 : Array Value) (fr2 : Nat × Nat) (d2 : TypeDesc) (hp : tmps.getD p undef = .pointer (some ⟨g, 0, none⟩)) (hg : w.heap[g]? = some (.cells cs t fr))
    (hu : P.underlying ty = some d) (hd : (match d with | .struct _ | .array _ _ => true | _ => false) = true) (hi : (P.info? ty).map (·.size) = some cs.size)
    (hp2 : tmps.getD u undef = .pointer (some ⟨g2, 0, none⟩)) (hg2 : w.heap[g2]? = some (.cells cs2 t2 fr2))
    (hu2 : P.underlying ty2 = some d2) (hd2 : (match d2 with | .struct _ | .array _ _ => true | _ => false) = true) (hi2 : (P.info? ty2).map (·.size) = some cs2.size) :
    (results fn tmps).run P w = .ok (.tuple #[.agg cs, .agg cs2, tmps.getD u3 undef]) w := by
  have hp' : tmps[p]?.getD undef = .pointer (some ⟨g, 0, none⟩) := by simpa [Array.getD_eq_getD_getElem?] using hp
  have hp2' : tmps[u]?.getD undef = .pointer (some ⟨g2, 0, none⟩) := by simpa [Array.getD_eq_getD_getElem?] using hp2
  simp [results, h, hp', hp2', asAddr, run_loadVar_row w g t ty cs fr d hg hu hd hi, run_loadVar_row w g2 t2 ty2 cs2 fr2 d2 hg2 hu2 hd2 hi2, Result.andThen]

theorem cell_off {w w' : World} {R b o : Nat} {v : Value} (hg : w.grownBy w' (some R)) (hne : b ≠ R) (h : w.cell? ⟨b, o, none⟩ = some v) : w'.cell? ⟨b, o, none⟩ = some v :=
  (World.cell?_of_block (hg.block b (World.block_lt_of_cell? _ _ h) (fun e => hne (by cases e; rfl)))).trans h
theorem mcell_one (x : MsgM) : (#[.int .i64 x.1, .int .i64 x.2.1, .string x.2.2.1, .int .i64 x.2.2.2] : Array Value).all (·.oneCell') = true := by simp [Value.oneCell']

/-- The three boxes of the call: the box, the answer, the message. -/
structure Tak3 (w : World) (B : Nat) (b : BoxM) (v : Value) : Prop where
  box : w.heap[B]? = some (.cells (bcells b v) 28 (0, 0))
  res : w.heap[B + 1]? = some (.cells (bcells zeroBox (.slice none 0 0)) 28 (0, 0))
  msg : w.heap[B + 1 + 1]? = some (.cells #[.int .i64 0, .int .i64 0, .string ⟨#[]⟩, .int .i64 0] 30 (0, 0))
theorem Tak3.lt {w : World} {B : Nat} {b : BoxM} {v : Value} (h : Tak3 w B b v) : B + 1 + 1 < w.heap.size := (Array.getElem?_eq_some_iff.1 h.msg).1
theorem Tak3.below {w w' : World} {B : Nat} {b : BoxM} {v : Value} (h : Tak3 w B b v) (hb : Below w.heap.size w w') : Tak3 w' B b v := by
  have := h.lt
  exact ⟨(hb.block _ (by omega)).trans h.box, (hb.block _ (by omega)).trans h.res, (hb.block _ (by omega)).trans h.msg⟩
theorem Tak3.grown {w w' : World} {B : Nat} {g : Option Nat} {b : BoxM} {v : Value} (h : Tak3 w B b v) (hg : w.grownBy w' g) (hne : ∀ k, g = some k → B + 1 + 1 < k) : Tak3 w' B b v := by
  have := h.lt
  exact ⟨(hg.block _ (by omega) (fun e => by have := hne _ e.symm; omega)).trans h.box, (hg.block _ (by omega) (fun e => by have := hne _ e.symm; omega)).trans h.res, (hg.block _ (by omega) (fun e => by have := hne _ e.symm; omega)).trans h.msg⟩
/-- Behind the stores of the two answers. -/
theorem tak_end {w wx : World} {b : BoxM} {v u : Value} {q : List MsgM} (h : Tak3 wx w.heap.size b v) (hb : Below w.heap.size w wx) (ho : MOwn wx (w.heap.size + 1 + 1 + 1) u q) (cs ms : Array Value) :
    ((wx.setRow (w.heap.size + 1) cs).setRow (w.heap.size + 1 + 1) ms).heap[w.heap.size + 1]? = some (.cells cs 28 (0, 0)) ∧ ((wx.setRow (w.heap.size + 1) cs).setRow (w.heap.size + 1 + 1) ms).heap[w.heap.size + 1 + 1]? = some (.cells ms 30 (0, 0)) ∧
    MOwn ((wx.setRow (w.heap.size + 1) cs).setRow (w.heap.size + 1 + 1) ms) w.heap.size u q ∧ Below w.heap.size w ((wx.setRow (w.heap.size + 1) cs).setRow (w.heap.size + 1 + 1) ms) ∧ (wx.setRow (w.heap.size + 1) cs).heap[w.heap.size + 1 + 1]? = some (.cells #[.int .i64 0, .int .i64 0, .string ⟨#[]⟩, .int .i64 0] 30 (0, 0)) := by
  have g1 := grown_setRow wx (w.heap.size + 1) cs
  have g2 := grown_setRow (wx.setRow (w.heap.size + 1) cs) (w.heap.size + 1 + 1) ms
  have hlt := h.lt
  have hsz := g1.size
  have m1 : (wx.setRow (w.heap.size + 1) cs).heap[w.heap.size + 1 + 1]? = some (.cells #[.int .i64 0, .int .i64 0, .string ⟨#[]⟩, .int .i64 0] 30 (0, 0)) := (g1.block _ hlt (fun e => by injection e with e; omega)).trans h.msg
  have r1 := setRow_heap cs h.res
  refine ⟨(g2.block _ (by omega) (fun e => by injection e with e; omega)).trans r1, setRow_heap ms m1, own_mono (own_grownN (own_grownN ho (by omega) g1) (by omega) g2) (by omega), ?_, m1⟩
  exact hb.trans ((below_of_grown (n := w.heap.size) g1 (by omega) (by omega)).trans (below_of_grown (n := w.heap.size) g2 (by omega) (by omega)))

end Go.Proofs.YtnclkdhaabggkaaDoor

/- The walks of what the program asks of a queue: whatIsIn, first, isNothing. -/
namespace Go.Proofs.YtnclkdhaabggkaaDoor
open Go.RowKit

set_option maxRecDepth 100000 in
set_option maxHeartbeats 1600000 in
theorem firstNone_any (ua : Option Addr) (n uc : Nat) (w : World) (hn : n = 0) :
    Calls Tryd.prog 39 #[.slice ua n uc] w fun e w' => e = .returned (.tuple #[magg (0, 0, ⟨#[]⟩, 0), .bool false]) ∧ Below w.heap.size w w' := by
  have g1 : (n == 0) = true := by simp [hn]
  clear hn
  go_enter Tryd.func39, Tryd.ntmps39
  go_upto_region 1 with (fail)
  have r1 : (w.alloc (.cells #[.int .i64 0, .int .i64 0, .string ⟨#[]⟩, .int .i64 0] 30)).heap[w.heap.size]? = some (.cells #[.int .i64 0, .int .i64 0, .string ⟨#[]⟩, .int .i64 0] 30 (0, 0)) := heap_alloc_new _ _
  have b1 : Below w.heap.size w (w.alloc (.cells #[.int .i64 0, .int .i64 0, .string ⟨#[]⟩, .int .i64 0] 30)) := (Below.refl _ _).alloc (Nat.le_refl _) _
  generalize w.alloc (.cells #[.int .i64 0, .int .i64 0, .string ⟨#[]⟩, .int .i64 0] 30) = w1 at r1 b1 ⊢
  go_wp2_with (first | refine wpList_store_rowTo rfl 30 (.tmp 2) (.tmp 7) rfl rfl w.heap.size (#[.int .i64 0, .int .i64 0, .string ⟨#[]⟩, .int .i64 0]) rfl rfl 30 _ r1 (by kernel_rfl) rfl (mcell_one (0, 0, ⟨#[]⟩, 0)) ?_)
  exact bodyPost_ret (results_row_tmp rfl _ _ _ _ _ _ _ rfl (setRow_heap (#[.int .i64 0, .int .i64 0, .string ⟨#[]⟩, .int .i64 0]) r1) Tryd.underlying30 rfl (by kernel_rfl)) rfl ⟨rfl, b1.trans (below_of_grown (n := w.heap.size) (grown_setRow w1 w.heap.size _) (Nat.le_refl _) b1.size)⟩

set_option maxRecDepth 100000 in
set_option maxHeartbeats 1600000 in
theorem firstSome_any (bb o n uc : Nat) (x : MsgM) (w : World) (hn : 0 < n) (p0 : w.cell? ⟨bb, o, none⟩ = some (.int .i64 x.1)) (p1 : w.cell? ⟨bb, o + 1, none⟩ = some (.int .i64 x.2.1)) (p2 : w.cell? ⟨bb, o + 2, none⟩ = some (.string x.2.2.1)) (p3 : w.cell? ⟨bb, o + 3, none⟩ = some (.int .i64 x.2.2.2)) :
    Calls Tryd.prog 39 #[.slice (some ⟨bb, o, none⟩) n uc] w fun e w' => e = .returned (.tuple #[magg x, .bool true]) ∧ Below w.heap.size w w' := by
  have g1 : (n == 0) = false := by simp; omega
  have hq : (1 : Int) ≤ (n : Int) := by omega
  go_enter Tryd.func39, Tryd.ntmps39
  go_upto_region 1 with (fail)
  have r1 : (w.alloc (.cells #[.int .i64 0, .int .i64 0, .string ⟨#[]⟩, .int .i64 0] 30)).heap[w.heap.size]? = some (.cells #[.int .i64 0, .int .i64 0, .string ⟨#[]⟩, .int .i64 0] 30 (0, 0)) := heap_alloc_new _ _
  have b1 : Below w.heap.size w (w.alloc (.cells #[.int .i64 0, .int .i64 0, .string ⟨#[]⟩, .int .i64 0] 30)) := (Below.refl _ _).alloc (Nat.le_refl _) _
  generalize w.alloc (.cells #[.int .i64 0, .int .i64 0, .string ⟨#[]⟩, .int .i64 0] 30) = w1 at r1 b1 ⊢
  have hbb : bb < w.heap.size := World.block_lt_of_cell? _ _ p0
  have p0 := (b1.cell hbb).trans p0
  have p1 := (b1.cell hbb).trans p1
  have p2 := (b1.cell hbb).trans p2
  have p3 := (b1.cell hbb).trans p3
  go_upto_region 3 with (fail)
  clear g1 hn
  go_wp2_with (first | refine wpList_store_rowTo rfl 30 (.tmp 2) (.tmp 10) rfl rfl w.heap.size (#[.int .i64 x.1, .int .i64 x.2.1, .string x.2.2.1, .int .i64 x.2.2.2]) rfl rfl 30 _ r1 (by kernel_rfl) rfl (mcell_one x) ?_)
  exact bodyPost_ret (results_row_tmp rfl _ _ _ _ _ _ _ rfl (setRow_heap (#[.int .i64 x.1, .int .i64 x.2.1, .string x.2.2.1, .int .i64 x.2.2.2]) r1) Tryd.underlying30 rfl (by kernel_rfl)) rfl ⟨rfl, b1.trans (below_of_grown (n := w.heap.size) (grown_setRow w1 w.heap.size _) (Nat.le_refl _) b1.size)⟩

/-- The first one asked for, whatever the queue. -/
theorem first_any (u : Value) (l : List MsgM) (w : World) (hv : MsgsAt w u l) :
    Calls Tryd.prog 39 #[u] w fun e w' => e = .returned (.tuple #[magg (l.headD (0, 0, ⟨#[]⟩, 0)), .bool (!l.isEmpty)]) ∧ Below w.heap.size w w' := by
  obtain ⟨ua, uc, rfl, h1, h2, h3⟩ := hv
  cases l with
  | nil => exact firstNone_any ua 0 uc w rfl
  | cons x l =>
    rcases h3 with h | ⟨bb, o, rfl, hin⟩
    · cases h
    · obtain ⟨p0, p1, p2, p3⟩ := hin 0 (by simp)
      simp only [Nat.zero_mul, Nat.add_zero, List.getElem_cons_zero] at p0 p1 p2 p3
      exact firstSome_any bb o (x :: l).length uc x w (by simp) p0 p1 p2 p3

/-- What asks for the first one. -/
def askV (u : Value) : Value := .func (.func 39) #[u] #[]

set_option maxRecDepth 100000 in
theorem whatIsIn_any (b : BoxM) (ua : Option Addr) (n uc : Nat) (w : World) :
    Calls Tryd.prog 24 #[bagg b (.slice ua n uc)] w fun e w' => e = .returned (askV (.slice ua n uc)) ∧ Below w.heap.size w w' := by
  have hmf : ∀ (fn : Fn) (first cap : Array Value) (w : World), (Instr.makeFunc fn first cap).run Tryd.prog w = .ok (.func fn first cap) w := fun _ _ _ _ => rfl
  go_enter Tryd.func24, Tryd.ntmps24
  go_upto_region 1 with (fail)
  have b1 : Below w.heap.size w (w.alloc (.cells (bcells b (.slice ua n uc)) 28)) := (Below.refl _ _).alloc (Nat.le_refl _) _
  have r1 : BBox (w.alloc (.cells (bcells b (.slice ua n uc)) 28)) w.heap.size 28 b (.slice ua n uc) := BBox.new _ _ _ _
  change Code.wp _ _ _ _ (w.alloc (.cells (bcells b (.slice ua n uc)) 28))
  generalize w.alloc (.cells (bcells b (.slice ua n uc)) 28) = w1 at b1 r1 ⊢
  have x2 := r1.cells.2.2.1
  clear r1
  go_wp2
  go_ret
  exact ⟨rfl, b1⟩

set_option maxRecDepth 100000 in
set_option maxHeartbeats 1600000 in
theorem isNothing_any (u : Value) (l : List MsgM) (w : World) (hv : MsgsAt w u l) :
    Calls Tryd.prog 28 #[askV u] w fun e w' => e = .returned (.bool l.isEmpty) ∧ Below w.heap.size w w' := by
  have CF := Lib.hid (first_any u l w hv)
  obtain ⟨ua, uc, rfl, _, _, _⟩ := hv
  obtain ⟨x, hx⟩ : ∃ x, l.headD (0, 0, ⟨#[]⟩, 0) = x := ⟨_, rfl⟩
  obtain ⟨t, ht⟩ : ∃ t, l.isEmpty = t := ⟨_, rfl⟩
  rw [hx, ht] at CF
  rw [ht]
  clear hx ht
  unfold askV
  go_enter Tryd.func28, Tryd.ntmps28
  go_wp2_with fail
  refine CF.out.mono ?_
  rintro e w1 ⟨rfl, hb⟩
  go_wp2
  go_ret
  exact ⟨by simp, hb.alloc hb.size _⟩

end Go.Proofs.YtnclkdhaabggkaaDoor

/- The walk of impl.EndOf. -/
namespace Go.Proofs.YtnclkdhaabggkaaDoor
open Go.RowKit

set_option maxRecDepth 100000 in
set_option maxHeartbeats 1600000 in
theorem implEnd_any (b : BoxM) (v : Value) (m : Int) (w : World) (hl : b.q.length ≤ 1048576) (hs : ∀ x ∈ b.q, x.2.2.1.size ≤ 1048576) (hv : MsgsAt w v b.q) (hm : w.cell? ⟨0, 0, none⟩ = some (.int .i64 m)) :
    Calls Tryd.prog 17 #[bagg b v] w fun e w' => e = .returned (.bool (endB b)) ∧ Below w.heap.size w w' := by
  have CB := Lib.hid (fun wx (h : MsgsAt wx v b.q) hm => implBoxOk_any b v m wx hl hs h hm)
  have CN := Lib.hid (fun wx (h : MsgsAt wx v b.q) => isNothing_any v b.q wx h)
  have HR0 : Hid (endB b = (boxB b && b.shut && b.q.isEmpty)) := Lib.hid rfl
  have HV := Lib.hid hv
  have HM := Lib.hid hm
  have HMX := Lib.hid (fun wx (h : Below w.heap.size w wx) => (h.cell (World.block_lt_of_cell? _ _ HM.out)).trans HM.out)
  obtain ⟨ua, uc, rfl, _, _, _⟩ := hv
  have CW := Lib.hid (fun wx => whatIsIn_any b ua b.q.length uc wx)
  clear hs hm
  obtain ⟨b1, hb1⟩ : ∃ x, boxB b = x := ⟨_, rfl⟩
  obtain ⟨be, hbe⟩ : ∃ x, b.q.isEmpty = x := ⟨_, rfl⟩
  obtain ⟨RR, hRR⟩ : ∃ x, endB b = x := ⟨_, rfl⟩
  rw [hb1] at CB HR0
  rw [hbe] at CN HR0
  rw [hRR] at HR0 ⊢
  clear hb1 hRR hbe
  go_enter Tryd.func17, Tryd.ntmps17
  go_upto_region 1 with (fail)
  have b1 : Below w.heap.size w (w.alloc (.cells (bcells b (.slice ua b.q.length uc)) 28)) := (Below.refl _ _).alloc (Nat.le_refl _) _
  have r1 : BBox (w.alloc (.cells (bcells b (.slice ua b.q.length uc)) 28)) w.heap.size 28 b (.slice ua b.q.length uc) := BBox.new _ _ _ _
  change Code.wp _ _ _ _ (w.alloc (.cells (bcells b (.slice ua b.q.length uc)) 28))
  generalize w.alloc (.cells (bcells b (.slice ua b.q.length uc)) 28) = w1 at b1 r1 ⊢
  go_wp2_with (first | refine wpList_load_row rfl 28 (.tmp 1) rfl w.heap.size rfl 28 (bcells b (.slice ua b.q.length uc)) (0, 0) _ r1 Tryd.underlying28 rfl (by kernel_rfl) ?_)
  refine (CB.out _ (HV.out.below b1) (HMX.out _ b1)).mono ?_
  rintro e w3 ⟨rfl, hb⟩
  have r3 := r1.below hb
  have b3 := below_end b1 hb
  clear b1 r1 hb
  cases b1
  · have HE := Lib.hid (show RR = false by rw [HR0.out]; rfl)
    clear r3
    have B3 := Lib.hid b3
    clear b3
    go_wp2
    go_ret
    exact ⟨ret_bool HE.out.symm, B3.out⟩
  obtain ⟨x0, x1, x2, x3, x4, x5, x6, x7⟩ := r3.cells
  by_cases hsh : b.shut = true
  · rw [hsh] at x7 HR0
    have HE := Lib.hid (show RR = be by rw [HR0.out]; simp)
    have HSH := Lib.hid hsh
    clear hsh
    have B3 := Lib.hid b3
    clear b3 r3
    go_wp2_with fail
    have CW2 := CW.out w3
    rw [show bagg b (.slice ua b.q.length uc) = .agg #[.int .i64 b.cap, .int .i64 b.pol, .slice ua b.q.length uc, .int .i64 b.ofr, .int .i64 b.rcv, .int .i64 b.drp, .int .i64 b.mrg, .bool true] by unfold bagg; rw [HSH.out]] at CW2
    refine CW2.mono ?_
    rintro e w4 ⟨rfl, hb⟩
    have B4 := Lib.hid (below_end B3.out hb)
    clear hb x0 x1 x2 x3 x4 x5 x6 x7 CW2
    go_wp2_with fail
    refine (CN.out _ (HV.out.below B4.out)).mono ?_
    rintro e w5 ⟨rfl, hb⟩
    have B5 := Lib.hid (below_end B4.out hb)
    clear hb
    go_wp2
    go_ret
    exact ⟨ret_bool HE.out.symm, B5.out⟩
  · have hsf : b.shut = false := by simpa using hsh
    rw [hsf] at x7 HR0
    have HE := Lib.hid (show RR = false by rw [HR0.out]; rfl)
    clear hsf hsh x0 x1 x2 x3 x4 x5 x6 r3
    have B3 := Lib.hid b3
    clear b3
    go_wp2
    go_ret
    exact ⟨ret_bool HE.out.symm, B3.out⟩

end Go.Proofs.YtnclkdhaabggkaaDoor
