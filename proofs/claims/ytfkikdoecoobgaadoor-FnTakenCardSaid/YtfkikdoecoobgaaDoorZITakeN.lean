/- The walk of impl.TakenFrom. -/
import Derived.Test.YtfkikdoecoobgaaDoorZB3
import Derived.Test.YtfkikdoecoobgaaDoorZB5
import Derived.Test.YtfkikdoecoobgaaDoorZB1
import Derived.Test.YtfkikdoecoobgaaDoorZB2
set_option linter.unusedSimpArgs false
set_option linter.unusedVariables false
namespace Go.Proofs.YtfkikdoecoobgaaDoor
open Go.RowKit

/-- A row's front part and the rest. -/
theorem tail_part {w : World} {B g c n o : Nat} {l : List MsgM} (h : MOwn w B (.slice (some ⟨g, 0, none⟩) n c) l) (h0 : 0 < l.length) (ho : o = 4 ∨ c = 1) (hc1 : l.length ≤ c) :
    ∃ pre post, l = pre ++ l.drop 1 ++ post ∧ PartOf (.slice (some ⟨g, 0, none⟩) n c) pre.length (l.drop 1).length (.slice (some ⟨g, o, none⟩) (l.length - 1) (c - 1)) := by
  refine ⟨l.take 1, [], by rw [List.append_nil, List.take_append_drop], .inr ⟨g, o, c - 1, c, n, rfl, by rw [List.length_drop], by rw [List.length_drop]; omega, by have := own_max (by obtain ⟨_, _, e⟩ := own_slice h; cases e; exact h); omega, ?_⟩⟩
  rw [List.length_drop, List.length_take, Nat.min_eq_left (by omega)]
  rcases ho with h | h
  · exact .inr (by omega)
  · exact .inl (by omega)

theorem headD_first {l : List MsgM} (z : MsgM) (h : 0 < l.length) : l.headD z = l[0] := by
  cases l with
  | nil => simp at h
  | cons x l => rfl

/-- What is answered. -/
def TakP (R : BoxM × MsgM × Bool) (w : World) (e : Ending) (w' : World) : Prop :=
  ∃ V u pre post, e = .returned (.tuple #[bagg R.1 u, magg R.2.1, .bool R.2.2]) ∧ MOwn w' w.heap.size V (pre ++ R.1.q ++ post) ∧ PartOf V pre.length R.1.q.length u ∧ Below w.heap.size w w'

set_option maxRecDepth 100000 in
set_option maxHeartbeats 6400000 in
theorem implTakenP_any (b : BoxM) (v : Value) (m : Int) (w : World) (hl : b.q.length ≤ 1048576) (hs : ∀ x ∈ b.q, x.2.2.1.size ≤ 1048576) (hv : MsgsAt w v b.q) (hm : w.cell? ⟨0, 0, none⟩ = some (.int .i64 m)) :
    Calls Tryd.prog 6 #[bagg b v] w fun e w' => TakP (takeM b) w e w' := by
  have CB := Lib.hid (fun wx (h : MsgsAt wx v b.q) hm => implBoxOk_any b v m wx hl hs h hm)
  have CC := Lib.hid (fun wx (h : MsgsAt wx v b.q) => ownBox_any b v wx (by omega) h)
  have HR0 : Hid (takeM b = if boxB b then match b.q with
    | [] => (b, (0, 0, ⟨#[]⟩, 0), false)
    | x :: l => ({ b with q := l, rcv := b.rcv + 1 }, x, true)
  else (zeroBox, (0, 0, ⟨#[]⟩, 0), false)) := Lib.hid rfl
  have HR1 := Lib.hid (show boxB b = false → takeM b = (zeroBox, (0, 0, ⟨#[]⟩, 0), false) from fun h => by rw [HR0.out, h]; rfl)
  have HR2 := Lib.hid (show boxB b = true → b.q.length = 0 → takeM b = (b, (0, 0, ⟨#[]⟩, 0), false) from fun h h2 => by rw [HR0.out, h, List.length_eq_zero_iff.1 h2]; rfl)
  have HR3 := Lib.hid (show boxB b = true → ∀ h2 : 0 < b.q.length, takeM b = ({ b with q := b.q.drop 1, rcv := b.rcv + 1 }, b.q[0], true) from fun h h2 => by
    rw [HR0.out, h]
    match hq : b.q, h2 with
    | x :: l, _ => simp)
  clear HR0
  have HNB : Hid (boxB b = true → 0 ≤ b.rcv ∧ b.rcv ≤ 100000 ∧ b.q.length ≤ 16) := Lib.hid (fun h => by
    unfold boxB boxN inB at h
    simp only [Bool.and_eq_true, decide_eq_true_eq] at h
    omega)
  have HV := Lib.hid hv
  have HM := Lib.hid hm
  have HMX := Lib.hid (fun wx (h : Below w.heap.size w wx) => (h.cell (World.block_lt_of_cell? _ _ HM.out)).trans HM.out)
  obtain ⟨ua, uc, rfl, _, _, _⟩ := hv
  clear hs hm
  obtain ⟨b1, hb1⟩ : ∃ x, boxB b = x := ⟨_, rfl⟩
  obtain ⟨RR, hRR⟩ : ∃ x, takeM b = x := ⟨_, rfl⟩
  rw [hb1] at CB HR1 HR2 HR3 HNB
  rw [hRR] at HR1 HR2 HR3 ⊢
  clear hb1 hRR
  go_enter Tryd.func6, Tryd.ntmps6
  go_upto_region 1 with (fail)
  have s1 : (w.alloc (.cells (bcells b (.slice ua b.q.length uc)) 26)).heap.size = w.heap.size + 1 := by simp
  have s2 : ((w.alloc (.cells (bcells b (.slice ua b.q.length uc)) 26)).alloc (.cells (bcells zeroBox (.slice none 0 0)) 26)).heap.size = w.heap.size + 1 + 1 := by simp
  have hb0 : Below w.heap.size w (((w.alloc (.cells (bcells b (.slice ua b.q.length uc)) 26)).alloc (.cells (bcells zeroBox (.slice none 0 0)) 26)).alloc (.cells #[.int .i64 0, .int .i64 0, .string ⟨#[]⟩, .int .i64 0] 29)) := (((Below.refl _ _).alloc (Nat.le_refl _) _).alloc (by simp) _).alloc (by simp; omega) _
  have h0 : Tak3 (((w.alloc (.cells (bcells b (.slice ua b.q.length uc)) 26)).alloc (.cells (bcells zeroBox (.slice none 0 0)) 26)).alloc (.cells #[.int .i64 0, .int .i64 0, .string ⟨#[]⟩, .int .i64 0] 29)) w.heap.size b (.slice ua b.q.length uc) := by
    refine ⟨?_, ?_, ?_⟩
    · rw [Below.heap_alloc _ _ _ (by omega), Below.heap_alloc _ _ _ (by omega)]; exact heap_alloc_new _ _
    · rw [Below.heap_alloc _ _ _ (by omega), ← s1]; exact heap_alloc_new _ _
    · rw [← s2]; exact heap_alloc_new _ _
  have s3 : (((w.alloc (.cells (bcells b (.slice ua b.q.length uc)) 26)).alloc (.cells (bcells zeroBox (.slice none 0 0)) 26)).alloc (.cells #[.int .i64 0, .int .i64 0, .string ⟨#[]⟩, .int .i64 0] 29)).heap.size = w.heap.size + 1 + 1 + 1 := by simp
  clear s1 s2
  change Code.wp _ _ _ _ (((w.alloc (.cells (bcells b (.slice ua b.q.length uc)) 26)).alloc (.cells (bcells zeroBox (.slice none 0 0)) 26)).alloc (.cells #[.int .i64 0, .int .i64 0, .string ⟨#[]⟩, .int .i64 0] 29))
  generalize (((w.alloc (.cells (bcells b (.slice ua b.q.length uc)) 26)).alloc (.cells (bcells zeroBox (.slice none 0 0)) 26)).alloc (.cells #[.int .i64 0, .int .i64 0, .string ⟨#[]⟩, .int .i64 0] 29)) = w0 at hb0 h0 s3 ⊢
  go_wp2_with (first
    | refine wpList_load_row rfl 26 (.tmp 1) rfl w.heap.size rfl 26 (bcells b (.slice ua b.q.length uc)) (0, 0) _ h0.box Tryd.underlying26 rfl (by kernel_rfl) ?_)
  refine (CB.out _ (HV.out.below hb0) (HMX.out _ hb0)).mono ?_
  rintro e w1 ⟨rfl, hb⟩
  have h1 := h0.below hb
  have hb1 : Below w.heap.size w w1 := hb0.trans (hb.mono hb0.size)
  have s1 : w.heap.size + 1 + 1 + 1 ≤ w1.heap.size := by have := hb.size; omega
  clear hb0 h0 s3 hb CB
  cases b1
  · have HX := Lib.hid (HR1.out rfl)
    have HE := tak_end h1 hb1 (show MOwn w1 (w.heap.size + 1 + 1 + 1) (.slice none 0 0) [] from World.ownsRow_nil _ _ _ _) (bcells zeroBox (.slice none 0 0)) (#[.int .i64 0, .int .i64 0, .string ⟨#[]⟩, .int .i64 0])
    go_wp2_with (first | refine wpList_store_rowTo rfl 26 (.tmp 2) (.tmp 11) rfl rfl (w.heap.size + 1) (bcells zeroBox (.slice none 0 0)) rfl rfl 26 _ h1.res (by kernel_rfl) rfl (bcells_one _ _ _ _) ?_ | refine wpList_store_rowTo rfl 29 (.tmp 3) (.tmp 12) rfl rfl (w.heap.size + 1 + 1) (#[.int .i64 0, .int .i64 0, .string ⟨#[]⟩, .int .i64 0]) rfl rfl 29 _ HE.2.2.2.2 (by kernel_rfl) rfl (mcell_one (0, 0, ⟨#[]⟩, 0)) ?_)
    exact bodyPost_ret (results_row_row_tmp rfl _ _ _ _ _ _ _ _ _ _ _ _ rfl HE.1 Tryd.underlying26 rfl (by kernel_rfl) rfl HE.2.1 Tryd.underlying29 rfl (by kernel_rfl)) rfl ⟨.slice none 0 0, .slice none 0 0, [], [], by rw [HX.out]; rfl, by rw [HX.out]; exact HE.2.2.1, by rw [HX.out]; exact .inl ⟨rfl, rfl, rfl⟩, HE.2.2.2.1⟩
  obtain ⟨n1, n2, n3⟩ := HNB.out rfl
  go_wp2_with (first
    | refine wpList_load_row rfl 26 (.tmp 1) rfl w.heap.size rfl 26 (bcells b (.slice ua b.q.length uc)) (0, 0) _ h1.box Tryd.underlying26 rfl (by kernel_rfl) ?_)
  refine (CC.out _ (HV.out.below hb1)).mono ?_
  rintro e w2 ⟨u, rfl, ho, hb⟩
  obtain ⟨xa, xc, hxu⟩ := own_slice ho
  subst hxu
  have h2 := h1.below hb
  have hb2 : Below w.heap.size w w2 := hb1.trans (hb.mono hb1.size)
  have o2 : MOwn w2 (w.heap.size + 1 + 1 + 1) _ _ := own_mono ho s1
  have s2 : w.heap.size + 1 + 1 + 1 ≤ w2.heap.size := Nat.le_trans s1 hb.size
  clear h1 hb1 s1 ho hb CC
  go_upto_region 4 with (fail)
  have q3 := (Below.refl w2.heap.size w2).alloc (Nat.le_refl _) (.cells (bcells b (.slice xa b.q.length xc)) 26)
  have n3b : (w2.alloc (.cells (bcells b (.slice xa b.q.length xc)) 26)).heap[w2.heap.size]? = some (.cells (bcells b (.slice xa b.q.length xc)) 26 (0, 0)) := heap_alloc_new _ _
  generalize w2.alloc (.cells (bcells b (.slice xa b.q.length xc)) 26) = w3 at q3 n3b ⊢
  have h3 := h2.below q3
  have hb3 : Below w.heap.size w w3 := hb2.trans (q3.mono hb2.size)
  have o3 : MOwn w3 (w.heap.size + 1 + 1 + 1) (.slice xa b.q.length xc) b.q := row_below o2 q3
  obtain ⟨G, hG⟩ : ∃ G, w2.heap.size = G := ⟨_, rfl⟩
  rw [hG] at n3b s2 ⊢
  clear hG h2 hb2 o2 q3
  -- what is there is asked
  have CW := Lib.hid (whatIsIn_any b xa b.q.length xc w3)
  unfold askV at CW
  go_wp2_with (first
    | refine wpList_load_row rfl 26 (.tmp 5) rfl G rfl 26 (bcells b (.slice xa b.q.length xc)) (0, 0) _ n3b Tryd.underlying26 rfl (by kernel_rfl) ?_)
  refine CW.out.mono ?_
  rintro e w4 ⟨rfl, hb⟩
  have h4 := h3.below hb
  have n4 := (hb.block _ (Array.getElem?_eq_some_iff.1 n3b).1).trans n3b
  have hb4 : Below w.heap.size w w4 := hb3.trans (hb.mono hb3.size)
  have o4 : MOwn w4 (w.heap.size + 1 + 1 + 1) (.slice xa b.q.length xc) b.q := row_below o3 hb
  clear h3 n3b hb3 o3 hb CW
  have CF := Lib.hid (first_any _ b.q w4 (own_msgs_at o4))
  go_wp2_with fail
  refine CF.out.mono ?_
  rintro e w5 ⟨rfl, hb⟩
  have h5 := h4.below hb
  have n5 := (hb.block _ (Array.getElem?_eq_some_iff.1 n4).1).trans n4
  have hb5 : Below w.heap.size w w5 := hb4.trans (hb.mono hb4.size)
  have o5 : MOwn w5 (w.heap.size + 1 + 1 + 1) (.slice xa b.q.length xc) b.q := row_below o4 hb
  clear h4 n4 hb4 o4 hb CF
  obtain ⟨x, hx⟩ : ∃ x, b.q.headD (0, 0, ⟨#[]⟩, 0) = x := ⟨_, rfl⟩
  obtain ⟨t, ht⟩ : ∃ t, (!b.q.isEmpty) = t := ⟨_, rfl⟩
  rw [hx, ht]
  have HXX := Lib.hid hx
  have HT := Lib.hid ht
  clear hx ht
  go_upto_region 5 with (fail)
  have q6 := (Below.refl w5.heap.size w5).alloc (Nat.le_refl _) (.cells (#[.int .i64 x.1, .int .i64 x.2.1, .string x.2.2.1, .int .i64 x.2.2.2]) 29)
  have f6 : (w5.alloc (.cells (#[.int .i64 x.1, .int .i64 x.2.1, .string x.2.2.1, .int .i64 x.2.2.2]) 29)).heap[w5.heap.size]? = some (.cells (#[.int .i64 x.1, .int .i64 x.2.1, .string x.2.2.1, .int .i64 x.2.2.2]) 29 (0, 0)) := heap_alloc_new _ _
  generalize w5.alloc (.cells (#[.int .i64 x.1, .int .i64 x.2.1, .string x.2.2.1, .int .i64 x.2.2.2]) 29) = w6 at q6 f6 ⊢
  have hz := h5.below q6
  have nz := (q6.block _ (Array.getElem?_eq_some_iff.1 n5).1).trans n5
  have bz : Below w.heap.size w w6 := hb5.trans (q6.mono hb5.size)
  have oz : MOwn w6 (w.heap.size + 1 + 1 + 1) (.slice xa b.q.length xc) b.q := row_below o5 q6
  have sG : w.heap.size + 1 + 1 < G := by omega
  have sF : G < w5.heap.size := (Array.getElem?_eq_some_iff.1 n5).1
  obtain ⟨F, hF⟩ : ∃ F, w5.heap.size = F := ⟨_, rfl⟩
  rw [hF] at f6 sF ⊢
  clear hF h5 n5 hb5 o5 q6 s2
  cases t
  · have hq : b.q.length = 0 := by have h := HT.out; cases h2 : b.q with | nil => rfl | cons _ _ => rw [h2] at h; simp at h
    have HX : Hid (RR = (b, x, false)) := Lib.hid (by rw [HR2.out (by trivial) hq, ← HXX.out, List.length_eq_zero_iff.1 hq]; rfl)
    have HQ : Hid (∃ pre post, b.q = pre ++ b.q ++ post ∧ PartOf (.slice xa b.q.length xc) pre.length b.q.length (.slice xa b.q.length xc)) := Lib.hid ⟨[], [], by simp, PartOf.whole oz⟩
    obtain ⟨N, hN⟩ : ∃ N, b.q.length = N := ⟨_, rfl⟩
    rw [hN] at hz nz oz ⊢
    clear hq HT HXX HR1 HR2 HR3 HNB
    have HQ : Hid (∃ pre post, b.q = pre ++ b.q ++ post ∧ PartOf (.slice xa N xc) pre.length b.q.length (.slice xa N xc)) := Lib.hid (by rw [← hN]; exact HQ.out)
    clear hN
    obtain ⟨qq, hqq⟩ : ∃ qq, b.q = qq := ⟨_, rfl⟩
    obtain ⟨V, hV⟩ : ∃ V, Value.slice xa N xc = V := ⟨_, rfl⟩
    have oz : MOwn w6 (w.heap.size + 1 + 1 + 1) V qq := by rw [← hV, ← hqq]; exact oz
    have HQ : Hid (∃ pre post, qq = pre ++ b.q ++ post ∧ PartOf V pre.length b.q.length (.slice xa N xc)) := Lib.hid (by rw [← hV, ← hqq]; exact HQ.out)
    clear hqq hV
    go_upto_region 8 with (fail)
    obtain ⟨wz, hwz⟩ : ∃ wz, w6 = wz := ⟨_, rfl⟩
    rw [hwz] at hz nz bz oz f6 ⊢
    have fz := f6
    clear hwz f6
    obtain ⟨o, hoo⟩ : ∃ o, b = o := ⟨_, rfl⟩
    obtain ⟨na, hna⟩ : ∃ na, xa = na := ⟨_, rfl⟩
    obtain ⟨nc, hnc⟩ : ∃ nc, xc = nc := ⟨_, rfl⟩
    have nz : wz.heap[G]? = some (.cells (bcells o (.slice na N nc)) 26 (0, 0)) := by rw [← hoo, ← hna, ← hnc]; exact nz
    have HX : Hid (RR = (o, x, false)) := Lib.hid (by rw [← hoo]; exact HX.out)
    have HQ : Hid (∃ pre post, qq = pre ++ o.q ++ post ∧ PartOf V pre.length o.q.length (.slice na N nc)) := Lib.hid (by rw [← hoo, ← hna, ← hnc]; exact HQ.out)
    clear hoo hna hnc
    have KP : Hid (∀ (wx wy : World) (g : Nat), (wx.heap[G]? = some (.cells (bcells o (.slice na N nc)) 26 (0, 0)) ∧ wx.cell? ⟨F, 0, none⟩ = some (.int .i64 x.1) ∧ wx.cell? ⟨F, 1, none⟩ = some (.int .i64 x.2.1) ∧ wx.cell? ⟨F, 2, none⟩ = some (.string x.2.2.1) ∧ wx.cell? ⟨F, 3, none⟩ = some (.int .i64 x.2.2.2)) → wx.grownBy wy (some g) → (g = w.heap.size + 1 ∨ g = w.heap.size + 1 + 1) → wy.heap[G]? = some (.cells (bcells o (.slice na N nc)) 26 (0, 0)) ∧ wy.cell? ⟨F, 0, none⟩ = some (.int .i64 x.1) ∧ wy.cell? ⟨F, 1, none⟩ = some (.int .i64 x.2.1) ∧ wy.cell? ⟨F, 2, none⟩ = some (.string x.2.2.1) ∧ wy.cell? ⟨F, 3, none⟩ = some (.int .i64 x.2.2.2)) := Lib.hid (fun wx wy g h hg hr => ⟨(hg.block _ (Array.getElem?_eq_some_iff.1 h.1).1 (fun e => by injection e with e; omega)).trans h.1, cell_off hg (by omega) h.2.1, cell_off hg (by omega) h.2.2.1, cell_off hg (by omega) h.2.2.2.1, cell_off hg (by omega) h.2.2.2.2⟩)
    have C0 := (show wz.heap[G]? = some (.cells (bcells o (.slice na N nc)) 26 (0, 0)) ∧ wz.cell? ⟨F, 0, none⟩ = some (.int .i64 x.1) ∧ wz.cell? ⟨F, 1, none⟩ = some (.int .i64 x.2.1) ∧ wz.cell? ⟨F, 2, none⟩ = some (.string x.2.2.1) ∧ wz.cell? ⟨F, 3, none⟩ = some (.int .i64 x.2.2.2) from ⟨nz, cell_of_heap fz 0, cell_of_heap fz 1, cell_of_heap fz 2, cell_of_heap fz 3⟩)
    have hd := (Below.refl wz.heap.size wz).drew
    have h8 := hz.below hd
    have b8 : Below w.heap.size w wz.drew := bz.trans (hd.mono bz.size)
    have o8 : MOwn wz.drew (w.heap.size + 1 + 1 + 1) V qq := row_below oz hd
    clear hz bz oz nz fz hd
    refine wp_region_held_drew (S := fun wx => wx.heap[G]? = some (.cells (bcells o (.slice na N nc)) 26 (0, 0)) ∧ wx.cell? ⟨F, 0, none⟩ = some (.int .i64 x.1) ∧ wx.cell? ⟨F, 1, none⟩ = some (.int .i64 x.2.1) ∧ wx.cell? ⟨F, 2, none⟩ = some (.string x.2.2.1) ∧ wx.cell? ⟨F, 3, none⟩ = some (.int .i64 x.2.2.2)) (by kernel_rfl) ?_ (fun hHeld => ?_)
    · exact C0
    change wpAnyH _ _ _ _ _ 6 #[false, false, false, false, false, false] _ _
    clear C0
    generalize wz.drew = wd at h8 b8 o8 hHeld ⊢
    refine wpAnyH_take (i := 0) (v := bagg o (.slice na N nc)) rfl (by kernel_rfl) (by kernel_rfl) (by kernel_rfl) (fun _ _ _ h => h) (yieldsIf_load_mid rfl 26 (.tmp 5) rfl G 0 rfl [.int .i64 o.cap, .int .i64 o.pol, (.slice na N nc), .int .i64 o.ofr, .int .i64 o.rcv, .int .i64 o.drp, .int .i64 o.mrg, .bool o.shut] _ (fun wx h => range_of_heap h.1) Tryd.underlying26 rfl (by kernel_rfl)) (by assumption) ?_
    try simp only [Act.put, List.getElem_toArray, List.getElem_cons_succ, List.getElem_cons_zero, List.setIfInBounds_toArray, List.set_cons_zero, List.set_cons_succ]
    refine wpAnyH_take (i := 1) (v := ?_) rfl (by kernel_rfl) (by kernel_rfl) (by kernel_rfl) (fun _ _ _ h => h) (Or.inl ⟨by rfl, ?_⟩) (by assumption) ?_
    rotate_left
    · intro w hSw; (try dsimp only at hSw); go_simp; try with_reducible rfl
    try simp only [Act.put, List.getElem_toArray, List.getElem_cons_succ, List.getElem_cons_zero, List.setIfInBounds_toArray, List.set_cons_zero, List.set_cons_succ]
    refine wpAnyH_take (i := 2) (v := ?_) rfl (by kernel_rfl) (by kernel_rfl) (by kernel_rfl) (fun _ _ _ h => h) (Or.inl ⟨by rfl, ?_⟩) (by assumption) ?_
    rotate_left
    · intro w hSw; (try dsimp only at hSw); go_simp; try with_reducible rfl
    try simp only [Act.put, List.getElem_toArray, List.getElem_cons_succ, List.getElem_cons_zero, List.setIfInBounds_toArray, List.set_cons_zero, List.set_cons_succ]
    have HE := tak_end h8 b8 o8 (bcells o (.slice na N nc)) (#[.int .i64 x.1, .int .i64 x.2.1, .string x.2.2.1, .int .i64 x.2.2.2])
    refine wpAnyH_ready (rs := [3]) (by kernel_rfl) (by simp) (AllReadyH.cons rfl (fun K hK => ?_) AllReadyH.nil)
    rw [if_pos (by rfl)]
    refine wp_store_row 26 (.tmp 2) (.tmp 30) rfl (w.heap.size + 1) (bcells o (.slice na N nc)) rfl rfl 26 _ h8.res (by kernel_rfl) rfl (bcells_one _ _ _ _) ?_
    refine hK.out _ _ ?_ (fun hHeld => ?_)
    · exact KP.out _ _ _ hHeld (grown_setRow _ _ _) (.inl rfl)
    clear hK K
    try simp only [Act.put, List.getElem_toArray, List.getElem_cons_succ, List.getElem_cons_zero, List.setIfInBounds_toArray, List.set_cons_zero, List.set_cons_succ]
    refine wpAnyH_ready (rs := [4]) (by kernel_rfl) (by simp) (AllReadyH.cons rfl (fun K hK => ?_) AllReadyH.nil)
    rw [if_pos (by rfl)]
    refine wp_store_row 29 (.tmp 3) (.tmp 31) rfl (w.heap.size + 1 + 1) (#[.int .i64 x.1, .int .i64 x.2.1, .string x.2.2.1, .int .i64 x.2.2.2]) rfl rfl 29 _ HE.2.2.2.2 (by kernel_rfl) rfl (mcell_one x) ?_
    refine hK.out _ _ ?_ (fun hHeld => ?_)
    · exact KP.out _ _ _ hHeld (grown_setRow _ _ _) (.inr rfl)
    clear hK K
    try simp only [Act.put, List.getElem_toArray, List.getElem_cons_succ, List.getElem_cons_zero, List.setIfInBounds_toArray, List.set_cons_zero, List.set_cons_succ]
    refine wpAnyH_take (i := 5) (v := ?_) rfl (by kernel_rfl) (by kernel_rfl) (by kernel_rfl) (fun _ _ _ h => h) (Or.inl ⟨by rfl, ?_⟩) (by assumption) ?_
    rotate_left
    · intro w hSw; (try dsimp only at hSw); go_simp; try with_reducible rfl
    try simp only [Act.put, List.getElem_toArray, List.getElem_cons_succ, List.getElem_cons_zero, List.setIfInBounds_toArray, List.set_cons_zero, List.set_cons_succ]
    refine wpAnyH_done (by kernel_rfl) ?_ _
    clear hHeld KP
    go_wp2
    obtain ⟨pre, post, q1, q2⟩ := HQ.out
    exact bodyPost_ret (results_row_row_tmp rfl _ _ _ _ _ _ _ _ _ _ _ _ rfl HE.1 Tryd.underlying26 rfl (by kernel_rfl) rfl HE.2.1 Tryd.underlying29 rfl (by kernel_rfl)) rfl ⟨V, _, pre, post, by rw [HX.out]; rfl, by rw [HX.out, ← q1]; exact HE.2.2.1, by rw [HX.out]; exact q2, HE.2.2.2.1⟩
  · have hq0 : 0 < b.q.length := by have h := HT.out; cases h2 : b.q with | nil => rw [h2] at h; simp at h | cons _ _ => simp
    have HX : Hid (RR = ({ b with q := b.q.drop 1, rcv := b.rcv + 1 }, x, true)) := Lib.hid (by
      rw [HR3.out (by trivial) hq0, ← HXX.out, headD_first _ hq0])
    obtain ⟨gy, yc, hyv⟩ := Joins.ownsRow_form oz hq0
    injection hyv with hya hyn hyc
    subst hya hyc
    have hcap : b.q.length ≤ xc := own_cap2 oz
    have HPT := Lib.hid (fun o ho => tail_part (o := o) oz hq0 ho hcap)
    have hq2 : (1 : Int) ≤ (b.q.length : Int) := by omega
    have e1 : IntKind.i64.wrap (b.rcv + 1) = b.rcv + 1 := by rw [IntKind.wrap_i64]; omega
    have HL1 := Lib.hid hcap
    clear hcap
    clear HT HXX HR1 HR2 HR3 HNB
    have y2 : w6.cell? ⟨G, 2, none⟩ = some (.slice (some ⟨gy, 0, none⟩) b.q.length xc) := cell_of_heap nz 2
    have f2 : w6.frozen? ⟨G, 2, none⟩ = false := frozen_of_row _ _ _ _ _ nz
    have hneG := own_off oz nz
    by_cases hxc : xc = 1
    · subst hxc
      go_upto_region 7 with (fail)
      have gs := grown_setCell w6 G 2 (.slice (some ⟨gy, 0, none⟩) (b.q.length - 1) (1 - 1))
      have h7 := hz.grown gs (fun k e => by cases e; omega)
      have b7 := bz.trans (below_of_grown (n := w.heap.size) gs (by omega) bz.size)
      have o7 := own_kept1 oz gs hneG
      have f7 := (gs.block F (Array.getElem?_eq_some_iff.1 f6).1 (fun e => by injection e with e; omega)).trans f6
      have n7 : (w6.setCell ⟨G, 2, none⟩ (.slice (some ⟨gy, 0, none⟩) (b.q.length - 1) (1 - 1))).heap[G]? = some (.cells (bcells b (.slice (some ⟨gy, 0, none⟩) (b.q.length - 1) (1 - 1))) 26 (0, 0)) := heap_setCell_same _ _ 2 _ _ _ nz
      generalize w6.setCell ⟨G, 2, none⟩ (.slice (some ⟨gy, 0, none⟩) (b.q.length - 1) (1 - 1)) = w7 at h7 b7 o7 f7 n7 ⊢
      clear gs hz bz oz f6 nz y2 f2
      have y4 : w7.cell? ⟨G, 4, none⟩ = some (.int .i64 b.rcv) := cell_of_heap n7 4
      have z4 : w7.frozen? ⟨G, 4, none⟩ = false := frozen_of_row _ _ _ _ _ n7
      go_upto_region 8 with (fail)
      have gs := grown_setCell w7 G 4 (.int .i64 (b.rcv + 1))
      have hz := h7.grown gs (fun k e => by cases e; omega)
      have bz := b7.trans (below_of_grown (n := w.heap.size) gs (by omega) b7.size)
      have oz := own_kept1 o7 gs (own_off o7 n7)
      have fz := (gs.block F (Array.getElem?_eq_some_iff.1 f7).1 (fun e => by injection e with e; omega)).trans f7
      have nz : (w7.setCell ⟨G, 4, none⟩ (.int .i64 (b.rcv + 1))).heap[G]? = some (.cells (bcells { b with q := b.q.drop 1, rcv := b.rcv + 1 } (.slice (some ⟨gy, 0, none⟩) (b.q.length - 1) (1 - 1))) 26 (0, 0)) := heap_setCell_same _ _ 4 _ _ _ n7
      generalize w7.setCell ⟨G, 4, none⟩ (.int .i64 (b.rcv + 1)) = wz at hz bz oz fz nz ⊢
      clear gs h7 b7 o7 f7 n7 y4 z4 e1 hq2 HL1 hneG
      have HQ := Lib.hid (HPT.out 0 (by simp))
      clear HPT
      obtain ⟨o, hoo⟩ : ∃ o, { b with q := b.q.drop 1, rcv := b.rcv + 1 } = o := ⟨_, rfl⟩
      obtain ⟨na, hna⟩ : ∃ na, some (⟨gy, 0, none⟩ : Addr) = na := ⟨_, rfl⟩
      obtain ⟨nc, hnc⟩ : ∃ nc, 1 - 1 = nc := ⟨_, rfl⟩
      obtain ⟨N, hN⟩ : ∃ N, b.q.length - 1 = N := ⟨_, rfl⟩
      obtain ⟨qq, hqq⟩ : ∃ qq, b.q = qq := ⟨_, rfl⟩
      obtain ⟨V, hV⟩ : ∃ V, Value.slice (some ⟨gy, 0, none⟩) b.q.length 1 = V := ⟨_, rfl⟩
      have oz : MOwn wz (w.heap.size + 1 + 1 + 1) V qq := by rw [← hV, ← hqq]; exact oz
      have nz : wz.heap[G]? = some (.cells (bcells o (.slice na N nc)) 26 (0, 0)) := by rw [← hoo, ← hna, ← hnc, ← hN]; exact nz
      have HX : Hid (RR = (o, x, true)) := Lib.hid (by rw [← hoo]; exact HX.out)
      have HQ : Hid (∃ pre post, qq = pre ++ o.q ++ post ∧ PartOf V pre.length o.q.length (.slice na N nc)) := Lib.hid (by rw [← hoo, ← hna, ← hnc, ← hN, ← hV, ← hqq]; exact HQ.out)
      clear hoo hna hnc hN hV hqq hq0
      have KP : Hid (∀ (wx wy : World) (g : Nat), (wx.heap[G]? = some (.cells (bcells o (.slice na N nc)) 26 (0, 0)) ∧ wx.cell? ⟨F, 0, none⟩ = some (.int .i64 x.1) ∧ wx.cell? ⟨F, 1, none⟩ = some (.int .i64 x.2.1) ∧ wx.cell? ⟨F, 2, none⟩ = some (.string x.2.2.1) ∧ wx.cell? ⟨F, 3, none⟩ = some (.int .i64 x.2.2.2)) → wx.grownBy wy (some g) → (g = w.heap.size + 1 ∨ g = w.heap.size + 1 + 1) → wy.heap[G]? = some (.cells (bcells o (.slice na N nc)) 26 (0, 0)) ∧ wy.cell? ⟨F, 0, none⟩ = some (.int .i64 x.1) ∧ wy.cell? ⟨F, 1, none⟩ = some (.int .i64 x.2.1) ∧ wy.cell? ⟨F, 2, none⟩ = some (.string x.2.2.1) ∧ wy.cell? ⟨F, 3, none⟩ = some (.int .i64 x.2.2.2)) := Lib.hid (fun wx wy g h hg hr => ⟨(hg.block _ (Array.getElem?_eq_some_iff.1 h.1).1 (fun e => by injection e with e; omega)).trans h.1, cell_off hg (by omega) h.2.1, cell_off hg (by omega) h.2.2.1, cell_off hg (by omega) h.2.2.2.1, cell_off hg (by omega) h.2.2.2.2⟩)
      have C0 := (show wz.heap[G]? = some (.cells (bcells o (.slice na N nc)) 26 (0, 0)) ∧ wz.cell? ⟨F, 0, none⟩ = some (.int .i64 x.1) ∧ wz.cell? ⟨F, 1, none⟩ = some (.int .i64 x.2.1) ∧ wz.cell? ⟨F, 2, none⟩ = some (.string x.2.2.1) ∧ wz.cell? ⟨F, 3, none⟩ = some (.int .i64 x.2.2.2) from ⟨nz, cell_of_heap fz 0, cell_of_heap fz 1, cell_of_heap fz 2, cell_of_heap fz 3⟩)
      have hd := (Below.refl wz.heap.size wz).drew
      have h8 := hz.below hd
      have b8 : Below w.heap.size w wz.drew := bz.trans (hd.mono bz.size)
      have o8 : MOwn wz.drew (w.heap.size + 1 + 1 + 1) V qq := row_below oz hd
      clear hz bz oz nz fz hd
      refine wp_region_held_drew (S := fun wx => wx.heap[G]? = some (.cells (bcells o (.slice na N nc)) 26 (0, 0)) ∧ wx.cell? ⟨F, 0, none⟩ = some (.int .i64 x.1) ∧ wx.cell? ⟨F, 1, none⟩ = some (.int .i64 x.2.1) ∧ wx.cell? ⟨F, 2, none⟩ = some (.string x.2.2.1) ∧ wx.cell? ⟨F, 3, none⟩ = some (.int .i64 x.2.2.2)) (by kernel_rfl) ?_ (fun hHeld => ?_)
      · exact C0
      change wpAnyH _ _ _ _ _ 6 #[false, false, false, false, false, false] _ _
      clear C0
      generalize wz.drew = wd at h8 b8 o8 hHeld ⊢
      refine wpAnyH_take (i := 0) (v := bagg o (.slice na N nc)) rfl (by kernel_rfl) (by kernel_rfl) (by kernel_rfl) (fun _ _ _ h => h) (yieldsIf_load_mid rfl 26 (.tmp 5) rfl G 0 rfl [.int .i64 o.cap, .int .i64 o.pol, (.slice na N nc), .int .i64 o.ofr, .int .i64 o.rcv, .int .i64 o.drp, .int .i64 o.mrg, .bool o.shut] _ (fun wx h => range_of_heap h.1) Tryd.underlying26 rfl (by kernel_rfl)) (by assumption) ?_
      try simp only [Act.put, List.getElem_toArray, List.getElem_cons_succ, List.getElem_cons_zero, List.setIfInBounds_toArray, List.set_cons_zero, List.set_cons_succ]
      refine wpAnyH_take (i := 1) (v := ?_) rfl (by kernel_rfl) (by kernel_rfl) (by kernel_rfl) (fun _ _ _ h => h) (Or.inl ⟨by rfl, ?_⟩) (by assumption) ?_
      rotate_left
      · intro w hSw; (try dsimp only at hSw); go_simp; try with_reducible rfl
      try simp only [Act.put, List.getElem_toArray, List.getElem_cons_succ, List.getElem_cons_zero, List.setIfInBounds_toArray, List.set_cons_zero, List.set_cons_succ]
      refine wpAnyH_take (i := 2) (v := ?_) rfl (by kernel_rfl) (by kernel_rfl) (by kernel_rfl) (fun _ _ _ h => h) (Or.inl ⟨by rfl, ?_⟩) (by assumption) ?_
      rotate_left
      · intro w hSw; (try dsimp only at hSw); go_simp; try with_reducible rfl
      try simp only [Act.put, List.getElem_toArray, List.getElem_cons_succ, List.getElem_cons_zero, List.setIfInBounds_toArray, List.set_cons_zero, List.set_cons_succ]
      have HE := tak_end h8 b8 o8 (bcells o (.slice na N nc)) (#[.int .i64 x.1, .int .i64 x.2.1, .string x.2.2.1, .int .i64 x.2.2.2])
      refine wpAnyH_ready (rs := [3]) (by kernel_rfl) (by simp) (AllReadyH.cons rfl (fun K hK => ?_) AllReadyH.nil)
      rw [if_pos (by rfl)]
      refine wp_store_row 26 (.tmp 2) (.tmp 30) rfl (w.heap.size + 1) (bcells o (.slice na N nc)) rfl rfl 26 _ h8.res (by kernel_rfl) rfl (bcells_one _ _ _ _) ?_
      refine hK.out _ _ ?_ (fun hHeld => ?_)
      · exact KP.out _ _ _ hHeld (grown_setRow _ _ _) (.inl rfl)
      clear hK K
      try simp only [Act.put, List.getElem_toArray, List.getElem_cons_succ, List.getElem_cons_zero, List.setIfInBounds_toArray, List.set_cons_zero, List.set_cons_succ]
      refine wpAnyH_ready (rs := [4]) (by kernel_rfl) (by simp) (AllReadyH.cons rfl (fun K hK => ?_) AllReadyH.nil)
      rw [if_pos (by rfl)]
      refine wp_store_row 29 (.tmp 3) (.tmp 31) rfl (w.heap.size + 1 + 1) (#[.int .i64 x.1, .int .i64 x.2.1, .string x.2.2.1, .int .i64 x.2.2.2]) rfl rfl 29 _ HE.2.2.2.2 (by kernel_rfl) rfl (mcell_one x) ?_
      refine hK.out _ _ ?_ (fun hHeld => ?_)
      · exact KP.out _ _ _ hHeld (grown_setRow _ _ _) (.inr rfl)
      clear hK K
      try simp only [Act.put, List.getElem_toArray, List.getElem_cons_succ, List.getElem_cons_zero, List.setIfInBounds_toArray, List.set_cons_zero, List.set_cons_succ]
      refine wpAnyH_take (i := 5) (v := ?_) rfl (by kernel_rfl) (by kernel_rfl) (by kernel_rfl) (fun _ _ _ h => h) (Or.inl ⟨by rfl, ?_⟩) (by assumption) ?_
      rotate_left
      · intro w hSw; (try dsimp only at hSw); go_simp; try with_reducible rfl
      try simp only [Act.put, List.getElem_toArray, List.getElem_cons_succ, List.getElem_cons_zero, List.setIfInBounds_toArray, List.set_cons_zero, List.set_cons_succ]
      refine wpAnyH_done (by kernel_rfl) ?_ _
      clear hHeld KP
      go_wp2
      obtain ⟨pre, post, q1, q2⟩ := HQ.out
      exact bodyPost_ret (results_row_row_tmp rfl _ _ _ _ _ _ _ _ _ _ _ _ rfl HE.1 Tryd.underlying26 rfl (by kernel_rfl) rfl HE.2.1 Tryd.underlying29 rfl (by kernel_rfl)) rfl ⟨V, _, pre, post, by rw [HX.out]; rfl, by rw [HX.out, ← q1]; exact HE.2.2.1, by rw [HX.out]; exact q2, HE.2.2.2.1⟩
    · go_upto_region 7 with (fail)
      have gs := grown_setCell w6 G 2 (.slice (some ⟨gy, 4, none⟩) (b.q.length - 1) (xc - 1))
      have h7 := hz.grown gs (fun k e => by cases e; omega)
      have b7 := bz.trans (below_of_grown (n := w.heap.size) gs (by omega) bz.size)
      have o7 := own_kept1 oz gs hneG
      have f7 := (gs.block F (Array.getElem?_eq_some_iff.1 f6).1 (fun e => by injection e with e; omega)).trans f6
      have n7 : (w6.setCell ⟨G, 2, none⟩ (.slice (some ⟨gy, 4, none⟩) (b.q.length - 1) (xc - 1))).heap[G]? = some (.cells (bcells b (.slice (some ⟨gy, 4, none⟩) (b.q.length - 1) (xc - 1))) 26 (0, 0)) := heap_setCell_same _ _ 2 _ _ _ nz
      generalize w6.setCell ⟨G, 2, none⟩ (.slice (some ⟨gy, 4, none⟩) (b.q.length - 1) (xc - 1)) = w7 at h7 b7 o7 f7 n7 ⊢
      clear gs hz bz oz f6 nz y2 f2
      have y4 : w7.cell? ⟨G, 4, none⟩ = some (.int .i64 b.rcv) := cell_of_heap n7 4
      have z4 : w7.frozen? ⟨G, 4, none⟩ = false := frozen_of_row _ _ _ _ _ n7
      go_upto_region 8 with (fail)
      have gs := grown_setCell w7 G 4 (.int .i64 (b.rcv + 1))
      have hz := h7.grown gs (fun k e => by cases e; omega)
      have bz := b7.trans (below_of_grown (n := w.heap.size) gs (by omega) b7.size)
      have oz := own_kept1 o7 gs (own_off o7 n7)
      have fz := (gs.block F (Array.getElem?_eq_some_iff.1 f7).1 (fun e => by injection e with e; omega)).trans f7
      have nz : (w7.setCell ⟨G, 4, none⟩ (.int .i64 (b.rcv + 1))).heap[G]? = some (.cells (bcells { b with q := b.q.drop 1, rcv := b.rcv + 1 } (.slice (some ⟨gy, 4, none⟩) (b.q.length - 1) (xc - 1))) 26 (0, 0)) := heap_setCell_same _ _ 4 _ _ _ n7
      generalize w7.setCell ⟨G, 4, none⟩ (.int .i64 (b.rcv + 1)) = wz at hz bz oz fz nz ⊢
      clear gs h7 b7 o7 f7 n7 y4 z4 e1 hq2 HL1 hneG
      have HQ := Lib.hid (HPT.out 4 (by simp))
      clear HPT
      obtain ⟨o, hoo⟩ : ∃ o, { b with q := b.q.drop 1, rcv := b.rcv + 1 } = o := ⟨_, rfl⟩
      obtain ⟨na, hna⟩ : ∃ na, some (⟨gy, 4, none⟩ : Addr) = na := ⟨_, rfl⟩
      obtain ⟨nc, hnc⟩ : ∃ nc, xc - 1 = nc := ⟨_, rfl⟩
      obtain ⟨N, hN⟩ : ∃ N, b.q.length - 1 = N := ⟨_, rfl⟩
      obtain ⟨qq, hqq⟩ : ∃ qq, b.q = qq := ⟨_, rfl⟩
      obtain ⟨V, hV⟩ : ∃ V, Value.slice (some ⟨gy, 0, none⟩) b.q.length xc = V := ⟨_, rfl⟩
      have oz : MOwn wz (w.heap.size + 1 + 1 + 1) V qq := by rw [← hV, ← hqq]; exact oz
      have nz : wz.heap[G]? = some (.cells (bcells o (.slice na N nc)) 26 (0, 0)) := by rw [← hoo, ← hna, ← hnc, ← hN]; exact nz
      have HX : Hid (RR = (o, x, true)) := Lib.hid (by rw [← hoo]; exact HX.out)
      have HQ : Hid (∃ pre post, qq = pre ++ o.q ++ post ∧ PartOf V pre.length o.q.length (.slice na N nc)) := Lib.hid (by rw [← hoo, ← hna, ← hnc, ← hN, ← hV, ← hqq]; exact HQ.out)
      clear hoo hna hnc hN hV hqq hq0
      have KP : Hid (∀ (wx wy : World) (g : Nat), (wx.heap[G]? = some (.cells (bcells o (.slice na N nc)) 26 (0, 0)) ∧ wx.cell? ⟨F, 0, none⟩ = some (.int .i64 x.1) ∧ wx.cell? ⟨F, 1, none⟩ = some (.int .i64 x.2.1) ∧ wx.cell? ⟨F, 2, none⟩ = some (.string x.2.2.1) ∧ wx.cell? ⟨F, 3, none⟩ = some (.int .i64 x.2.2.2)) → wx.grownBy wy (some g) → (g = w.heap.size + 1 ∨ g = w.heap.size + 1 + 1) → wy.heap[G]? = some (.cells (bcells o (.slice na N nc)) 26 (0, 0)) ∧ wy.cell? ⟨F, 0, none⟩ = some (.int .i64 x.1) ∧ wy.cell? ⟨F, 1, none⟩ = some (.int .i64 x.2.1) ∧ wy.cell? ⟨F, 2, none⟩ = some (.string x.2.2.1) ∧ wy.cell? ⟨F, 3, none⟩ = some (.int .i64 x.2.2.2)) := Lib.hid (fun wx wy g h hg hr => ⟨(hg.block _ (Array.getElem?_eq_some_iff.1 h.1).1 (fun e => by injection e with e; omega)).trans h.1, cell_off hg (by omega) h.2.1, cell_off hg (by omega) h.2.2.1, cell_off hg (by omega) h.2.2.2.1, cell_off hg (by omega) h.2.2.2.2⟩)
      have C0 := (show wz.heap[G]? = some (.cells (bcells o (.slice na N nc)) 26 (0, 0)) ∧ wz.cell? ⟨F, 0, none⟩ = some (.int .i64 x.1) ∧ wz.cell? ⟨F, 1, none⟩ = some (.int .i64 x.2.1) ∧ wz.cell? ⟨F, 2, none⟩ = some (.string x.2.2.1) ∧ wz.cell? ⟨F, 3, none⟩ = some (.int .i64 x.2.2.2) from ⟨nz, cell_of_heap fz 0, cell_of_heap fz 1, cell_of_heap fz 2, cell_of_heap fz 3⟩)
      have hd := (Below.refl wz.heap.size wz).drew
      have h8 := hz.below hd
      have b8 : Below w.heap.size w wz.drew := bz.trans (hd.mono bz.size)
      have o8 : MOwn wz.drew (w.heap.size + 1 + 1 + 1) V qq := row_below oz hd
      clear hz bz oz nz fz hd
      refine wp_region_held_drew (S := fun wx => wx.heap[G]? = some (.cells (bcells o (.slice na N nc)) 26 (0, 0)) ∧ wx.cell? ⟨F, 0, none⟩ = some (.int .i64 x.1) ∧ wx.cell? ⟨F, 1, none⟩ = some (.int .i64 x.2.1) ∧ wx.cell? ⟨F, 2, none⟩ = some (.string x.2.2.1) ∧ wx.cell? ⟨F, 3, none⟩ = some (.int .i64 x.2.2.2)) (by kernel_rfl) ?_ (fun hHeld => ?_)
      · exact C0
      change wpAnyH _ _ _ _ _ 6 #[false, false, false, false, false, false] _ _
      clear C0
      generalize wz.drew = wd at h8 b8 o8 hHeld ⊢
      refine wpAnyH_take (i := 0) (v := bagg o (.slice na N nc)) rfl (by kernel_rfl) (by kernel_rfl) (by kernel_rfl) (fun _ _ _ h => h) (yieldsIf_load_mid rfl 26 (.tmp 5) rfl G 0 rfl [.int .i64 o.cap, .int .i64 o.pol, (.slice na N nc), .int .i64 o.ofr, .int .i64 o.rcv, .int .i64 o.drp, .int .i64 o.mrg, .bool o.shut] _ (fun wx h => range_of_heap h.1) Tryd.underlying26 rfl (by kernel_rfl)) (by assumption) ?_
      try simp only [Act.put, List.getElem_toArray, List.getElem_cons_succ, List.getElem_cons_zero, List.setIfInBounds_toArray, List.set_cons_zero, List.set_cons_succ]
      refine wpAnyH_take (i := 1) (v := ?_) rfl (by kernel_rfl) (by kernel_rfl) (by kernel_rfl) (fun _ _ _ h => h) (Or.inl ⟨by rfl, ?_⟩) (by assumption) ?_
      rotate_left
      · intro w hSw; (try dsimp only at hSw); go_simp; try with_reducible rfl
      try simp only [Act.put, List.getElem_toArray, List.getElem_cons_succ, List.getElem_cons_zero, List.setIfInBounds_toArray, List.set_cons_zero, List.set_cons_succ]
      refine wpAnyH_take (i := 2) (v := ?_) rfl (by kernel_rfl) (by kernel_rfl) (by kernel_rfl) (fun _ _ _ h => h) (Or.inl ⟨by rfl, ?_⟩) (by assumption) ?_
      rotate_left
      · intro w hSw; (try dsimp only at hSw); go_simp; try with_reducible rfl
      try simp only [Act.put, List.getElem_toArray, List.getElem_cons_succ, List.getElem_cons_zero, List.setIfInBounds_toArray, List.set_cons_zero, List.set_cons_succ]
      have HE := tak_end h8 b8 o8 (bcells o (.slice na N nc)) (#[.int .i64 x.1, .int .i64 x.2.1, .string x.2.2.1, .int .i64 x.2.2.2])
      refine wpAnyH_ready (rs := [3]) (by kernel_rfl) (by simp) (AllReadyH.cons rfl (fun K hK => ?_) AllReadyH.nil)
      rw [if_pos (by rfl)]
      refine wp_store_row 26 (.tmp 2) (.tmp 30) rfl (w.heap.size + 1) (bcells o (.slice na N nc)) rfl rfl 26 _ h8.res (by kernel_rfl) rfl (bcells_one _ _ _ _) ?_
      refine hK.out _ _ ?_ (fun hHeld => ?_)
      · exact KP.out _ _ _ hHeld (grown_setRow _ _ _) (.inl rfl)
      clear hK K
      try simp only [Act.put, List.getElem_toArray, List.getElem_cons_succ, List.getElem_cons_zero, List.setIfInBounds_toArray, List.set_cons_zero, List.set_cons_succ]
      refine wpAnyH_ready (rs := [4]) (by kernel_rfl) (by simp) (AllReadyH.cons rfl (fun K hK => ?_) AllReadyH.nil)
      rw [if_pos (by rfl)]
      refine wp_store_row 29 (.tmp 3) (.tmp 31) rfl (w.heap.size + 1 + 1) (#[.int .i64 x.1, .int .i64 x.2.1, .string x.2.2.1, .int .i64 x.2.2.2]) rfl rfl 29 _ HE.2.2.2.2 (by kernel_rfl) rfl (mcell_one x) ?_
      refine hK.out _ _ ?_ (fun hHeld => ?_)
      · exact KP.out _ _ _ hHeld (grown_setRow _ _ _) (.inr rfl)
      clear hK K
      try simp only [Act.put, List.getElem_toArray, List.getElem_cons_succ, List.getElem_cons_zero, List.setIfInBounds_toArray, List.set_cons_zero, List.set_cons_succ]
      refine wpAnyH_take (i := 5) (v := ?_) rfl (by kernel_rfl) (by kernel_rfl) (by kernel_rfl) (fun _ _ _ h => h) (Or.inl ⟨by rfl, ?_⟩) (by assumption) ?_
      rotate_left
      · intro w hSw; (try dsimp only at hSw); go_simp; try with_reducible rfl
      try simp only [Act.put, List.getElem_toArray, List.getElem_cons_succ, List.getElem_cons_zero, List.setIfInBounds_toArray, List.set_cons_zero, List.set_cons_succ]
      refine wpAnyH_done (by kernel_rfl) ?_ _
      clear hHeld KP
      go_wp2
      obtain ⟨pre, post, q1, q2⟩ := HQ.out
      exact bodyPost_ret (results_row_row_tmp rfl _ _ _ _ _ _ _ _ _ _ _ _ rfl HE.1 Tryd.underlying26 rfl (by kernel_rfl) rfl HE.2.1 Tryd.underlying29 rfl (by kernel_rfl)) rfl ⟨V, _, pre, post, by rw [HX.out]; rfl, by rw [HX.out, ← q1]; exact HE.2.2.1, by rw [HX.out]; exact q2, HE.2.2.2.1⟩

theorem implTaken_any (b : BoxM) (v : Value) (m : Int) (w : World) (hl : b.q.length ≤ 1048576) (hs : ∀ x ∈ b.q, x.2.2.1.size ≤ 1048576) (hv : MsgsAt w v b.q) (hm : w.cell? ⟨0, 0, none⟩ = some (.int .i64 m)) :
    Calls Tryd.prog 6 #[bagg b v] w fun e w' =>
      ∃ V u pre post, e = .returned (.tuple #[bagg (takeM b).1 u, magg (takeM b).2.1, .bool (takeM b).2.2]) ∧ MOwn w' w.heap.size V (pre ++ (takeM b).1.q ++ post) ∧ PartOf V pre.length (takeM b).1.q.length u ∧ Below w.heap.size w w' :=
  implTakenP_any b v m w hl hs hv hm

end Go.Proofs.YtfkikdoecoobgaaDoor
