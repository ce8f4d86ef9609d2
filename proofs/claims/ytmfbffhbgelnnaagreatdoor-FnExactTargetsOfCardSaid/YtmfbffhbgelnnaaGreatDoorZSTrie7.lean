/- The walk of the reference's l3Put: a knot laid into its place. -/
import Derived.Test.YtmfbffhbgelnnaaGreatDoorZSTrie6
import Derived.Test.YtmfbffhbgelnnaaGreatDoorZB8
set_option linter.unusedSimpArgs false
set_option linter.unusedVariables false
namespace Go.Proofs.YtmfbffhbgelnnaaGreatDoor
open Go.RowKit

set_option maxRecDepth 100000 in
set_option maxHeartbeats 3200000 in
theorem specPut_any (v : Value) (l : List KnotM) (us : List Value) (p : ByteArray) (B : Nat) (w : World) (hl : l.length ≤ 4000000) (hne : 0 < l.length) (hB : B ≤ w.heap.size) (hv : KOwnU w B v l us) :
    Calls Tryz.prog 75 #[v, .string p] w fun e w' => ∃ u, e = .returned u ∧ KOwn w' B u (if 0 ≤ find l p then l else putK l p) ∧ Below B w w' := by
  have HK := Lib.hid (own_knots_at ⟨us, hv⟩)
  have HV := Lib.hid hv
  obtain ⟨g, c, rfl, hgB, hnc⟩ : ∃ g c, v = .slice (some ⟨g, 0, none⟩) l.length c ∧ B ≤ g ∧ l.length ≤ c := by
    rcases hv.2.1.2 with ⟨_, h0⟩ | ⟨g, cap, cur, h1, h2, _, h3, _⟩
    · omega
    · exact ⟨g, cap, h1, h2, h3⟩
  have CF := Lib.hid (specFind_any _ l p w hl HK.out)
  clear hv
  by_cases hf : 0 ≤ find l p
  · rw [if_pos hf]
    obtain ⟨f, hfe⟩ : ∃ f, find l p = f := ⟨_, rfl⟩
    rw [hfe] at hf CF
    clear hfe
    go_enter Tryz.func75, Tryz.ntmps75
    go_wp2_with (go_at_call 72; refine CF.out.mono ?_; rintro e w' ⟨rfl, rfl⟩)
    go_ret
    exact ⟨_, rfl, ⟨us, HV.out⟩, Below.refl _ _⟩
  · rw [if_neg hf]
    obtain ⟨f, hfe⟩ : ∃ f, find l p = f := ⟨_, rfl⟩
    rw [hfe] at hf CF
    clear hfe
    obtain ⟨i1, hi1, hz1, hy1, hq1⟩ := info_parts (P := Tryz.prog) (e := 98) (z := .agg #[.string knotZ.1, .slice none 0 0]) (size := 2) (bytes := 40) (by kernel_rfl)
    go_enter Tryz.func75, Tryz.ntmps75
    go_upto_block 0 with (go_at_call 72; refine CF.out.mono ?_; rintro e w' ⟨rfl, rfl⟩)
    go_cut [5] (fun s5 wx => ∃ k : Nat, s5 = .int .i64 k ∧ k ≤ l.length ∧ Hid (putAt l p l.length = k) ∧ wx = w)
    case first =>
      go_wp2
      go_loopw [5] (fun i wr => ∃ k : Nat, k ≤ l.length ∧ i = .int .i64 k ∧ Hid (putAt l p l.length = putAt l p k) ∧ wr = w) (fun i _ => (intOf i).toNat)
      case atStart => exact ⟨l.length, Nat.le_refl _, rfl, rfl, rfl⟩
      case round =>
        obtain ⟨k, hk, rfl, HP, rfl⟩ := hrel
        by_cases hpos : 0 < k
        · have hkl : k - 1 < l.length := by omega
          have hcell := HV.out.2.1.cellAt ((k - 1) * 2) (by omega)
          rw [kcells_path l us (k - 1) hkl HV.out.1] at hcell
          have g1 : decide (0 < k) = true := decide_eq_true hpos
          have g2 : decide ((0 : Int) < (k : Int)) = true := decide_eq_true (by omega)
          have g3 : IntKind.i64.wrap ((k : Int) - 1) = (k : Int) - 1 := by rw [IntKind.wrap_i64]; omega
          have g4 : (0 : Int) ≤ (k : Int) - 1 := by omega
          have g4b : (1 : Int) ≤ (k : Int) := by omega
          have g5 : (k : Int) - 1 < (l.length : Int) := by omega
          have g6 : ((k : Int) - 1).toNat = k - 1 := by omega
          have hstep : putAt l p k = if Op.bytesLess p.toList l[k - 1].1.toList then putAt l p (k - 1) else k := by
            obtain ⟨j, rfl⟩ : ∃ j, k = j + 1 := ⟨k - 1, by omega⟩
            rw [putAt, List.getD_eq_getElem?_getD, List.getElem?_eq_getElem (by omega)]; rfl
          have hle0 := leB_less l[k - 1].1 p
          unfold leB at hle0
          obtain ⟨q, hq⟩ : ∃ q, l[k - 1].1 = q := ⟨_, rfl⟩
          rw [hq] at hcell hstep hle0
          obtain ⟨b, hb⟩ : ∃ b, less p.toList q.toList = b := ⟨_, rfl⟩
          rw [show Op.bytesLess p.toList q.toList = b from hb] at hstep
          rw [hb] at hle0
          clear hq hb
          cases b
          · have HN : Hid (putAt l p l.length = k) := Lib.hid (by rw [HP.out, hstep]; rfl)
            have hle : (Op.bytesLess q.toList p.toList || q.toList == p.toList) = true := hle0
            clear hstep HP hle0
            go_wp2
            go_meet
            exact ⟨k, rfl, hk, HN, rfl⟩
          · have HN : Hid (putAt l p l.length = putAt l p (k - 1)) := Lib.hid (by rw [HP.out, hstep]; rfl)
            have hle : (Op.bytesLess q.toList p.toList || q.toList == p.toList) = false := hle0
            clear hstep HP hle0
            go_wp2
            go_roundw
            case rel => exact ⟨k - 1, by omega, by go_num, HN, by trivial⟩
            case measure => simp [intOf]; omega
        · obtain rfl : k = 0 := by omega
          have HN : Hid (putAt l p l.length = 0) := Lib.hid (by rw [HP.out]; rfl)
          clear HP
          go_wp2
          go_meet
          exact ⟨0, rfl, hk, HN, rfl⟩
    case rest =>
      obtain ⟨k, rfl, hk, HN, rfl⟩ := hcut
      by_cases hkc : k = c
      · subst hkc
        have HSD : Hid (SrcAt wc (.slice (some ⟨g, 0, none⟩) (l.length - k) 0) (l.length - k) (kcells (l.drop k) (us.drop k))) := Lib.hid (SrcAt.none (by omega) (by rw [List.drop_of_length_le (by omega)]; rfl))
        clear hnc
        have hZ := World.ownsRow_lit (base := wc.heap.size) (e := 98) (size := 2) wc #[] 0 (Nat.le_refl _) (by unfold maxLen; omega) rfl
        have HZ := Lib.hid hZ
        have hA0 : Below wc.heap.size wc (wc.alloc (.cells #[] 98)) := (Below.refl _ _).alloc (Nat.le_refl _) _
        have HSD0 := Lib.hid (HSD.out.below hA0)
        have HKL : Hid ((kcells (l.drop k) (us.drop k)).length = (l.length - k) * 2) := Lib.hid (by rw [kcells_length _ _ (by simp [HV.out.1]), List.length_drop])
        have HONE : Hid (∀ u ∈ kcells (l.drop k) (us.drop k), u.oneCell' = true) := Lib.hid (kcells_one _ _ (fun u hu => by
          obtain ⟨j, hj, rfl⟩ := List.mem_iff_getElem.1 (List.mem_of_mem_drop hu)
          obtain ⟨a, c, e⟩ := own_slice (HV.out.2.2.1 j (by rw [← HV.out.1]; exact hj) hj)
          exact ⟨a, _, c, e⟩))
        clear hZ hA0 HSD
        go_wp2_with (at_builtin; refine wpList_append_src rfl (.tmp 28) (.tmp 31) 32 rfl wc.heap.size 98 i1 (.agg #[.string knotZ.1, .slice none 0 0]) 2 40 Tryz.underlying32 hi1 hz1 hy1 hq1 rfl (by decide) _ _ 0 (l.length - k) [] (kcells (l.drop k) (us.drop k)) rfl HZ.out rfl HSD0.out HKL.out HONE.out (by unfold maxLen; omega) (by omega) (by simp) ?_)
        intro v1 w1 hr1 hg1 _
        obtain ⟨x1, c1, hv1⟩ := own_slice hr1
        subst hv1
        have hB1 : Below wc.heap.size wc w1 := ((Below.refl _ _).alloc (Nat.le_refl _) _).grown hg1 (by simp) (fun j h => by cases h; exact Nat.le_refl _)
        have HR1 := Lib.hid hr1
        have HB1 := Lib.hid hB1
        have hX : Below w1.heap.size w1 (w1.alloc (.cells #[.string p, .slice none 0 0] 98)) := (Below.refl _ _).alloc (Nat.le_refl _) _
        have hT := own_take HV.out.2.1 hk
        rw [kcells_take HV.out.1 k hk] at hT
        have HT := Lib.hid (row_below (row_below hT hB1) hX)
        have HSX : Hid (SrcAt (w1.alloc (.cells #[.string p, .slice none 0 0] 98)) (.slice (some ⟨w1.heap.size, 0, none⟩) 1 1) 1 [.string p, .slice none 0 0]) := Lib.hid ⟨_, _, rfl, .inr ⟨_, rfl, fun j u hu => by
          match j, hu with
          | 0, hu => cases hu; simp [Addr.add]
          | 1, hu => cases hu; simp [Addr.add]⟩⟩
        have HR1X := Lib.hid (row_below hr1 hX)
        have hsz1 := hB1.size
        have hgw : g < wc.heap.size := (HV.out.2.1.lt g rfl).2
        have HBX := Lib.hid (hB1.trans (hX.mono hsz1))
        have HNB : Hid (∀ b, (Value.slice x1 (l.length - k) c1).ownBlock = some b → wc.heap.size ≤ b ∧ b < w1.heap.size) := Lib.hid (hr1.lt)
        clear hr1 hg1 hX hT HZ HSD0 hB1 HR1 HB1
        go_wp2_with (at_builtin; refine wpList_append_src rfl (.tmp 35) (.tmp 38) 32 rfl B 98 i1 (.agg #[.string knotZ.1, .slice none 0 0]) 2 40 Tryz.underlying32 hi1 hz1 hy1 hq1 rfl (by decide) _ _ k 1 (kcells (l.take k) (us.take k)) [.string p, .slice none 0 0] rfl HT.out rfl HSX.out rfl (by intro u hu; simp at hu; rcases hu with rfl | rfl <;> rfl) (by unfold maxLen; omega) (by omega) (by simp; omega) ?_)
        intro v2 w2 hr2 hg2 hv2
        obtain ⟨x2, c2, hvv⟩ := own_slice hr2
        subst hvv
        have HG2 : Hid (GrownL wc w2 [.slice (some ⟨g, 0, none⟩) 0 0]) := Lib.hid ((GrownL.below HBX.out).grown_new hg2 (fun i e _ => ⟨.slice (some ⟨g, 0, none⟩) 0 0, List.mem_singleton.2 rfl, e⟩))
        have HR2 := Lib.hid hr2
        have HR12 := Lib.hid (HR1X.out.kept hg2 (by
          cases e : (Value.slice x1 (l.length - k) c1).ownBlock with
          | none => exact .inl rfl
          | some b => exact .inr (fun e2 => by have h1 := (HNB.out b e).1; have e3 : b = g := Option.some.inj e2; omega)))
        have HV2 : Hid ((Value.slice x2 (k + 1) c2).ownBlock = some g ∨ (Value.slice x2 (k + 1) c2).ownBlock = some (w1.heap.size + 1)) := Lib.hid (by
          rcases hv2 with h | h
          · exact .inl h
          · exact .inr (by rw [h] <;> simp))
        have hsz2 : B ≤ w2.heap.size := Nat.le_trans hB HG2.out.size
        clear hr2 hg2 hv2 HT HSX HR1X HBX
        go_wp2_with (at_builtin; refine wpList_append_src rfl (.tmp 39) (.tmp 40) 32 rfl B 98 i1 (.agg #[.string knotZ.1, .slice none 0 0]) 2 40 Tryz.underlying32 hi1 hz1 hy1 hq1 rfl (by decide) _ _ (k + 1) (l.length - k) _ (kcells (l.drop k) (us.drop k)) rfl HR2.out rfl (SrcAt.own HR12.out) HKL.out HONE.out (by unfold maxLen; omega) (by omega) hsz2 ?_)
        intro v3 w3 hr3 hg3 _
        have HG3 : Hid (GrownL wc w3 [.slice (some ⟨g, 0, none⟩) 0 0]) := Lib.hid (HG2.out.grown_new hg3 (fun i e hi => by
          rcases HV2.out with h | h
          · rw [h] at e; cases e; exact ⟨.slice (some ⟨g, 0, none⟩) 0 0, List.mem_singleton.2 rfl, rfl⟩
          · rw [h] at e; cases e; omega))
        have HR3 : Hid (w3.ownsRow B 98 2 v3 (l.take k ++ (p, []) :: l.drop k).length (kcells (l.take k ++ (p, []) :: l.drop k) (us.take k ++ .slice none 0 0 :: us.drop k))) := Lib.hid (by
          rw [kcells_append _ _ _ _ (show (us.take k).length = (l.take k).length by rw [List.length_take, List.length_take, HV.out.1]), kcells]
          have e : (l.take k ++ (p, []) :: l.drop k).length = k + 1 + (l.length - k) := by simp; omega
          rw [e]
          simpa using hr3)
        clear hr3 hg3 HR2 HR12 HG2
        go_wp2
        go_ret
        refine ⟨_, rfl, ?_, HG3.out.toBelow hB (fun x hx b hb => ?_)⟩
        · rw [putK_at HN.out]
          exact ⟨_, HV.out.insert (HG3.out.same rfl) HR3.out⟩
        · rw [List.mem_singleton.1 hx] at hb; cases hb; exact hgB
      · have HSD : Hid (SrcAt wc (.slice (some ⟨g, k * 2, none⟩) (l.length - k) (c - k)) (l.length - k) (kcells (l.drop k) (us.drop k))) := Lib.hid (knots_src HV.out rfl hk _)
        have hZ := World.ownsRow_lit (base := wc.heap.size) (e := 98) (size := 2) wc #[] 0 (Nat.le_refl _) (by unfold maxLen; omega) rfl
        have HZ := Lib.hid hZ
        have hA0 : Below wc.heap.size wc (wc.alloc (.cells #[] 98)) := (Below.refl _ _).alloc (Nat.le_refl _) _
        have HSD0 := Lib.hid (HSD.out.below hA0)
        have HKL : Hid ((kcells (l.drop k) (us.drop k)).length = (l.length - k) * 2) := Lib.hid (by rw [kcells_length _ _ (by simp [HV.out.1]), List.length_drop])
        have HONE : Hid (∀ u ∈ kcells (l.drop k) (us.drop k), u.oneCell' = true) := Lib.hid (kcells_one _ _ (fun u hu => by
          obtain ⟨j, hj, rfl⟩ := List.mem_iff_getElem.1 (List.mem_of_mem_drop hu)
          obtain ⟨a, c, e⟩ := own_slice (HV.out.2.2.1 j (by rw [← HV.out.1]; exact hj) hj)
          exact ⟨a, _, c, e⟩))
        clear hZ hA0 HSD
        go_wp2_with (at_builtin; refine wpList_append_src rfl (.tmp 28) (.tmp 31) 32 rfl wc.heap.size 98 i1 (.agg #[.string knotZ.1, .slice none 0 0]) 2 40 Tryz.underlying32 hi1 hz1 hy1 hq1 rfl (by decide) _ _ 0 (l.length - k) [] (kcells (l.drop k) (us.drop k)) rfl HZ.out rfl HSD0.out HKL.out HONE.out (by unfold maxLen; omega) (by omega) (by simp) ?_)
        intro v1 w1 hr1 hg1 _
        obtain ⟨x1, c1, hv1⟩ := own_slice hr1
        subst hv1
        have hB1 : Below wc.heap.size wc w1 := ((Below.refl _ _).alloc (Nat.le_refl _) _).grown hg1 (by simp) (fun j h => by cases h; exact Nat.le_refl _)
        have HR1 := Lib.hid hr1
        have HB1 := Lib.hid hB1
        have hX : Below w1.heap.size w1 (w1.alloc (.cells #[.string p, .slice none 0 0] 98)) := (Below.refl _ _).alloc (Nat.le_refl _) _
        have hT := own_take HV.out.2.1 hk
        rw [kcells_take HV.out.1 k hk] at hT
        have HT := Lib.hid (row_below (row_below hT hB1) hX)
        have HSX : Hid (SrcAt (w1.alloc (.cells #[.string p, .slice none 0 0] 98)) (.slice (some ⟨w1.heap.size, 0, none⟩) 1 1) 1 [.string p, .slice none 0 0]) := Lib.hid ⟨_, _, rfl, .inr ⟨_, rfl, fun j u hu => by
          match j, hu with
          | 0, hu => cases hu; simp [Addr.add]
          | 1, hu => cases hu; simp [Addr.add]⟩⟩
        have HR1X := Lib.hid (row_below hr1 hX)
        have hsz1 := hB1.size
        have hgw : g < wc.heap.size := (HV.out.2.1.lt g rfl).2
        have HBX := Lib.hid (hB1.trans (hX.mono hsz1))
        have HNB : Hid (∀ b, (Value.slice x1 (l.length - k) c1).ownBlock = some b → wc.heap.size ≤ b ∧ b < w1.heap.size) := Lib.hid (hr1.lt)
        clear hr1 hg1 hX hT HZ HSD0 hB1 HR1 HB1
        go_wp2_with (at_builtin; refine wpList_append_src rfl (.tmp 35) (.tmp 38) 32 rfl B 98 i1 (.agg #[.string knotZ.1, .slice none 0 0]) 2 40 Tryz.underlying32 hi1 hz1 hy1 hq1 rfl (by decide) _ _ k 1 (kcells (l.take k) (us.take k)) [.string p, .slice none 0 0] rfl HT.out rfl HSX.out rfl (by intro u hu; simp at hu; rcases hu with rfl | rfl <;> rfl) (by unfold maxLen; omega) (by omega) (by simp; omega) ?_)
        intro v2 w2 hr2 hg2 hv2
        obtain ⟨x2, c2, hvv⟩ := own_slice hr2
        subst hvv
        have HG2 : Hid (GrownL wc w2 [.slice (some ⟨g, 0, none⟩) 0 0]) := Lib.hid ((GrownL.below HBX.out).grown_new hg2 (fun i e _ => ⟨.slice (some ⟨g, 0, none⟩) 0 0, List.mem_singleton.2 rfl, e⟩))
        have HR2 := Lib.hid hr2
        have HR12 := Lib.hid (HR1X.out.kept hg2 (by
          cases e : (Value.slice x1 (l.length - k) c1).ownBlock with
          | none => exact .inl rfl
          | some b => exact .inr (fun e2 => by have h1 := (HNB.out b e).1; have e3 : b = g := Option.some.inj e2; omega)))
        have HV2 : Hid ((Value.slice x2 (k + 1) c2).ownBlock = some g ∨ (Value.slice x2 (k + 1) c2).ownBlock = some (w1.heap.size + 1)) := Lib.hid (by
          rcases hv2 with h | h
          · exact .inl h
          · exact .inr (by rw [h] <;> simp))
        have hsz2 : B ≤ w2.heap.size := Nat.le_trans hB HG2.out.size
        clear hr2 hg2 hv2 HT HSX HR1X HBX
        go_wp2_with (at_builtin; refine wpList_append_src rfl (.tmp 39) (.tmp 40) 32 rfl B 98 i1 (.agg #[.string knotZ.1, .slice none 0 0]) 2 40 Tryz.underlying32 hi1 hz1 hy1 hq1 rfl (by decide) _ _ (k + 1) (l.length - k) _ (kcells (l.drop k) (us.drop k)) rfl HR2.out rfl (SrcAt.own HR12.out) HKL.out HONE.out (by unfold maxLen; omega) (by omega) hsz2 ?_)
        intro v3 w3 hr3 hg3 _
        have HG3 : Hid (GrownL wc w3 [.slice (some ⟨g, 0, none⟩) 0 0]) := Lib.hid (HG2.out.grown_new hg3 (fun i e hi => by
          rcases HV2.out with h | h
          · rw [h] at e; cases e; exact ⟨.slice (some ⟨g, 0, none⟩) 0 0, List.mem_singleton.2 rfl, rfl⟩
          · rw [h] at e; cases e; omega))
        have HR3 : Hid (w3.ownsRow B 98 2 v3 (l.take k ++ (p, []) :: l.drop k).length (kcells (l.take k ++ (p, []) :: l.drop k) (us.take k ++ .slice none 0 0 :: us.drop k))) := Lib.hid (by
          rw [kcells_append _ _ _ _ (show (us.take k).length = (l.take k).length by rw [List.length_take, List.length_take, HV.out.1]), kcells]
          have e : (l.take k ++ (p, []) :: l.drop k).length = k + 1 + (l.length - k) := by simp; omega
          rw [e]
          simpa using hr3)
        clear hr3 hg3 HR2 HR12 HG2
        go_wp2
        go_ret
        refine ⟨_, rfl, ?_, HG3.out.toBelow hB (fun x hx b hb => ?_)⟩
        · rw [putK_at HN.out]
          exact ⟨_, HV.out.insert (HG3.out.same rfl) HR3.out⟩
        · rw [List.mem_singleton.1 hx] at hb; cases hb; exact hgB

end Go.Proofs.YtmfbffhbgelnnaaGreatDoor
