/- The walk of the reference's l3Into: a number laid into its place. -/
import Derived.Test.YtmfbffhbgelnnaaGreatDoorZB8
import Derived.Test.YtmfbffhbgelnnaaGreatDoorZB1
import Derived.Deep.DeepCutAuto
import Derived.Deep.CutBlock
set_option linter.unusedSimpArgs false
set_option linter.unusedVariables false
namespace Go.Proofs.YtmfbffhbgelnnaaGreatDoor
open Go.RowKit

set_option maxRecDepth 100000 in
set_option maxHeartbeats 3200000 in
theorem specInto_some (g c : Nat) (l : List Int) (x : Int) (w : World) (hl : l.length ≤ 4000000) (hv : IntsAt w (.slice (some ⟨g, 0, none⟩) l.length c) l) :
    Calls Tryz.prog 77 #[.slice (some ⟨g, 0, none⟩) l.length c, .int .i64 x] w fun e w' => ∃ u, e = .returned u ∧ w'.ownsRow w.heap.size 2 1 u (l.length + 1) (ints (into l x)) ∧ Below w.heap.size w w' := by
  have HV := Lib.hid hv
  obtain ⟨_, _, e0, hc1, hc2, hc3⟩ := hv
  cases e0
  have HC := Lib.hid hc3
  clear hc3
  unfold maxLen at hc2
  obtain ⟨i1, hi1, hz1, hy1, hq1⟩ := info_parts (P := Tryz.prog) (e := 2) (z := .int .i64 0) (size := 1) (bytes := 8) (by kernel_rfl)
  go_enter Tryz.func77, Tryz.ntmps77
  go_upto_block 0 with (fail)
  go_cut [5] (fun s5 wx => ∃ k : Nat, s5 = .int .i64 k ∧ k ≤ l.length ∧ Hid (intoAt l x l.length = k) ∧ wx = w)
  case first =>
    go_wp2
    go_loopw [5] (fun i wr => ∃ k : Nat, k ≤ l.length ∧ i = .int .i64 k ∧ Hid (intoAt l x l.length = intoAt l x k) ∧ wr = w) (fun i _ => (intOf i).toNat)
    case atStart => exact ⟨l.length, Nat.le_refl _, rfl, rfl, rfl⟩
    case round =>
      obtain ⟨k, hk, rfl, HK, rfl⟩ := hrel
      by_cases hpos : 0 < k
      · have hin : IntsIn wr g 0 l := by
          rcases HC.out with h | ⟨b, o, h, h2⟩
          · subst h; simp at hk; omega
          · cases h; exact h2
        have hcell := hin (k - 1) (by omega)
        rw [Nat.zero_add] at hcell
        have g1 : decide (0 < k) = true := decide_eq_true hpos
        have g2 : decide ((0 : Int) < (k : Int)) = true := decide_eq_true (by omega)
        have g3 : IntKind.i64.wrap ((k : Int) - 1) = (k : Int) - 1 := by rw [IntKind.wrap_i64]; omega
        have g4 : (0 : Int) ≤ (k : Int) - 1 := by omega
        have g4b : (1 : Int) ≤ (k : Int) := by omega
        have g5 : (k : Int) - 1 < (l.length : Int) := by omega
        have g6 : ((k : Int) - 1).toNat = k - 1 := by omega
        have hstep : intoAt l x k = if l[k - 1]'(by omega) > x then intoAt l x (k - 1) else k := by
          obtain ⟨j, rfl⟩ : ∃ j, k = j + 1 := ⟨k - 1, by omega⟩
          rw [intoAt, getD_at (by omega)]; rfl
        obtain ⟨y, hy⟩ : ∃ y, l[k - 1]'(by omega) = y := ⟨_, rfl⟩
        rw [hy] at hcell hstep
        clear hin hy
        by_cases hgt : x < y
        · have g7 : decide (x < y) = true := decide_eq_true hgt
          have HN : Hid (intoAt l x l.length = intoAt l x (k - 1)) := Lib.hid (by rw [HK.out, hstep, if_pos hgt])
          clear hstep hgt HK
          go_wp2
          go_roundw
          case rel => exact ⟨k - 1, by omega, by go_num, HN, by trivial⟩
          case measure => simp [intOf]; omega
        · have g7 : decide (x < y) = false := decide_eq_false hgt
          have HN : Hid (intoAt l x l.length = k) := Lib.hid (by rw [HK.out, hstep, if_neg hgt])
          clear hstep hgt HK
          go_wp2
          go_meet
          exact ⟨k, rfl, hk, HN, rfl⟩
      · obtain rfl : k = 0 := by omega
        have HN : Hid (intoAt l x l.length = 0) := Lib.hid (by rw [HK.out]; rfl)
        clear HK
        go_wp2
        go_meet
        exact ⟨0, rfl, hk, HN, rfl⟩
  case rest =>
    obtain ⟨k, rfl, hk, HN, rfl⟩ := hcut
    have HSF := Lib.hid (HV.out.front hk c)
    have HSD0 : Hid (∀ b o c', (some ⟨g, 0, none⟩ : Option Addr) = some ⟨b, o, none⟩ → SrcAt wc (.slice (some ⟨b, o + k, none⟩) (l.length - k) c') (l.length - k) (ints (l.drop k))) := Lib.hid (HV.out.drop hk)
    by_cases hkc : k = c
    · subst hkc
      have HSD : Hid (SrcAt wc (.slice (some ⟨g, 0, none⟩) (l.length - k) 0) (l.length - k) (ints (l.drop k))) := Lib.hid (SrcAt.none (by omega) (by rw [List.drop_of_length_le (by omega)]; rfl))
      clear hc1 HSD0
      have hkl2 : (l.drop k).length = l.length - k := by rw [List.length_drop]
      have hkt2 : (l.take k).length = k := by rw [List.length_take]; omega
      have HKD := Lib.hid hkl2
      have HKT := Lib.hid hkt2
      clear hkl2 hkt2
      go_wp2_with (at_builtin; refine wpList_append_src rfl (.tmp 22) (.tmp 25) 45 rfl wc.heap.size 2 i1 (.int .i64 0) 1 8 Tryz.underlying45 hi1 hz1 hy1 hq1 rfl (by decide) _ _ 0 (l.length - k) [] (ints (l.drop k)) rfl (own_lit_empty wc) rfl (HSD.out.below ((Below.refl _ _).alloc (Nat.le_refl _) _)) (by rw [ints_length, HKD.out]; omega) (ints_oneCell' _) (by unfold maxLen; omega) (by omega) (by simp) ?_)
      intro v1 w1 hr1 hg1 _
      have hB1 : Below wc.heap.size wc w1 := ((Below.refl _ _).alloc (Nat.le_refl _) _).grown hg1 (by simp) (fun j h => by cases h; exact Nat.le_refl _)
      obtain ⟨x1, c1, hv1⟩ := own_slice hr1
      subst hv1
      have HR1 := Lib.hid hr1
      have HB1 := Lib.hid hB1
      have HSF1 := Lib.hid ((HSF.out.below hB1).below ((Below.refl w1.heap.size w1).alloc (Nat.le_refl _) (.cells #[] 2)))
      clear hr1 hB1 hg1 HSD HSF
      go_wp2_with (at_builtin; refine wpList_append_src rfl (.tmp 27) (.tmp 30) 45 rfl w1.heap.size 2 i1 (.int .i64 0) 1 8 Tryz.underlying45 hi1 hz1 hy1 hq1 rfl (by decide) _ _ 0 k [] (ints (l.take k)) rfl (own_lit_empty w1) rfl HSF1.out (by rw [ints_length, HKT.out]; omega) (ints_oneCell' _) (by unfold maxLen; omega) (by omega) (by simp) ?_)
      intro v2 w2 hr2 hg2 _
      have hB2 : Below w1.heap.size w1 w2 := ((Below.refl _ _).alloc (Nat.le_refl _) _).grown hg2 (by simp) (fun j h => by cases h; exact Nat.le_refl _)
      obtain ⟨x2, c2, hv2⟩ := own_slice hr2
      subst hv2
      have HR2 := Lib.hid hr2
      have HR12 := Lib.hid (row_below HR1.out hB2)
      have HB2 := Lib.hid hB2
      have HN1 : Hid (∀ b, (Value.slice x1 (l.length - k) c1).ownBlock = some b → b < w1.heap.size) := Lib.hid (fun b e => (HR1.out.lt b e).2)
      have HN2 : Hid (∀ b, (Value.slice x2 k c2).ownBlock = some b → w1.heap.size ≤ b) := Lib.hid (fun b e => (HR2.out.lt b e).1)
      clear hr2 hB2 hg2 HSF1 HR1
      have hX : Below w2.heap.size w2 (w2.alloc (.cells #[.int .i64 x] 2)) := (Below.refl _ _).alloc (Nat.le_refl _) _
      have HR3 := Lib.hid (row_below HR2.out hX)
      have HR13 := Lib.hid (row_below HR12.out hX)
      have HSX : Hid (SrcAt (w2.alloc (.cells #[.int .i64 x] 2)) (.slice (some ⟨w2.heap.size, 0, none⟩) 1 1) 1 [.int .i64 x]) := Lib.hid ⟨_, _, rfl, .inr ⟨_, rfl, cell_one_new _ _ _⟩⟩
      have HBX := Lib.hid hX
      have hs1 : w1.heap.size ≤ w2.heap.size := HB2.out.size
      clear hX HR2 HR12
      go_wp2_with (at_builtin; refine wpList_append_src rfl (.tmp 31) (.tmp 33) 45 rfl w1.heap.size 2 i1 (.int .i64 0) 1 8 Tryz.underlying45 hi1 hz1 hy1 hq1 rfl (by decide) _ _ k 1 (ints (l.take k)) [.int .i64 x] rfl HR3.out rfl HSX.out rfl (by intro u hu; rw [List.mem_singleton.1 hu]; rfl) (by unfold maxLen; omega) (by omega) (by simp; omega) ?_)
      intro v3 w3 hr3 hg3 _
      obtain ⟨x3, c3, hv3⟩ := own_slice hr3
      subst hv3
      have HR4 := Lib.hid hr3
      have HAP : Hid (∀ b, (Value.slice x1 (l.length - k) c1).ownBlock = some b → (Value.slice x2 k c2).ownBlock ≠ some b) := Lib.hid (fun b e e2 => by have h1 := HN1.out b e; have h2 := HN2.out b e2; omega)
      have HR14 := Lib.hid (HR13.out.kept hg3 (by
        cases e : (Value.slice x1 (l.length - k) c1).ownBlock with
        | none => exact .inl rfl
        | some b => exact .inr (fun e2 => HAP.out b e e2.symm)))
      have HB3 : Hid (Below w1.heap.size w1 w3) := Lib.hid ((HB2.out.trans (HBX.out.mono hs1)).grown hg3 (by simp; omega) (fun j e => HN2.out j e))
      clear hr3 hg3 HR3 HR13 HSX HBX HB2
      go_wp2_with (at_builtin; refine wpList_append_src rfl (.tmp 34) (.tmp 35) 45 rfl w1.heap.size 2 i1 (.int .i64 0) 1 8 Tryz.underlying45 hi1 hz1 hy1 hq1 rfl (by decide) _ _ (k + 1) (l.length - k) _ _ rfl HR4.out rfl (SrcAt.own HR14.out) (by rw [ints_length, HKD.out]; omega) (ints_oneCell' _) (by unfold maxLen; omega) (by omega) HB3.out.size ?_)
      intro v4 w4 hr4 hg4 _
      have HR5 := Lib.hid hr4
      have HB4 : Hid (Below w1.heap.size w1 w4) := Lib.hid (HB3.out.grown hg4 HB3.out.size (fun j e => (HR4.out.lt j e).1))
      clear hr4 hg4 HR4 HR14 HB3
      go_wp2
      go_ret
      refine ⟨_, rfl, ?_, HB1.out.trans (HB4.out.mono HB1.out.size)⟩
      have := own_mono HR5.out HB1.out.size
      rw [show k + 1 + (l.length - k) = l.length + 1 by omega, into_end l x k HN.out] at this
      exact this
    · have HSD : Hid (SrcAt wc (.slice (some ⟨g, k, none⟩) (l.length - k) (c - k)) (l.length - k) (ints (l.drop k))) := Lib.hid (by have := HSD0.out g 0 (c - k) rfl; rw [Nat.zero_add] at this; exact this)
      clear HSD0
      have hkl2 : (l.drop k).length = l.length - k := by rw [List.length_drop]
      have hkt2 : (l.take k).length = k := by rw [List.length_take]; omega
      have HKD := Lib.hid hkl2
      have HKT := Lib.hid hkt2
      clear hkl2 hkt2
      go_wp2_with (at_builtin; refine wpList_append_src rfl (.tmp 22) (.tmp 25) 45 rfl wc.heap.size 2 i1 (.int .i64 0) 1 8 Tryz.underlying45 hi1 hz1 hy1 hq1 rfl (by decide) _ _ 0 (l.length - k) [] (ints (l.drop k)) rfl (own_lit_empty wc) rfl (HSD.out.below ((Below.refl _ _).alloc (Nat.le_refl _) _)) (by rw [ints_length, HKD.out]; omega) (ints_oneCell' _) (by unfold maxLen; omega) (by omega) (by simp) ?_)
      intro v1 w1 hr1 hg1 _
      have hB1 : Below wc.heap.size wc w1 := ((Below.refl _ _).alloc (Nat.le_refl _) _).grown hg1 (by simp) (fun j h => by cases h; exact Nat.le_refl _)
      obtain ⟨x1, c1, hv1⟩ := own_slice hr1
      subst hv1
      have HR1 := Lib.hid hr1
      have HB1 := Lib.hid hB1
      have HSF1 := Lib.hid ((HSF.out.below hB1).below ((Below.refl w1.heap.size w1).alloc (Nat.le_refl _) (.cells #[] 2)))
      clear hr1 hB1 hg1 HSD HSF
      go_wp2_with (at_builtin; refine wpList_append_src rfl (.tmp 27) (.tmp 30) 45 rfl w1.heap.size 2 i1 (.int .i64 0) 1 8 Tryz.underlying45 hi1 hz1 hy1 hq1 rfl (by decide) _ _ 0 k [] (ints (l.take k)) rfl (own_lit_empty w1) rfl HSF1.out (by rw [ints_length, HKT.out]; omega) (ints_oneCell' _) (by unfold maxLen; omega) (by omega) (by simp) ?_)
      intro v2 w2 hr2 hg2 _
      have hB2 : Below w1.heap.size w1 w2 := ((Below.refl _ _).alloc (Nat.le_refl _) _).grown hg2 (by simp) (fun j h => by cases h; exact Nat.le_refl _)
      obtain ⟨x2, c2, hv2⟩ := own_slice hr2
      subst hv2
      have HR2 := Lib.hid hr2
      have HR12 := Lib.hid (row_below HR1.out hB2)
      have HB2 := Lib.hid hB2
      have HN1 : Hid (∀ b, (Value.slice x1 (l.length - k) c1).ownBlock = some b → b < w1.heap.size) := Lib.hid (fun b e => (HR1.out.lt b e).2)
      have HN2 : Hid (∀ b, (Value.slice x2 k c2).ownBlock = some b → w1.heap.size ≤ b) := Lib.hid (fun b e => (HR2.out.lt b e).1)
      clear hr2 hB2 hg2 HSF1 HR1
      have hX : Below w2.heap.size w2 (w2.alloc (.cells #[.int .i64 x] 2)) := (Below.refl _ _).alloc (Nat.le_refl _) _
      have HR3 := Lib.hid (row_below HR2.out hX)
      have HR13 := Lib.hid (row_below HR12.out hX)
      have HSX : Hid (SrcAt (w2.alloc (.cells #[.int .i64 x] 2)) (.slice (some ⟨w2.heap.size, 0, none⟩) 1 1) 1 [.int .i64 x]) := Lib.hid ⟨_, _, rfl, .inr ⟨_, rfl, cell_one_new _ _ _⟩⟩
      have HBX := Lib.hid hX
      have hs1 : w1.heap.size ≤ w2.heap.size := HB2.out.size
      clear hX HR2 HR12
      go_wp2_with (at_builtin; refine wpList_append_src rfl (.tmp 31) (.tmp 33) 45 rfl w1.heap.size 2 i1 (.int .i64 0) 1 8 Tryz.underlying45 hi1 hz1 hy1 hq1 rfl (by decide) _ _ k 1 (ints (l.take k)) [.int .i64 x] rfl HR3.out rfl HSX.out rfl (by intro u hu; rw [List.mem_singleton.1 hu]; rfl) (by unfold maxLen; omega) (by omega) (by simp; omega) ?_)
      intro v3 w3 hr3 hg3 _
      obtain ⟨x3, c3, hv3⟩ := own_slice hr3
      subst hv3
      have HR4 := Lib.hid hr3
      have HAP : Hid (∀ b, (Value.slice x1 (l.length - k) c1).ownBlock = some b → (Value.slice x2 k c2).ownBlock ≠ some b) := Lib.hid (fun b e e2 => by have h1 := HN1.out b e; have h2 := HN2.out b e2; omega)
      have HR14 := Lib.hid (HR13.out.kept hg3 (by
        cases e : (Value.slice x1 (l.length - k) c1).ownBlock with
        | none => exact .inl rfl
        | some b => exact .inr (fun e2 => HAP.out b e e2.symm)))
      have HB3 : Hid (Below w1.heap.size w1 w3) := Lib.hid ((HB2.out.trans (HBX.out.mono hs1)).grown hg3 (by simp; omega) (fun j e => HN2.out j e))
      clear hr3 hg3 HR3 HR13 HSX HBX HB2
      go_wp2_with (at_builtin; refine wpList_append_src rfl (.tmp 34) (.tmp 35) 45 rfl w1.heap.size 2 i1 (.int .i64 0) 1 8 Tryz.underlying45 hi1 hz1 hy1 hq1 rfl (by decide) _ _ (k + 1) (l.length - k) _ _ rfl HR4.out rfl (SrcAt.own HR14.out) (by rw [ints_length, HKD.out]; omega) (ints_oneCell' _) (by unfold maxLen; omega) (by omega) HB3.out.size ?_)
      intro v4 w4 hr4 hg4 _
      have HR5 := Lib.hid hr4
      have HB4 : Hid (Below w1.heap.size w1 w4) := Lib.hid (HB3.out.grown hg4 HB3.out.size (fun j e => (HR4.out.lt j e).1))
      clear hr4 hg4 HR4 HR14 HB3
      go_wp2
      go_ret
      refine ⟨_, rfl, ?_, HB1.out.trans (HB4.out.mono HB1.out.size)⟩
      have := own_mono HR5.out HB1.out.size
      rw [show k + 1 + (l.length - k) = l.length + 1 by omega, into_end l x k HN.out] at this
      exact this

set_option maxRecDepth 100000 in
set_option maxHeartbeats 1600000 in
theorem specInto_nil (x : Int) (w : World) :
    Calls Tryz.prog 77 #[.slice none 0 0, .int .i64 x] w fun e w' => ∃ u, e = .returned u ∧ w'.ownsRow w.heap.size 2 1 u 1 (ints [x]) ∧ Below w.heap.size w w' := by
  obtain ⟨i1, hi1, hz1, hy1, hq1⟩ := info_parts (P := Tryz.prog) (e := 2) (z := .int .i64 0) (size := 1) (bytes := 8) (by kernel_rfl)
  go_enter Tryz.func77, Tryz.ntmps77
  go_wp2
  go_loopw [5] (fun i wr => i = .int .i64 0 ∧ wr = w) (fun i _ => (intOf i).toNat)
  case atStart => exact ⟨rfl, rfl⟩
  case round =>
    obtain ⟨rfl, rfl⟩ := hrel
    have HR3 : Hid (((((wr.alloc (.cells #[] 2)).alloc (.cells #[] 2)).alloc (.cells #[.int .i64 x] 2))).ownsRow wr.heap.size 2 1 (.slice (some ⟨wr.heap.size + 1, 0, none⟩) 0 0) 0 []) := Lib.hid (by
      have := own_lit_empty (wr.alloc (.cells #[] 2))
      have := row_below this ((Below.refl _ _).alloc (Nat.le_refl _) (.cells #[.int .i64 x] 2))
      have := own_mono (A := wr.heap.size) this (by simp)
      simpa using this)
    have HR0 : Hid (((((wr.alloc (.cells #[] 2)).alloc (.cells #[] 2)).alloc (.cells #[.int .i64 x] 2))).ownsRow wr.heap.size 2 1 (.slice (some ⟨wr.heap.size, 0, none⟩) 0 0) 0 []) := Lib.hid
      (row_below (row_below (own_lit_empty wr) ((Below.refl _ _).alloc (Nat.le_refl _) _)) ((Below.refl _ _).alloc (Nat.le_refl _) _))
    have HSX : Hid (SrcAt ((((wr.alloc (.cells #[] 2)).alloc (.cells #[] 2)).alloc (.cells #[.int .i64 x] 2))) (.slice (some ⟨wr.heap.size + 1 + 1, 0, none⟩) 1 1) 1 [.int .i64 x]) := Lib.hid ⟨_, _, rfl, .inr ⟨_, rfl, by
      have := cell_one_new ((wr.alloc (.cells #[] 2)).alloc (.cells #[] 2)) (.int .i64 x) 2
      simpa using this⟩⟩
    have HB0 : Hid (Below wr.heap.size wr ((((wr.alloc (.cells #[] 2)).alloc (.cells #[] 2)).alloc (.cells #[.int .i64 x] 2)))) := Lib.hid ((((Below.refl _ _).alloc (Nat.le_refl _) _).alloc (by simp) _).alloc (by simp; omega) _)
    go_wp2_with (at_builtin; refine wpList_append_src rfl (.tmp 31) (.tmp 33) 45 rfl wr.heap.size 2 i1 (.int .i64 0) 1 8 Tryz.underlying45 hi1 hz1 hy1 hq1 rfl (by decide) _ _ 0 1 [] [.int .i64 x] rfl HR3.out rfl HSX.out rfl (by intro u hu; rw [List.mem_singleton.1 hu]; rfl) (by unfold maxLen; omega) (by omega) HB0.out.size ?_)
    intro v3 w3 hr3 hg3 _
    have HR4 := Lib.hid hr3
    have HR14 := Lib.hid (HR0.out.kept hg3 (.inr (by intro e; have e2 : wr.heap.size = wr.heap.size + 1 := Option.some.inj e; omega)))
    have HB3 : Hid (Below wr.heap.size wr w3) := Lib.hid (HB0.out.grown hg3 HB0.out.size (fun j e => (HR3.out.lt j e).1))
    clear hr3 hg3 HR3 HR0 HSX HB0
    obtain ⟨x3, c3, hv3⟩ := own_slice HR4.out
    subst hv3
    go_wp2_with (at_builtin; refine wpList_append_src rfl (.tmp 34) (.tmp 35) 45 rfl wr.heap.size 2 i1 (.int .i64 0) 1 8 Tryz.underlying45 hi1 hz1 hy1 hq1 rfl (by decide) _ _ 1 0 _ [] rfl HR4.out rfl (SrcAt.own HR14.out) rfl (by intro u hu; cases hu) (by unfold maxLen; omega) (by omega) HB3.out.size ?_)
    intro v4 w4 hr4 hg4 _
    have HR5 := Lib.hid hr4
    have HB4 : Hid (Below wr.heap.size wr w4) := Lib.hid (HB3.out.grown hg4 HB3.out.size (fun j e => (HR4.out.lt j e).1))
    clear hr4 hg4 HR4 HR14 HB3
    go_wp2
    go_ret
    exact ⟨_, rfl, by have := HR5.out; simpa [ints] using this, HB4.out⟩


/-- Of an own row. -/
theorem specInto_any (v : Value) (l : List Int) (x : Int) (B : Nat) (w : World) (hl : l.length ≤ 4000000) (hv : w.ownsRow B 2 1 v l.length (ints l)) :
    Calls Tryz.prog 77 #[v, .int .i64 x] w fun e w' => ∃ u, e = .returned u ∧ w'.ownsRow w.heap.size 2 1 u (l.length + 1) (ints (into l x)) ∧ Below w.heap.size w w' := by
  have ha := own_ints_at hv
  rcases hv.2 with ⟨rfl, h0⟩ | ⟨g, cap, cur, rfl, _⟩
  · have : l = [] := List.length_eq_zero_iff.1 h0
    subst this
    exact specInto_nil x w
  · exact specInto_some g cap l x w hl ha

end Go.Proofs.YtmfbffhbgelnnaaGreatDoor
