/- The walk of (*node).appendMatching: the numbers of all nodes whose paths match. -/
import Derived.Test.YtmfbffhbgelnnaaGreatDoorZB8
import Derived.Test.YtmfbffhbgelnnaaGreatDoorZNode2
import Derived.Test.YtmfbffhbgelnnaaGreatDoorZNodeP
import Derived.Test.YtmfbffhbgelnnaaGreatDoorZB1
import Derived.Test.YtmfbffhbgelnnaaGreatDoorZB3
import Derived.Deep.RegionHeld
set_option linter.unusedSimpArgs false
set_option linter.unusedVariables false
namespace Go.Proofs.YtmfbffhbgelnnaaGreatDoor
open Go.RowKit

/-- What a child gives. -/
def kidM (f : NodeM → List ByteArray → List Int) (r : List ByteArray) (c : NodeM) : List Int :=
  if isHash (bts c.last) then f c [] else match r with
    | [] => []
    | q :: r => if partC (bts c.last) q then f c r else []
def baseM (x : NodeM) (r : List ByteArray) : List Int := if r.isEmpty then x.ids else []
/-- 'appendMatching' (n: how deep it goes). -/
def matN (T : List NodeM) : Nat → NodeM → List ByteArray → List Int
  | 0, x, r => baseM x r
  | n + 1, x, r => baseM x r ++ (kids T x.path).flatMap (kidM (matN T n) r)

/-- A value that reads as parts, in memory that was there in w0. -/
def PartsAt (w0 : World) (v : Value) (r : List ByteArray) : Prop :=
  ∃ a c, v = .slice a r.length c ∧ r.length ≤ c ∧ (r = [] ∨ ∃ g o, a = some ⟨g, o, none⟩ ∧ ∀ j (h : j < r.length), w0.cell? ⟨g, o + j, none⟩ = some (.string r[j]))

theorem own_ints_eq {w : World} {B : Nat} {v : Value} {l m : List Int} (h : w.ownsRow B 2 1 v l.length (ints l)) (e : l = m) : w.ownsRow B 2 1 v m.length (ints m) := by rw [← e]; exact h

theorem ints_append (a b : List Int) : ints a ++ ints b = ints (a ++ b) := by simp [ints]

/-- The nodes are below w0's end: what is made later leaves them. -/
theorem Nodes.later {w0 w : World} {B : Nat} {T : List NodeM} (h : Nodes w0 B T) (hb : Below w0.heap.size w0 w) : Nodes w B T := h.below hb

set_option maxRecDepth 100000 in
set_option maxHeartbeats 3200000 in
theorem matching_any (T : List NodeM) (w0 : World) (B : Nat) (HN0 : Hid (Nodes w0 B T)) (hT4 : T.length ≤ 4000000) : ∀ (n : Nat) (x : NodeM), x ∈ T → (∀ y ∈ T, x.path <+: y.path → y.path.length ≤ x.path.length + n) →
    ∀ (w : World) (v pv : Value) (L : List Int) (r : List ByteArray), Below w0.heap.size w0 w → w.ownsRow w0.heap.size 2 1 v L.length (ints L) → PartsAt w0 pv r → L.length + (matN T n x r).length ≤ 1000000000 →
    Calls Tryz.prog 99 #[.pointer (some ⟨x.ptr, 0, none⟩), v, pv] w fun e w' => ∃ u, e = .returned u ∧ w'.ownsRow w0.heap.size 2 1 u (L ++ matN T n x r).length (ints (L ++ matN T n x r)) ∧ Below w0.heap.size w0 w'
  | 0, x, hx, hd, w, v, pv, L, r, hb, ho, hp, hlen => by
    have e0 : (kids T x.path).length = 0 := by
      rw [List.length_eq_zero_iff, List.eq_nil_iff_forall_not_mem]
      intro y hy
      have := hd y (kids_mem.1 hy).1 (by rw [(kids_mem.1 hy).2]; exact List.prefix_append _ _)
      rw [(kids_mem.1 hy).2] at this
      simp at this
      omega
    have HB := Lib.hid hb
    have HO := Lib.hid ho
    obtain ⟨va, vc, rfl⟩ := own_slice ho
    have hN := HN0.out.later hb
    have hks := (hN.box x hx).2.kids
    have his := (hN.box x hx).2.ids
    obtain ⟨ka, kc, hkv⟩ := own_slice (hN.kid x hx)
    obtain ⟨ia, ic, hiv⟩ := own_slice (hN.ids x hx)
    have HSI := Lib.hid (SrcAt.own (hN.ids x hx))
    have HKV := Lib.hid hkv
    rw [hkv, e0] at hks
    rw [hiv] at his HSI
    have HKE := Lib.hid e0
    obtain ⟨i1, hi1, hz1, hy1, hq1⟩ := info_parts (P := Tryz.prog) (e := 2) (z := .int .i64 0) (size := 1) (bytes := 8) (by kernel_rfl)
    have hcw := hb.size
    have HXB := Lib.hid (World.block_lt_of_cell? _ _ (HN0.out.box x hx).2.kids)
    have HKS0 := Lib.hid (HN0.out.box x hx).2.kids
    obtain ⟨pa, pc, rfl, hpc, _⟩ := hp
    have HPC := Lib.hid hpc
    clear hN hkv hiv hb ho hd e0 hpc
    by_cases hr : r = []
    · subst hr
      have hlen2 : L.length + x.ids.length ≤ 1000000000 := hlen
      clear hlen
      go_enter Tryz.func99, Tryz.ntmps99
      go_wp2_with (at_builtin; refine wpList_append_src rfl (.tmp 12) (.tmp 16) 45 rfl w0.heap.size 2 i1 (.int .i64 0) 1 8 Tryz.underlying45 hi1 hz1 hy1 hq1 rfl (by decide) _ _ L.length x.ids.length (ints L) (ints x.ids) rfl HO.out rfl HSI.out (by rw [ints_length]; omega) (ints_oneCell' _) (by unfold maxLen; omega) (by omega) hcw ?_)
      intro v' w' hr1 hg1 _
      have HB' := Lib.hid (HB.out.grown hg1 hcw (fun j h => (HO.out.lt j h).1))
      have HR1 : Hid (w'.ownsRow w0.heap.size 2 1 v' (L ++ x.ids).length (ints (L ++ x.ids))) := Lib.hid (by rw [← ints_append, List.length_append]; exact hr1)
      have hks2 : w'.cell? ⟨x.ptr, 2, none⟩ = some (.slice ka 0 kc) := by
        have := (HB'.out.cell HXB.out).trans HKS0.out
        rw [HKV.out, HKE.out] at this; exact this
      clear hr1 hg1 hks his HSI HO
      go_wp2
      go_loopw [1, 23] (fun s1 s23 wr => s1 = v' ∧ s23 = .int .i64 0 ∧ wr = w') (fun _ _ _ => 0)
      case atStart => exact ⟨rfl, rfl, rfl⟩
      case round =>
        obtain ⟨rfl, rfl, rfl⟩ := hrel
        go_wp2
        go_ret
        exact ⟨_, rfl, HR1.out, HB'.out⟩
    · have hz : ((r.length : Int) == 0) = false := by rw [beq_eq_false_iff_ne]; cases r with | nil => exact absurd rfl hr | cons => simp; omega
      have HM : Hid (L ++ matN T 0 x r = L) := Lib.hid (by cases r with | nil => exact absurd rfl hr | cons => simp [matN, baseM])
      clear hr hlen
      go_enter Tryz.func99, Tryz.ntmps99
      go_wp2
      go_loopw [1, 23] (fun s1 s23 wr => s1 = .slice va L.length vc ∧ s23 = .int .i64 0 ∧ wr = w) (fun _ _ _ => 0)
      case atStart => exact ⟨rfl, rfl, rfl⟩
      case round =>
        obtain ⟨rfl, rfl, rfl⟩ := hrel
        go_wp2
        go_ret
        exact ⟨_, rfl, by rw [HM.out]; exact HO.out, HB.out⟩
  | n + 1, x, hx, hd, w, v, pv, L, r, hb, ho, hp, hlen => by
    have HB := Lib.hid hb
    have HO := Lib.hid ho
    obtain ⟨va, vc, rfl⟩ := own_slice ho
    have hN := HN0.out.later hb
    have hks := (hN.box x hx).2.kids
    have his := (hN.box x hx).2.ids
    obtain ⟨ka, kc, hkv⟩ := own_slice (hN.kid x hx)
    obtain ⟨ia, ic, hiv⟩ := own_slice (hN.ids x hx)
    have HKV := Lib.hid hkv
    have HSI := Lib.hid (SrcAt.own (hN.ids x hx))
    rw [hkv] at hks
    rw [hiv] at his HSI
    have IH := Lib.hid (fun c (hc : c ∈ kids T x.path) => matching_any T w0 B HN0 hT4 n c (kids_mem.1 hc).1 (fun z hz hpz => by
      have h1 := hd z hz (List.IsPrefix.trans (by rw [(kids_mem.1 hc).2]; exact List.prefix_append _ _) hpz)
      rw [(kids_mem.1 hc).2]; simp; omega))
    have HKC := Lib.hid (fun k (hk : k < (kids T x.path).length) => kid_cell HN0.out hx hk)
    have HPT := Lib.hid (fun k (hk : k < (kids T x.path).length) => (HN0.out.box _ (kids_mem.1 (List.getElem_mem hk)).1).2.part)
    have hkn : (kids T x.path).length ≤ 4000000 := Nat.le_trans (kids_le _ _) hT4
    have HM : Hid (matN T (n + 1) x r = baseM x r ++ (kids T x.path).flatMap (kidM (matN T n) r)) := Lib.hid rfl
    obtain ⟨M, hM⟩ : ∃ M, matN T (n + 1) x r = M := ⟨_, rfl⟩
    rw [hM] at HM hlen ⊢
    have HLT := Lib.hid (fun (g : Nat) (u : Value) (o : Nat) (h : w0.cell? ⟨g, o, none⟩ = some u) => (World.block_lt_of_cell? _ _ h))
    obtain ⟨i1, hi1, hz1, hy1, hq1⟩ := info_parts (P := Tryz.prog) (e := 2) (z := .int .i64 0) (size := 1) (bytes := 8) (by kernel_rfl)
    clear hN hkv hiv hM hb ho hd
    generalize kids T x.path = K at *
    by_cases hr : r = []
    · subst hr
      obtain ⟨pa, pc, rfl, _, _⟩ := hp
      obtain ⟨F, hF⟩ : ∃ F, kidM (matN T n) [] = F := ⟨_, rfl⟩
      have HFD := Lib.hid hF.symm
      have HFM0 : Hid (L ++ x.ids ++ K.flatMap F = L ++ M) := Lib.hid (by rw [HM.out, hF, List.append_assoc]; rfl)
      have hlen2 : L.length + x.ids.length + (K.flatMap F).length ≤ 1000000000 := by
        have := congrArg List.length HFM0.out
        rw [List.length_append, List.length_append, List.length_append] at this
        omega
      have hcw := HB.out.size
      have HXB := Lib.hid (World.block_lt_of_cell? _ _ (HN0.out.box x hx).2.kids)
      have HKS0 := Lib.hid (HN0.out.box x hx).2.kids
      have HE0 : Hid (PartsAt w0 (.slice none 0 0) []) := Lib.hid ⟨none, 0, rfl, Nat.le_refl _, .inl rfl⟩
      clear hF
      go_enter Tryz.func99, Tryz.ntmps99
      go_wp2_with (at_builtin; refine wpList_append_src rfl (.tmp 12) (.tmp 16) 45 rfl w0.heap.size 2 i1 (.int .i64 0) 1 8 Tryz.underlying45 hi1 hz1 hy1 hq1 rfl (by decide) _ _ L.length x.ids.length (ints L) (ints x.ids) rfl HO.out rfl HSI.out (by rw [ints_length]; omega) (ints_oneCell' _) (by unfold maxLen; omega) (by omega) hcw ?_)
      intro v' w' hr1 hg1 _
      have HB' := Lib.hid (HB.out.grown hg1 hcw (fun j h => (HO.out.lt j h).1))
      obtain ⟨X, hX⟩ : ∃ X, L ++ x.ids = X := ⟨_, rfl⟩
      have hXl : L.length + x.ids.length = X.length := by rw [← hX, List.length_append]
      rw [ints_append, hX, hXl] at hr1
      rw [hX] at HFM0
      have HFM := HFM0
      have hlen3 : X.length + (K.flatMap F).length ≤ 1000000000 := by omega
      have HX0 : Hid (w'.ownsRow w0.heap.size 2 1 v' (X ++ (K.take 0).flatMap F).length (ints (X ++ (K.take 0).flatMap F))) := Lib.hid (by simpa using hr1)
      have hks2 : w'.cell? ⟨x.ptr, 2, none⟩ = some (.slice ka K.length kc) := by rw [← HKV.out]; exact (HB'.out.cell HXB.out).trans HKS0.out
      clear hr1 hg1 hX hXl hlen2 HO hks his HSI hcw
      go_wp2
      go_loopw [1, 23] (fun s1 s23 wr => ∃ k : Nat, k ≤ K.length ∧ s23 = .int .i64 k ∧ Hid (wr.ownsRow w0.heap.size 2 1 s1 (X ++ (K.take k).flatMap F).length (ints (X ++ (K.take k).flatMap F))) ∧ Hid (Below w0.heap.size w0 wr)) (fun _ s23 _ => K.length - (intOf s23).toNat)
      case atStart => exact ⟨0, Nat.zero_le _, rfl, HX0, HB'⟩
      case round =>
        obtain ⟨k, hk, rfl, HOR, HBR⟩ := hrel
        by_cases hlt : k < K.length
        · skip
          obtain ⟨kg, kcap, hkv, hkc⟩ := HKC.out k hlt
          have he := HKV.out.symm.trans hkv
          obtain rfl : ka = some ⟨kg, 0, none⟩ := by cases he; rfl
          have hcell0 := hkc k hlt
          have hpart0 := HPT.out k hlt
          have hkgw := World.block_lt_of_cell? _ _ hcell0
          have hcell := (HBR.out.cell hkgw).trans hcell0
          have hpart := (HBR.out.cell (World.block_lt_of_cell? _ _ hpart0)).trans hpart0
          have HPW := Lib.hid (World.block_lt_of_cell? _ _ hpart0)
          have HFK := Lib.hid (show X ++ (K.take (k + 1)).flatMap F = X ++ (K.take k).flatMap F ++ F K[k] by rw [flat_take K F k hlt, List.append_assoc])
          have hle := flat_le K F k hlt
          have IHC := Lib.hid (IH.out K[k] (List.getElem_mem hlt))
          have HFV := Lib.hid (congrFun HFD.out K[k])
          obtain ⟨y, hy⟩ : ∃ y, K[k] = y := ⟨_, rfl⟩
          rw [hy] at hcell hpart HPW HFK hle IHC HFV
          obtain ⟨vb, vcc, hu1⟩ := own_slice HOR.out
          obtain ⟨N, hNl⟩ : ∃ N, (X ++ (K.take k).flatMap F).length = N := ⟨_, rfl⟩
          have HNL := Lib.hid hNl
          rw [hNl] at hu1
          subst hu1
          clear hNl
          clear hkv hkc he hcell0 hpart0 hy
          cases hh : isHash (bts y.last)
          · have hhs : ((bts y.last).toList == [35]) = false := hh
            have HFE : Hid (F y = []) := Lib.hid (by rw [HFV.out, kidM, hh]; rfl)
            have HF : Hid (X ++ (K.take (k + 1)).flatMap F = X ++ (K.take k).flatMap F ++ []) := Lib.hid (by rw [HFK.out, HFE.out])
            obtain ⟨pt, hpt⟩ : ∃ pt, bts y.last = pt := ⟨_, rfl⟩
            rw [hpt] at hpart hhs
            clear hh hle HFV HFK IHC hpt
            go_wp2_with fail
            refine wp_region_held_drew (S := fun wx => Hid (wx.ownsRow w0.heap.size 2 1 (.slice vb N vcc) (X ++ (K.take k).flatMap F).length (ints (X ++ (K.take k).flatMap F)) ∧ Below w0.heap.size w0 wx)) (by kernel_rfl) ?_ (fun hHeld => ?_)
            · exact Lib.hid ⟨row_below HOR.out (Below.refl _ _).drew, HBR.out.drew⟩
            change wpAnyH _ _ _ _ _ 13 #[false, false, false, false, false, false, false, false, false, false, false, false, false] _ _
            refine wpAnyH_take (i := 0) (v := ?_) rfl (by kernel_rfl) (by kernel_rfl) (by kernel_rfl) (fun _ _ _ h => h) (Or.inl ⟨by rfl, ?_⟩) (by assumption) ?_
            rotate_left
            · intro w hSw; (try dsimp only at hSw); go_simp; try with_reducible rfl
            try simp only [Act.put, List.getElem_toArray, List.getElem_cons_succ, List.getElem_cons_zero, List.setIfInBounds_toArray, List.set_cons_zero, List.set_cons_succ]
            refine wpAnyH_take (i := 1) (v := ?_) rfl (by kernel_rfl) (by kernel_rfl) (by kernel_rfl) (fun _ _ _ h => h) (Or.inl ⟨by rfl, ?_⟩) (by assumption) ?_
            rotate_left
            · intro w hSw; (try dsimp only at hSw); go_simp; try with_reducible rfl
            try simp only [Act.put, List.getElem_toArray, List.getElem_cons_succ, List.getElem_cons_zero, List.setIfInBounds_toArray, List.set_cons_zero, List.set_cons_succ]
            refine wpAnyH_take (i := 2) (v := ?_) rfl (by kernel_rfl) (by kernel_rfl) (by kernel_rfl) (fun _ _ _ h => h) (Or.inl ⟨by rfl, ?_⟩) (by assumption) ?_
            rotate_left
            · intro w hSw; (try dsimp only at hSw); go_simp; try with_reducible rfl
            try simp only [Act.put, List.getElem_toArray, List.getElem_cons_succ, List.getElem_cons_zero, List.setIfInBounds_toArray, List.set_cons_zero, List.set_cons_succ]
            refine wpAnyH_take (i := 3) (v := ?_) rfl (by kernel_rfl) (by kernel_rfl) (by kernel_rfl) (fun _ _ _ h => h) (Or.inl ⟨by rfl, ?_⟩) (by assumption) ?_
            rotate_left
            · intro w hSw; (try dsimp only at hSw); go_simp; try with_reducible rfl
            try simp only [Act.put, List.getElem_toArray, List.getElem_cons_succ, List.getElem_cons_zero, List.setIfInBounds_toArray, List.set_cons_zero, List.set_cons_succ]
            refine wpAnyH_take (i := 4) (v := undef) rfl (by kernel_rfl) (by kernel_rfl) (by kernel_rfl) (fun _ _ _ h => h) (Or.inr ⟨by rfl, rfl⟩) (by assumption) ?_
            try simp only [Act.put, List.getElem_toArray, List.getElem_cons_succ, List.getElem_cons_zero, List.setIfInBounds_toArray, List.set_cons_zero, List.set_cons_succ]
            refine wpAnyH_take (i := 5) (v := undef) rfl (by kernel_rfl) (by kernel_rfl) (by kernel_rfl) (fun _ _ _ h => h) (Or.inr ⟨by rfl, rfl⟩) (by assumption) ?_
            try simp only [Act.put, List.getElem_toArray, List.getElem_cons_succ, List.getElem_cons_zero, List.setIfInBounds_toArray, List.set_cons_zero, List.set_cons_succ]
            refine wpAnyH_take (i := 6) (v := undef) rfl (by kernel_rfl) (by kernel_rfl) (by kernel_rfl) (fun _ _ _ h => h) (Or.inr ⟨by rfl, rfl⟩) (by assumption) ?_
            try simp only [Act.put, List.getElem_toArray, List.getElem_cons_succ, List.getElem_cons_zero, List.setIfInBounds_toArray, List.set_cons_zero, List.set_cons_succ]
            refine wpAnyH_take (i := 7) (v := undef) rfl (by kernel_rfl) (by kernel_rfl) (by kernel_rfl) (fun _ _ _ h => h) (Or.inr ⟨by rfl, rfl⟩) (by assumption) ?_
            try simp only [Act.put, List.getElem_toArray, List.getElem_cons_succ, List.getElem_cons_zero, List.setIfInBounds_toArray, List.set_cons_zero, List.set_cons_succ]
            refine wpAnyH_take (i := 8) (v := undef) rfl (by kernel_rfl) (by kernel_rfl) (by kernel_rfl) (fun _ _ _ h => h) (Or.inr ⟨by rfl, rfl⟩) (by assumption) ?_
            try simp only [Act.put, List.getElem_toArray, List.getElem_cons_succ, List.getElem_cons_zero, List.setIfInBounds_toArray, List.set_cons_zero, List.set_cons_succ]
            refine wpAnyH_take (i := 9) (v := undef) rfl (by kernel_rfl) (by kernel_rfl) (by kernel_rfl) (fun _ _ _ h => h) (Or.inr ⟨by rfl, rfl⟩) (by assumption) ?_
            try simp only [Act.put, List.getElem_toArray, List.getElem_cons_succ, List.getElem_cons_zero, List.setIfInBounds_toArray, List.set_cons_zero, List.set_cons_succ]
            refine wpAnyH_take (i := 10) (v := undef) rfl (by kernel_rfl) (by kernel_rfl) (by kernel_rfl) (fun _ _ _ h => h) (Or.inr ⟨by rfl, rfl⟩) (by assumption) ?_
            try simp only [Act.put, List.getElem_toArray, List.getElem_cons_succ, List.getElem_cons_zero, List.setIfInBounds_toArray, List.set_cons_zero, List.set_cons_succ]
            refine wpAnyH_take (i := 11) (v := undef) rfl (by kernel_rfl) (by kernel_rfl) (by kernel_rfl) (fun _ _ _ h => h) (Or.inr ⟨by rfl, rfl⟩) (by assumption) ?_
            try simp only [Act.put, List.getElem_toArray, List.getElem_cons_succ, List.getElem_cons_zero, List.setIfInBounds_toArray, List.set_cons_zero, List.set_cons_succ]
            refine wpAnyH_take (i := 12) (v := ?_) rfl (by kernel_rfl) (by kernel_rfl) (by kernel_rfl) (fun _ _ _ h => h) (Or.inl ⟨by rfl, ?_⟩) (by assumption) ?_
            rotate_left
            · intro w hSw; (try dsimp only at hSw); go_simp; try with_reducible rfl
            try simp only [Act.put, List.getElem_toArray, List.getElem_cons_succ, List.getElem_cons_zero, List.setIfInBounds_toArray, List.set_cons_zero, List.set_cons_succ]
            refine wpAnyH_done (by kernel_rfl) ?_ _
            have HOR2 := Lib.hid (own_ints_eq hHeld.out.1 (show X ++ (K.take k).flatMap F = X ++ (K.take (k + 1)).flatMap F by rw [HF.out, List.append_nil]))
            have HBR2 := Lib.hid hHeld.out.2
            clear hHeld HOR HF
            go_wp2
            go_roundw
            case rel => exact ⟨k + 1, by omega, by go_num, HOR2, HBR2⟩
            case measure => simp [intOf]; omega
          · have hhs : ((bts y.last).toList == [35]) = true := hh
            have HFE : Hid (F y = matN T n y []) := Lib.hid (by rw [HFV.out, kidM, hh]; rfl)
            have HF : Hid (X ++ (K.take (k + 1)).flatMap F = X ++ (K.take k).flatMap F ++ matN T n y []) := Lib.hid (by rw [HFK.out, HFE.out])
            have CI := Lib.hid (IHC.out wr _ (.slice none 0 0) (X ++ (K.take k).flatMap F) [] HBR.out HOR.out HE0.out (by rw [HFE.out] at hle; rw [List.length_append]; omega))
            obtain ⟨pt, hpt⟩ : ∃ pt, bts y.last = pt := ⟨_, rfl⟩
            rw [hpt] at hpart hhs
            clear hh hle HFV HFK IHC hpt HOR
            go_wp2_with (go_at_call 99; refine CI.out.mono ?_; rintro e w5 ⟨u, rfl, ho5, hb5⟩; have HO5 := Lib.hid ho5; have HB5 := Lib.hid hb5; clear ho5 hb5)
            go_roundw
            case rel => exact ⟨k + 1, by omega, by go_num, own_ints_eq HO5.out (by rw [HF.out, List.append_assoc]), HB5⟩
            case measure => simp [intOf]; omega
        · skip
          obtain rfl : k = K.length := by omega
          have HE := Lib.hid (own_ints_eq HOR.out (show X ++ (K.take K.length).flatMap F = L ++ M by rw [List.take_length, HFM.out]))
          clear HOR
          go_wp2
          go_ret
          exact ⟨_, rfl, HE.out, HBR.out⟩
    · obtain ⟨q, r2, rfl⟩ : ∃ q r2, r = q :: r2 := by
        cases r with
        | nil => exact absurd rfl hr
        | cons q r2 => exact ⟨q, r2, rfl⟩
      obtain ⟨pa, pc, rfl, hpc, hpp⟩ := hp
      obtain ⟨g, o, rfl, hcs⟩ : ∃ g o, pa = some ⟨g, o, none⟩ ∧ ∀ j (h : j < (q :: r2).length), w0.cell? ⟨g, o + j, none⟩ = some (.string (q :: r2)[j]) := by
        rcases hpp with h | h
        · cases h
        · exact h
      have HQ0 := Lib.hid (hcs 0 (by simp))
      have hgw := World.block_lt_of_cell? _ _ (hcs 0 (by simp))
      have HP2 : Hid (PartsAt w0 (.slice (some ⟨g, if pc = 1 then o else o + 1, none⟩) r2.length (pc - 1)) r2) := Lib.hid ⟨_, _, rfl, by simp at hpc; omega, by
        by_cases h1 : pc = 1
        · left; cases r2 with
          | nil => rfl
          | cons => simp at hpc; omega
        · right
          refine ⟨g, o + 1, by rw [if_neg h1], fun j hj => ?_⟩
          have := hcs (j + 1) (by simpa using hj)
          rw [show o + 1 + j = o + (j + 1) by omega]; exact this⟩
      obtain ⟨F, hF⟩ : ∃ F, kidM (matN T n) (q :: r2) = F := ⟨_, rfl⟩
      have HFD := Lib.hid hF.symm
      obtain ⟨X, hX⟩ : ∃ X, L = X := ⟨_, rfl⟩
      have HFM : Hid (X ++ K.flatMap F = L ++ M) := Lib.hid (by rw [HM.out, hF, hX]; rfl)
      have hlen2 : X.length + (K.flatMap F).length ≤ 1000000000 := by
        have := congrArg List.length HFM.out
        rw [List.length_append, List.length_append] at this
        omega
      have HX0 : Hid (w.ownsRow w0.heap.size 2 1 (.slice va L.length vc) (X ++ (K.take 0).flatMap F).length (ints (X ++ (K.take 0).flatMap F))) := Lib.hid (by
        rw [← hX]; simpa using HO.out)
      have HE0 : Hid (PartsAt w0 (.slice none 0 0) []) := Lib.hid ⟨none, 0, rfl, Nat.le_refl _, .inl rfl⟩
      have hz : (((r2.length + 1 : Nat) : Int) == 0) = false := by rw [beq_eq_false_iff_ne]; omega
      have hz2 : decide ((0 : Int) < ((r2.length + 1 : Nat) : Int)) = true := decide_eq_true (by omega)
      rw [List.length_cons] at hpc ⊢
      have hpc1 : 1 ≤ pc := by omega
      have HPC := Lib.hid hpc
      clear hpc
      clear hr hpp hcs hX hF
      go_enter Tryz.func99, Tryz.ntmps99
      go_wp2
      go_loopw [1, 23] (fun s1 s23 wr => ∃ k : Nat, k ≤ K.length ∧ s23 = .int .i64 k ∧ Hid (wr.ownsRow w0.heap.size 2 1 s1 (X ++ (K.take k).flatMap F).length (ints (X ++ (K.take k).flatMap F))) ∧ Hid (Below w0.heap.size w0 wr)) (fun _ s23 _ => K.length - (intOf s23).toNat)
      case atStart => exact ⟨0, Nat.zero_le _, rfl, HX0, HB⟩
      case round =>
        obtain ⟨k, hk, rfl, HOR, HBR⟩ := hrel
        by_cases hlt : k < K.length
        · skip
          obtain ⟨kg, kcap, hkv, hkc⟩ := HKC.out k hlt
          have he := HKV.out.symm.trans hkv
          obtain rfl : ka = some ⟨kg, 0, none⟩ := by cases he; rfl
          have hcell0 := hkc k hlt
          have hpart0 := HPT.out k hlt
          have hkgw := World.block_lt_of_cell? _ _ hcell0
          have hcell := (HBR.out.cell hkgw).trans hcell0
          have hpart := (HBR.out.cell (World.block_lt_of_cell? _ _ hpart0)).trans hpart0
          have HPW := Lib.hid (World.block_lt_of_cell? _ _ hpart0)
          have HFK := Lib.hid (show X ++ (K.take (k + 1)).flatMap F = X ++ (K.take k).flatMap F ++ F K[k] by rw [flat_take K F k hlt, List.append_assoc])
          have hle := flat_le K F k hlt
          have IHC := Lib.hid (IH.out K[k] (List.getElem_mem hlt))
          have HFV := Lib.hid (congrFun HFD.out K[k])
          obtain ⟨y, hy⟩ : ∃ y, K[k] = y := ⟨_, rfl⟩
          rw [hy] at hcell hpart HPW HFK hle IHC HFV
          obtain ⟨vb, vcc, hu1⟩ := own_slice HOR.out
          obtain ⟨N, hNl⟩ : ∃ N, (X ++ (K.take k).flatMap F).length = N := ⟨_, rfl⟩
          have HNL := Lib.hid hNl
          rw [hNl] at hu1
          subst hu1
          clear hNl
          clear hkv hkc he hcell0 hpart0 hy
          cases hh : isHash (bts y.last)
          · have hhs : ((bts y.last).toList == [35]) = false := hh
            have hq := (HBR.out.cell hgw).trans HQ0.out
            rw [Nat.add_zero] at hq
            have hqe : (q :: r2)[0] = q := rfl
            rw [hqe] at hq
            have CPC := Lib.hid (fun wx => partCovers_any (bts y.last) q wx)
            have hg0 : 0 < r2.length + 1 := by omega
            cases hpc2 : partC (bts y.last) q
            · have HFE : Hid (F y = []) := Lib.hid (by rw [HFV.out, kidM, hh]; simp [hpc2])
              have HF : Hid (X ++ (K.take (k + 1)).flatMap F = X ++ (K.take k).flatMap F ++ []) := Lib.hid (by rw [HFK.out, HFE.out])
              rw [hpc2] at CPC
              obtain ⟨pt, hpt⟩ : ∃ pt, bts y.last = pt := ⟨_, rfl⟩
              rw [hpt] at hpart hhs CPC
              clear hh hle HFV HFK IHC hpt hpc2 hqe
              go_wp2_with fail
              refine wp_region_held_drew (S := fun wx => wx.cell? ⟨y.ptr, 0, none⟩ = some (.string pt) ∧ wx.cell? ⟨g, o, none⟩ = some (.string q) ∧ Hid (wx.ownsRow w0.heap.size 2 1 (.slice vb N vcc) (X ++ (K.take k).flatMap F).length (ints (X ++ (K.take k).flatMap F)) ∧ Below w0.heap.size w0 wx)) (by kernel_rfl) ?_ (fun hHeld => ?_)
              · exact ⟨hpart, hq, Lib.hid ⟨row_below HOR.out (Below.refl _ _).drew, HBR.out.drew⟩⟩
              change wpAnyH _ _ _ _ _ 13 #[false, false, false, false, false, false, false, false, false, false, false, false, false] _ _
              clear hpart hq
              refine wpAnyH_take (i := 0) (v := ?_) rfl (by kernel_rfl) (by kernel_rfl) (by kernel_rfl) (fun _ _ _ h => h) (Or.inl ⟨by rfl, ?_⟩) (by assumption) ?_
              rotate_left
              · intro w hSw; (try dsimp only at hSw); go_simp; try with_reducible rfl
              try simp only [Act.put, List.getElem_toArray, List.getElem_cons_succ, List.getElem_cons_zero, List.setIfInBounds_toArray, List.set_cons_zero, List.set_cons_succ]
              refine wpAnyH_take (i := 1) (v := ?_) rfl (by kernel_rfl) (by kernel_rfl) (by kernel_rfl) (fun _ _ _ h => h) (Or.inl ⟨by rfl, ?_⟩) (by assumption) ?_
              rotate_left
              · intro w hSw; (try dsimp only at hSw); go_simp; try with_reducible rfl
              try simp only [Act.put, List.getElem_toArray, List.getElem_cons_succ, List.getElem_cons_zero, List.setIfInBounds_toArray, List.set_cons_zero, List.set_cons_succ]
              refine wpAnyH_take (i := 2) (v := ?_) rfl (by kernel_rfl) (by kernel_rfl) (by kernel_rfl) (fun _ _ _ h => h) (Or.inl ⟨by rfl, ?_⟩) (by assumption) ?_
              rotate_left
              · intro w hSw; (try dsimp only at hSw); go_simp; try with_reducible rfl
              try simp only [Act.put, List.getElem_toArray, List.getElem_cons_succ, List.getElem_cons_zero, List.setIfInBounds_toArray, List.set_cons_zero, List.set_cons_succ]
              refine wpAnyH_take (i := 3) (v := ?_) rfl (by kernel_rfl) (by kernel_rfl) (by kernel_rfl) (fun _ _ _ h => h) (Or.inl ⟨by rfl, ?_⟩) (by assumption) ?_
              rotate_left
              · intro w hSw; (try dsimp only at hSw); go_simp; try with_reducible rfl
              try simp only [Act.put, List.getElem_toArray, List.getElem_cons_succ, List.getElem_cons_zero, List.setIfInBounds_toArray, List.set_cons_zero, List.set_cons_succ]
              refine wpAnyH_take (i := 4) (v := ?_) rfl (by kernel_rfl) (by kernel_rfl) (by kernel_rfl) (fun _ _ _ h => h) (Or.inl ⟨by rfl, ?_⟩) (by assumption) ?_
              rotate_left
              · intro w hSw; (try dsimp only at hSw); go_simp; try with_reducible rfl
              try simp only [Act.put, List.getElem_toArray, List.getElem_cons_succ, List.getElem_cons_zero, List.setIfInBounds_toArray, List.set_cons_zero, List.set_cons_succ]
              refine wpAnyH_take (i := 5) (v := ?_) rfl (by kernel_rfl) (by kernel_rfl) (by kernel_rfl) (fun _ _ _ h => h) (Or.inl ⟨by rfl, ?_⟩) (by assumption) ?_
              rotate_left
              · intro w hSw; (try dsimp only at hSw); go_simp; try with_reducible rfl
              try simp only [Act.put, List.getElem_toArray, List.getElem_cons_succ, List.getElem_cons_zero, List.setIfInBounds_toArray, List.set_cons_zero, List.set_cons_succ]
              refine wpAnyH_take (i := 6) (v := ?_) rfl (by kernel_rfl) (by kernel_rfl) (by kernel_rfl) (fun _ _ _ h => h) (Or.inl ⟨by rfl, ?_⟩) (by assumption) ?_
              rotate_left
              · intro w hSw; (try dsimp only at hSw); go_simp; try with_reducible rfl
              try simp only [Act.put, List.getElem_toArray, List.getElem_cons_succ, List.getElem_cons_zero, List.setIfInBounds_toArray, List.set_cons_zero, List.set_cons_succ]
              refine wpAnyH_take (i := 7) (v := ?_) rfl (by kernel_rfl) (by kernel_rfl) (by kernel_rfl) (fun _ _ _ h => h) (Or.inl ⟨by rfl, ?_⟩) (by assumption) ?_
              rotate_left
              · intro w hSw; (try dsimp only at hSw); go_simp; try with_reducible rfl
              try simp only [Act.put, List.getElem_toArray, List.getElem_cons_succ, List.getElem_cons_zero, List.setIfInBounds_toArray, List.set_cons_zero, List.set_cons_succ]
              refine wpAnyH_take (i := 8) (v := ?_) rfl (by kernel_rfl) (by kernel_rfl) (by kernel_rfl) (fun _ _ _ h => h) (Or.inl ⟨by rfl, ?_⟩) (by assumption) ?_
              rotate_left
              · intro w hSw; (try dsimp only at hSw); go_simp; try with_reducible rfl
              try simp only [Act.put, List.getElem_toArray, List.getElem_cons_succ, List.getElem_cons_zero, List.setIfInBounds_toArray, List.set_cons_zero, List.set_cons_succ]
              refine wpAnyH_take (i := 9) (v := ?_) rfl (by kernel_rfl) (by kernel_rfl) (by kernel_rfl) (fun _ _ _ h => h) (Or.inl ⟨by rfl, ?_⟩) (by assumption) ?_
              rotate_left
              · intro w hSw; (try dsimp only at hSw); go_simp; try with_reducible rfl
              try simp only [Act.put, List.getElem_toArray, List.getElem_cons_succ, List.getElem_cons_zero, List.setIfInBounds_toArray, List.set_cons_zero, List.set_cons_succ]
              refine wpAnyH_take (i := 10) (v := ?_) rfl (by kernel_rfl) (by kernel_rfl) (by kernel_rfl) (fun _ _ _ h => h) (Or.inl ⟨by rfl, ?_⟩) (by assumption) ?_
              rotate_left
              · intro w hSw; (try dsimp only at hSw); go_simp; try with_reducible rfl
              try simp only [Act.put, List.getElem_toArray, List.getElem_cons_succ, List.getElem_cons_zero, List.setIfInBounds_toArray, List.set_cons_zero, List.set_cons_succ]
              refine wpAnyH_ready (rs := [11]) (by kernel_rfl) (by simp) (AllReadyH.cons rfl (fun K hK => ?_) AllReadyH.nil)
              rw [if_pos (by rfl)]
              go_simp; go_at_call 125; refine (CPC.out _).mono ?_; rintro e w6 ⟨rfl, hb6⟩; go_wp2_with fail
              refine hK.out _ _ ?_ (fun hHeld => ?_)
              · exact ⟨(hb6.cell (World.block_lt_of_cell? _ _ hHeld.1)).trans hHeld.1, (hb6.cell (World.block_lt_of_cell? _ _ hHeld.2.1)).trans hHeld.2.1, Lib.hid ⟨row_below hHeld.2.2.out.1 hb6, below_end hHeld.2.2.out.2 hb6⟩⟩
              clear hK K
              try simp only [Act.put, List.getElem_toArray, List.getElem_cons_succ, List.getElem_cons_zero, List.setIfInBounds_toArray, List.set_cons_zero, List.set_cons_succ]
              refine wpAnyH_take (i := 12) (v := ?_) rfl (by kernel_rfl) (by kernel_rfl) (by kernel_rfl) (fun _ _ _ h => h) (Or.inl ⟨by rfl, ?_⟩) (by assumption) ?_
              rotate_left
              · intro w hSw; (try dsimp only at hSw); go_simp; try with_reducible rfl
              try simp only [Act.put, List.getElem_toArray, List.getElem_cons_succ, List.getElem_cons_zero, List.setIfInBounds_toArray, List.set_cons_zero, List.set_cons_succ]
              refine wpAnyH_done (by kernel_rfl) ?_ _
              have HOR2 : Hid (w6.ownsRow w0.heap.size 2 1 (.slice vb N vcc) (X ++ (K.take (k + 1)).flatMap F).length (ints (X ++ (K.take (k + 1)).flatMap F))) := Lib.hid (own_ints_eq hHeld.2.2.out.1 (by rw [HF.out, List.append_nil]))
              have HBR2 := Lib.hid hHeld.2.2.out.2
              clear hHeld HOR HF
              go_wp2
              go_roundw
              case rel => exact ⟨k + 1, by omega, by go_num, HOR2, HBR2⟩
              case measure => simp [intOf]; omega
            · have HFE : Hid (F y = matN T n y r2) := Lib.hid (by rw [HFV.out, kidM, hh]; simp [hpc2])
              have HF : Hid (X ++ (K.take (k + 1)).flatMap F = X ++ (K.take k).flatMap F ++ matN T n y r2) := Lib.hid (by rw [HFK.out, HFE.out])
              have HLE : Hid ((X ++ (K.take k).flatMap F).length + (matN T n y r2).length ≤ 1000000000) := Lib.hid (by rw [HFE.out] at hle; rw [List.length_append]; omega)
              rw [hpc2] at CPC
              obtain ⟨pt, hpt⟩ : ∃ pt, bts y.last = pt := ⟨_, rfl⟩
              rw [hpt] at hpart hhs CPC
              clear hh hle HFV HFK hpt hpc2 hqe
              by_cases hp1 : pc = 1
              · have HPA := Lib.hid (show PartsAt w0 (.slice (some ⟨g, o, none⟩) r2.length 0) r2 by have := HP2.out; rw [if_pos hp1, hp1] at this; exact this)
                subst hp1
                clear HP2
                go_wp2_with fail
                refine wp_region_held_drew (S := fun wx => wx.cell? ⟨y.ptr, 0, none⟩ = some (.string pt) ∧ wx.cell? ⟨g, o, none⟩ = some (.string q) ∧ Hid (wx.ownsRow w0.heap.size 2 1 (.slice vb N vcc) (X ++ (K.take k).flatMap F).length (ints (X ++ (K.take k).flatMap F)) ∧ Below w0.heap.size w0 wx)) (by kernel_rfl) ?_ (fun hHeld => ?_)
                · exact ⟨hpart, hq, Lib.hid ⟨row_below HOR.out (Below.refl _ _).drew, HBR.out.drew⟩⟩
                change wpAnyH _ _ _ _ _ 13 #[false, false, false, false, false, false, false, false, false, false, false, false, false] _ _
                clear hpart hq
                refine wpAnyH_take (i := 0) (v := ?_) rfl (by kernel_rfl) (by kernel_rfl) (by kernel_rfl) (fun _ _ _ h => h) (Or.inl ⟨by rfl, ?_⟩) (by assumption) ?_
                rotate_left
                · intro w hSw; (try dsimp only at hSw); go_simp; try with_reducible rfl
                try simp only [Act.put, List.getElem_toArray, List.getElem_cons_succ, List.getElem_cons_zero, List.setIfInBounds_toArray, List.set_cons_zero, List.set_cons_succ]
                refine wpAnyH_take (i := 1) (v := ?_) rfl (by kernel_rfl) (by kernel_rfl) (by kernel_rfl) (fun _ _ _ h => h) (Or.inl ⟨by rfl, ?_⟩) (by assumption) ?_
                rotate_left
                · intro w hSw; (try dsimp only at hSw); go_simp; try with_reducible rfl
                try simp only [Act.put, List.getElem_toArray, List.getElem_cons_succ, List.getElem_cons_zero, List.setIfInBounds_toArray, List.set_cons_zero, List.set_cons_succ]
                refine wpAnyH_take (i := 2) (v := ?_) rfl (by kernel_rfl) (by kernel_rfl) (by kernel_rfl) (fun _ _ _ h => h) (Or.inl ⟨by rfl, ?_⟩) (by assumption) ?_
                rotate_left
                · intro w hSw; (try dsimp only at hSw); go_simp; try with_reducible rfl
                try simp only [Act.put, List.getElem_toArray, List.getElem_cons_succ, List.getElem_cons_zero, List.setIfInBounds_toArray, List.set_cons_zero, List.set_cons_succ]
                refine wpAnyH_take (i := 3) (v := ?_) rfl (by kernel_rfl) (by kernel_rfl) (by kernel_rfl) (fun _ _ _ h => h) (Or.inl ⟨by rfl, ?_⟩) (by assumption) ?_
                rotate_left
                · intro w hSw; (try dsimp only at hSw); go_simp; try with_reducible rfl
                try simp only [Act.put, List.getElem_toArray, List.getElem_cons_succ, List.getElem_cons_zero, List.setIfInBounds_toArray, List.set_cons_zero, List.set_cons_succ]
                refine wpAnyH_take (i := 4) (v := ?_) rfl (by kernel_rfl) (by kernel_rfl) (by kernel_rfl) (fun _ _ _ h => h) (Or.inl ⟨by rfl, ?_⟩) (by assumption) ?_
                rotate_left
                · intro w hSw; (try dsimp only at hSw); go_simp; try with_reducible rfl
                try simp only [Act.put, List.getElem_toArray, List.getElem_cons_succ, List.getElem_cons_zero, List.setIfInBounds_toArray, List.set_cons_zero, List.set_cons_succ]
                refine wpAnyH_take (i := 5) (v := ?_) rfl (by kernel_rfl) (by kernel_rfl) (by kernel_rfl) (fun _ _ _ h => h) (Or.inl ⟨by rfl, ?_⟩) (by assumption) ?_
                rotate_left
                · intro w hSw; (try dsimp only at hSw); go_simp; try with_reducible rfl
                try simp only [Act.put, List.getElem_toArray, List.getElem_cons_succ, List.getElem_cons_zero, List.setIfInBounds_toArray, List.set_cons_zero, List.set_cons_succ]
                refine wpAnyH_take (i := 6) (v := ?_) rfl (by kernel_rfl) (by kernel_rfl) (by kernel_rfl) (fun _ _ _ h => h) (Or.inl ⟨by rfl, ?_⟩) (by assumption) ?_
                rotate_left
                · intro w hSw; (try dsimp only at hSw); go_simp; try with_reducible rfl
                try simp only [Act.put, List.getElem_toArray, List.getElem_cons_succ, List.getElem_cons_zero, List.setIfInBounds_toArray, List.set_cons_zero, List.set_cons_succ]
                refine wpAnyH_take (i := 7) (v := ?_) rfl (by kernel_rfl) (by kernel_rfl) (by kernel_rfl) (fun _ _ _ h => h) (Or.inl ⟨by rfl, ?_⟩) (by assumption) ?_
                rotate_left
                · intro w hSw; (try dsimp only at hSw); go_simp; try with_reducible rfl
                try simp only [Act.put, List.getElem_toArray, List.getElem_cons_succ, List.getElem_cons_zero, List.setIfInBounds_toArray, List.set_cons_zero, List.set_cons_succ]
                refine wpAnyH_take (i := 8) (v := ?_) rfl (by kernel_rfl) (by kernel_rfl) (by kernel_rfl) (fun _ _ _ h => h) (Or.inl ⟨by rfl, ?_⟩) (by assumption) ?_
                rotate_left
                · intro w hSw; (try dsimp only at hSw); go_simp; try with_reducible rfl
                try simp only [Act.put, List.getElem_toArray, List.getElem_cons_succ, List.getElem_cons_zero, List.setIfInBounds_toArray, List.set_cons_zero, List.set_cons_succ]
                refine wpAnyH_take (i := 9) (v := ?_) rfl (by kernel_rfl) (by kernel_rfl) (by kernel_rfl) (fun _ _ _ h => h) (Or.inl ⟨by rfl, ?_⟩) (by assumption) ?_
                rotate_left
                · intro w hSw; (try dsimp only at hSw); go_simp; try with_reducible rfl
                try simp only [Act.put, List.getElem_toArray, List.getElem_cons_succ, List.getElem_cons_zero, List.setIfInBounds_toArray, List.set_cons_zero, List.set_cons_succ]
                refine wpAnyH_take (i := 10) (v := ?_) rfl (by kernel_rfl) (by kernel_rfl) (by kernel_rfl) (fun _ _ _ h => h) (Or.inl ⟨by rfl, ?_⟩) (by assumption) ?_
                rotate_left
                · intro w hSw; (try dsimp only at hSw); go_simp; try with_reducible rfl
                try simp only [Act.put, List.getElem_toArray, List.getElem_cons_succ, List.getElem_cons_zero, List.setIfInBounds_toArray, List.set_cons_zero, List.set_cons_succ]
                refine wpAnyH_ready (rs := [11]) (by kernel_rfl) (by simp) (AllReadyH.cons rfl (fun K hK => ?_) AllReadyH.nil)
                rw [if_pos (by rfl)]
                go_simp; go_at_call 125; refine (CPC.out _).mono ?_; rintro e w6 ⟨rfl, hb6⟩; go_wp2_with fail
                refine hK.out _ _ ?_ (fun hHeld => ?_)
                · exact ⟨(hb6.cell (World.block_lt_of_cell? _ _ hHeld.1)).trans hHeld.1, (hb6.cell (World.block_lt_of_cell? _ _ hHeld.2.1)).trans hHeld.2.1, Lib.hid ⟨row_below hHeld.2.2.out.1 hb6, below_end hHeld.2.2.out.2 hb6⟩⟩
                clear hK K
                try simp only [Act.put, List.getElem_toArray, List.getElem_cons_succ, List.getElem_cons_zero, List.setIfInBounds_toArray, List.set_cons_zero, List.set_cons_succ]
                refine wpAnyH_take (i := 12) (v := ?_) rfl (by kernel_rfl) (by kernel_rfl) (by kernel_rfl) (fun _ _ _ h => h) (Or.inl ⟨by rfl, ?_⟩) (by assumption) ?_
                rotate_left
                · intro w hSw; (try dsimp only at hSw); go_simp; try with_reducible rfl
                try simp only [Act.put, List.getElem_toArray, List.getElem_cons_succ, List.getElem_cons_zero, List.setIfInBounds_toArray, List.set_cons_zero, List.set_cons_succ]
                refine wpAnyH_done (by kernel_rfl) ?_ _
                have CI := Lib.hid (IHC.out w6 _ _ (X ++ (K.take k).flatMap F) r2 hHeld.2.2.out.2 hHeld.2.2.out.1 HPA.out HLE.out)
                clear hHeld HOR IHC
                go_wp2_with (go_at_call 99; refine CI.out.mono ?_; rintro e w5 ⟨u, rfl, ho5, hb5⟩; have HO5 := Lib.hid ho5; have HB5 := Lib.hid hb5; clear ho5 hb5)
                go_roundw
                case rel => exact ⟨k + 1, by omega, by go_num, own_ints_eq HO5.out (by rw [HF.out, List.append_assoc]), HB5⟩
                case measure => simp [intOf]; omega
              · go_wp2_with fail
                refine wp_region_held_drew (S := fun wx => wx.cell? ⟨y.ptr, 0, none⟩ = some (.string pt) ∧ wx.cell? ⟨g, o, none⟩ = some (.string q) ∧ Hid (wx.ownsRow w0.heap.size 2 1 (.slice vb N vcc) (X ++ (K.take k).flatMap F).length (ints (X ++ (K.take k).flatMap F)) ∧ Below w0.heap.size w0 wx)) (by kernel_rfl) ?_ (fun hHeld => ?_)
                · exact ⟨hpart, hq, Lib.hid ⟨row_below HOR.out (Below.refl _ _).drew, HBR.out.drew⟩⟩
                change wpAnyH _ _ _ _ _ 13 #[false, false, false, false, false, false, false, false, false, false, false, false, false] _ _
                clear hpart hq
                refine wpAnyH_take (i := 0) (v := ?_) rfl (by kernel_rfl) (by kernel_rfl) (by kernel_rfl) (fun _ _ _ h => h) (Or.inl ⟨by rfl, ?_⟩) (by assumption) ?_
                rotate_left
                · intro w hSw; (try dsimp only at hSw); go_simp; try with_reducible rfl
                try simp only [Act.put, List.getElem_toArray, List.getElem_cons_succ, List.getElem_cons_zero, List.setIfInBounds_toArray, List.set_cons_zero, List.set_cons_succ]
                refine wpAnyH_take (i := 1) (v := ?_) rfl (by kernel_rfl) (by kernel_rfl) (by kernel_rfl) (fun _ _ _ h => h) (Or.inl ⟨by rfl, ?_⟩) (by assumption) ?_
                rotate_left
                · intro w hSw; (try dsimp only at hSw); go_simp; try with_reducible rfl
                try simp only [Act.put, List.getElem_toArray, List.getElem_cons_succ, List.getElem_cons_zero, List.setIfInBounds_toArray, List.set_cons_zero, List.set_cons_succ]
                refine wpAnyH_take (i := 2) (v := ?_) rfl (by kernel_rfl) (by kernel_rfl) (by kernel_rfl) (fun _ _ _ h => h) (Or.inl ⟨by rfl, ?_⟩) (by assumption) ?_
                rotate_left
                · intro w hSw; (try dsimp only at hSw); go_simp; try with_reducible rfl
                try simp only [Act.put, List.getElem_toArray, List.getElem_cons_succ, List.getElem_cons_zero, List.setIfInBounds_toArray, List.set_cons_zero, List.set_cons_succ]
                refine wpAnyH_take (i := 3) (v := ?_) rfl (by kernel_rfl) (by kernel_rfl) (by kernel_rfl) (fun _ _ _ h => h) (Or.inl ⟨by rfl, ?_⟩) (by assumption) ?_
                rotate_left
                · intro w hSw; (try dsimp only at hSw); go_simp; try with_reducible rfl
                try simp only [Act.put, List.getElem_toArray, List.getElem_cons_succ, List.getElem_cons_zero, List.setIfInBounds_toArray, List.set_cons_zero, List.set_cons_succ]
                refine wpAnyH_take (i := 4) (v := ?_) rfl (by kernel_rfl) (by kernel_rfl) (by kernel_rfl) (fun _ _ _ h => h) (Or.inl ⟨by rfl, ?_⟩) (by assumption) ?_
                rotate_left
                · intro w hSw; (try dsimp only at hSw); go_simp; try with_reducible rfl
                try simp only [Act.put, List.getElem_toArray, List.getElem_cons_succ, List.getElem_cons_zero, List.setIfInBounds_toArray, List.set_cons_zero, List.set_cons_succ]
                refine wpAnyH_take (i := 5) (v := ?_) rfl (by kernel_rfl) (by kernel_rfl) (by kernel_rfl) (fun _ _ _ h => h) (Or.inl ⟨by rfl, ?_⟩) (by assumption) ?_
                rotate_left
                · intro w hSw; (try dsimp only at hSw); go_simp; try with_reducible rfl
                try simp only [Act.put, List.getElem_toArray, List.getElem_cons_succ, List.getElem_cons_zero, List.setIfInBounds_toArray, List.set_cons_zero, List.set_cons_succ]
                refine wpAnyH_take (i := 6) (v := ?_) rfl (by kernel_rfl) (by kernel_rfl) (by kernel_rfl) (fun _ _ _ h => h) (Or.inl ⟨by rfl, ?_⟩) (by assumption) ?_
                rotate_left
                · intro w hSw; (try dsimp only at hSw); go_simp; try with_reducible rfl
                try simp only [Act.put, List.getElem_toArray, List.getElem_cons_succ, List.getElem_cons_zero, List.setIfInBounds_toArray, List.set_cons_zero, List.set_cons_succ]
                refine wpAnyH_take (i := 7) (v := ?_) rfl (by kernel_rfl) (by kernel_rfl) (by kernel_rfl) (fun _ _ _ h => h) (Or.inl ⟨by rfl, ?_⟩) (by assumption) ?_
                rotate_left
                · intro w hSw; (try dsimp only at hSw); go_simp; try with_reducible rfl
                try simp only [Act.put, List.getElem_toArray, List.getElem_cons_succ, List.getElem_cons_zero, List.setIfInBounds_toArray, List.set_cons_zero, List.set_cons_succ]
                refine wpAnyH_take (i := 8) (v := ?_) rfl (by kernel_rfl) (by kernel_rfl) (by kernel_rfl) (fun _ _ _ h => h) (Or.inl ⟨by rfl, ?_⟩) (by assumption) ?_
                rotate_left
                · intro w hSw; (try dsimp only at hSw); go_simp; try with_reducible rfl
                try simp only [Act.put, List.getElem_toArray, List.getElem_cons_succ, List.getElem_cons_zero, List.setIfInBounds_toArray, List.set_cons_zero, List.set_cons_succ]
                refine wpAnyH_take (i := 9) (v := ?_) rfl (by kernel_rfl) (by kernel_rfl) (by kernel_rfl) (fun _ _ _ h => h) (Or.inl ⟨by rfl, ?_⟩) (by assumption) ?_
                rotate_left
                · intro w hSw; (try dsimp only at hSw); go_simp; try with_reducible rfl
                try simp only [Act.put, List.getElem_toArray, List.getElem_cons_succ, List.getElem_cons_zero, List.setIfInBounds_toArray, List.set_cons_zero, List.set_cons_succ]
                refine wpAnyH_take (i := 10) (v := ?_) rfl (by kernel_rfl) (by kernel_rfl) (by kernel_rfl) (fun _ _ _ h => h) (Or.inl ⟨by rfl, ?_⟩) (by assumption) ?_
                rotate_left
                · intro w hSw; (try dsimp only at hSw); go_simp; try with_reducible rfl
                try simp only [Act.put, List.getElem_toArray, List.getElem_cons_succ, List.getElem_cons_zero, List.setIfInBounds_toArray, List.set_cons_zero, List.set_cons_succ]
                refine wpAnyH_ready (rs := [11]) (by kernel_rfl) (by simp) (AllReadyH.cons rfl (fun K hK => ?_) AllReadyH.nil)
                rw [if_pos (by rfl)]
                go_simp; go_at_call 125; refine (CPC.out _).mono ?_; rintro e w6 ⟨rfl, hb6⟩; go_wp2_with fail
                refine hK.out _ _ ?_ (fun hHeld => ?_)
                · exact ⟨(hb6.cell (World.block_lt_of_cell? _ _ hHeld.1)).trans hHeld.1, (hb6.cell (World.block_lt_of_cell? _ _ hHeld.2.1)).trans hHeld.2.1, Lib.hid ⟨row_below hHeld.2.2.out.1 hb6, below_end hHeld.2.2.out.2 hb6⟩⟩
                clear hK K
                try simp only [Act.put, List.getElem_toArray, List.getElem_cons_succ, List.getElem_cons_zero, List.setIfInBounds_toArray, List.set_cons_zero, List.set_cons_succ]
                refine wpAnyH_take (i := 12) (v := ?_) rfl (by kernel_rfl) (by kernel_rfl) (by kernel_rfl) (fun _ _ _ h => h) (Or.inl ⟨by rfl, ?_⟩) (by assumption) ?_
                rotate_left
                · intro w hSw; (try dsimp only at hSw); go_simp; try with_reducible rfl
                try simp only [Act.put, List.getElem_toArray, List.getElem_cons_succ, List.getElem_cons_zero, List.setIfInBounds_toArray, List.set_cons_zero, List.set_cons_succ]
                refine wpAnyH_done (by kernel_rfl) ?_ _
                have CI := Lib.hid (IHC.out w6 _ _ (X ++ (K.take k).flatMap F) r2 hHeld.2.2.out.2 hHeld.2.2.out.1 HP2.out HLE.out)
                rw [if_neg hp1] at CI
                clear hHeld HOR IHC
                go_wp2_with (go_at_call 99; refine CI.out.mono ?_; rintro e w5 ⟨u, rfl, ho5, hb5⟩; have HO5 := Lib.hid ho5; have HB5 := Lib.hid hb5; clear ho5 hb5)
                go_roundw
                case rel => exact ⟨k + 1, by omega, by go_num, own_ints_eq HO5.out (by rw [HF.out, List.append_assoc]), HB5⟩
                case measure => simp [intOf]; omega
          · have hhs : ((bts y.last).toList == [35]) = true := hh
            have HFE : Hid (F y = matN T n y []) := Lib.hid (by rw [HFV.out, kidM, hh]; rfl)
            have HF : Hid (X ++ (K.take (k + 1)).flatMap F = X ++ (K.take k).flatMap F ++ matN T n y []) := Lib.hid (by rw [HFK.out, HFE.out])
            have CI := Lib.hid (IHC.out wr _ (.slice none 0 0) (X ++ (K.take k).flatMap F) [] HBR.out HOR.out HE0.out (by rw [HFE.out] at hle; rw [List.length_append]; omega))
            obtain ⟨pt, hpt⟩ : ∃ pt, bts y.last = pt := ⟨_, rfl⟩
            rw [hpt] at hpart hhs
            clear hh hle HFV HFK IHC hpt HOR
            go_wp2_with (go_at_call 99; refine CI.out.mono ?_; rintro e w5 ⟨u, rfl, ho5, hb5⟩; have HO5 := Lib.hid ho5; have HB5 := Lib.hid hb5; clear ho5 hb5)
            go_roundw
            case rel => exact ⟨k + 1, by omega, by go_num, own_ints_eq HO5.out (by rw [HF.out, List.append_assoc]), HB5⟩
            case measure => simp [intOf]; omega
        · skip
          obtain rfl : k = K.length := by omega
          have HE := Lib.hid (own_ints_eq HOR.out (show X ++ (K.take K.length).flatMap F = L ++ M by rw [List.take_length, HFM.out]))
          clear HOR
          go_wp2
          go_ret
          exact ⟨_, rfl, HE.out, HBR.out⟩

end Go.Proofs.YtmfbffhbgelnnaaGreatDoor
