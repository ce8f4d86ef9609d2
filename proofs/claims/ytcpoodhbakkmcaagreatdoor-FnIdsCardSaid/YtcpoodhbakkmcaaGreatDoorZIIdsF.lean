/- The walk of impl.IdsFor. -/
import Derived.Test.YtcpoodhbakkmcaaGreatDoorZIdsN
import Derived.Test.YtcpoodhbakkmcaaGreatDoorZB6
import Derived.Test.YtcpoodhbakkmcaaGreatDoorZILinked
import Derived.Test.YtcpoodhbakkmcaaGreatDoorZB2
set_option linter.unusedSimpArgs false
set_option linter.unusedVariables false
namespace Go.Proofs.YtcpoodhbakkmcaaGreatDoor
open Go.RowKit Go.Sort

theorem flatMap_le {α : Type} (l : List α) (f g : α → List Int) (h : ∀ a ∈ l, (f a).length ≤ (g a).length) : (l.flatMap f).length ≤ (l.flatMap g).length := by
  induction l with
  | nil => simp
  | cons a l ih =>
    rw [List.flatMap_cons, List.flatMap_cons, List.length_append, List.length_append]
    have := h a (by simp)
    have := ih (fun b hb => h b (List.mem_cons_of_mem _ hb))
    omega

/-- No node's numbers are told twice. -/
theorem matN_len {T : List NodeM} (hT : TreeOk T) (hF : ∀ y ∈ T, Fine y.path) : ∀ (n : Nat) (x : NodeM), x ∈ T → ∀ r, (matN T n x r).length ≤ ((sub T x.path).flatMap (·.ids)).length
  | n, x, hx, r => by
    have hb : (baseM x r).length ≤ x.ids.length := by unfold baseM; split <;> simp
    rw [sub_cons hT hF hx, List.flatMap_cons, List.length_append]
    cases n with
    | zero => rw [matN]; omega
    | succ n =>
      rw [matN, List.length_append, List.flatMap_assoc]
      have := flatMap_le (kids T x.path) (kidM (matN T n) r) (fun c => (sub T c.path).flatMap (·.ids)) (fun c hc => by
        have IH := matN_len hT hF n c (kids_mem.1 hc).1
        unfold kidM
        split
        · exact IH []
        · split
          · simp
          · split
            · exact IH _
            · simp)
      omega

theorem total_len (T : List NodeM) (h : ∀ y ∈ T, y.ids.length ≤ 100) : (T.flatMap (·.ids)).length ≤ T.length * 100 := by
  induction T with
  | nil => simp
  | cons a T ih =>
    rw [List.flatMap_cons, List.length_append, List.length_cons]
    have := h a (by simp)
    have := ih (fun b hb => h b (List.mem_cons_of_mem _ hb))
    omega

theorem sorted_of (l : List Int) : (l.mergeSort fun x y => decide (x ≤ y)).Pairwise (· ≤ ·) := by
  have := List.pairwise_mergeSort (le := fun x y : Int => decide (x ≤ y)) (fun a b c h1 h2 => by simp at *; omega) (fun a b => by simp; omega) l
  exact this.imp (fun h => by simpa using h)

theorem sort_mem (l : List Int) (x : Int) : x ∈ (l.mergeSort fun x y => decide (x ≤ y)) ↔ x ∈ l := (List.mergeSort_perm l _).mem_iff

/-- Gathered, sorted, without what is alike: what the reference tells. -/
theorem ids_final {M I : List Int} (hI : rises I = true) (h : ∀ i, i ∈ M ↔ i ∈ I) : Lib.compact (M.mergeSort fun x y => decide (x ≤ y)) = I := by
  have hm : ∀ i, i ∈ Lib.compact (M.mergeSort fun x y => decide (x ≤ y)) ↔ i ∈ I := fun i => by rw [compact_mem, sort_mem, h]
  refine rises_ext (rises_pair.2 ⟨fun x hx => (rises_pair.1 hI).1 x ((hm x).1 hx), compact_rises (sorted_of M)⟩) hI hm

theorem idsL_none {l : List KnotM} {t : ByteArray} (h : topicP (parts t 47) = false) : idsL l t = [] := by
  cases e : trieB l
  · rw [idsL, e]; rfl
  · rw [List.eq_nil_iff_forall_not_mem]
    intro i hi
    obtain ⟨k, _, hm, _⟩ := (idsL_mem e i).1 hi
    rw [matchB, h] at hm; simp at hm

set_option maxRecDepth 100000 in
set_option maxHeartbeats 3200000 in
theorem implIds_any (v : Value) (l : List KnotM) (t : ByteArray) (m : Int) (w : World) (hl : KSmall l) (hts : t.size ≤ 1048576) (hv : KnotsAt w v l) (hm : w.cell? ⟨0, 0, none⟩ = some (.int .i64 m)) :
    Calls Tryz.prog 13 #[v, .string t] w fun e w' => ∃ u, e = .returned u ∧ w'.ownsRow w.heap.size 2 1 u (idsL l t).length (ints (idsL l t)) ∧ Below w.heap.size w w' := by
  have CL := Lib.hid (linked_any v l m w hl hv hm)
  have hl1 := hl.1
  have HM := Lib.hid hm
  obtain ⟨a, c, rfl, _, _, _⟩ := hv
  clear hm hl
  go_enter Tryz.func13, Tryz.ntmps13
  go_wp2_with fail
  refine CL.out.mono ?_
  rintro e w1 ⟨hL, hb1⟩
  have HB1 := Lib.hid hb1
  clear CL
  rcases hL with ⟨ht, rfl⟩ | ⟨ht, T, x, rfl, hx, hx0, hT, hN, hk⟩
  · have HT : Hid (idsL l t = []) := Lib.hid (by rw [idsL, ht]; rfl)
    clear ht hb1
    go_wp2
    go_ret
    rw [HT.out]
    exact ⟨_, rfl, World.ownsRow_nil _ _ _ _, HB1.out⟩
  · have CT := Lib.hid (implTopic_any t m w1 hts ((hb1.cell (World.block_lt_of_cell? _ _ HM.out)).trans HM.out))
    have HN1 := Lib.hid hN
    have HTT := Lib.hid hT
    have HK := Lib.hid hk
    have HTB := Lib.hid ht
    have HX := Lib.hid hx
    have HX0 := Lib.hid hx0
    clear ht hb1 hN hT hk hx hx0
    cases htp : topicP (parts t 47)
    · have HT : Hid (idsL l t = []) := Lib.hid (idsL_none htp)
      rw [htp] at CT
      clear htp
      go_wp2_with (go_at_call 32; refine CT.out.mono ?_; rintro e w2 ⟨rfl, hb2⟩; have HB2 := Lib.hid (below_end HB1.out hb2); clear hb2)
      go_ret
      rw [HT.out]
      exact ⟨_, rfl, World.ownsRow_nil _ _ _ _, HB2.out⟩
    · rw [htp] at CT
      have HTP := Lib.hid htp
      clear htp
      go_wp2_with (go_at_call 32; refine CT.out.mono ?_; rintro e w2 ⟨rfl, hb2⟩; have HB2 := Lib.hid (below_end HB1.out hb2); have HN2 := Lib.hid (HN1.out.below hb2); clear hb2)
      refine (implParts_any t m w2 hts ((HB2.out.cell (World.block_lt_of_cell? _ _ HM.out)).trans HM.out)).mono ?_
      rintro e w3 ⟨pv, rfl, hp, hb3⟩
      have HB3 := Lib.hid (below_end HB2.out hb3)
      have HN3 := Lib.hid (HN2.out.below hb3)
      have hpp := parts_pos t 47
      obtain ⟨g, cap, rfl, hg1, hg2, hcell, _⟩ := row_open hp hpp
      have hcapp : (parts t 47).length ≤ cap := own_cap hp
      have HPA : Hid (PartsAt w3 (.slice (some ⟨g, 0, none⟩) (parts t 47).length cap) (parts t 47)) := Lib.hid ⟨_, _, rfl, hcapp, .inr ⟨g, 0, rfl, fun j h => by rw [Nat.zero_add]; exact hcell j h⟩⟩
      have hTl : T.length ≤ 1048576 := by
        have := congrArg List.length HK.out
        rw [List.length_map, List.length_map] at this
        omega
      have hroot : ∀ j (hj : j < l.length), ¬ 1 ≤ j → pth l[j].1 = [] ∧ l[j].2 = [] := fun j hj e => by
        obtain rfl : j = 0 := by omega
        have h0 := trie_head HTB.out
        cases l with
        | nil => simp at hj
        | cons a l =>
          rw [headOk, Bool.and_eq_true, beq_iff_eq, list_toList, List.isEmpty_iff] at h0
          exact ⟨by simp [pth, h0.1], h0.2⟩
      have hfine : ∀ y ∈ T, Fine y.path ∧ y.ids.length ≤ 100 ∧ y.path.length ≤ 6 := fun y hy => by
        obtain ⟨k, hk2, hkp, hki⟩ := key_mem' HK.out hy
        obtain ⟨j, hj, rfl⟩ := List.mem_iff_getElem.1 hk2
        by_cases h1 : 1 ≤ j
        · have h2 := trie_at HTB.out hj h1
          exact ⟨by rw [hkp]; exact filter_fine h2.2.1, by rw [hki]; exact rises_short h2.2.2.1, by rw [hkp]; exact pth_len h2.2.1⟩
        · have h2 := hroot j hj h1
          exact ⟨(by rw [hkp, h2.1]; intro p hp; cases hp), (by rw [hki, h2.2]; simp), (by rw [hkp, h2.1]; simp)⟩
      have hlen : (matN T 6 x (parts t 47)).length ≤ 104857600 := by
        have h1 := matN_len HTT.out (fun y hy => (hfine y hy).1) 6 x HX.out (parts t 47)
        rw [HX0.out, sub_root] at h1
        have h2 := total_len T (fun y hy => (hfine y hy).2.1)
        omega
      have CM := Lib.hid (matching_any T w3 w.heap.size HN3 (by omega) 6 x HX.out (fun y hy _ => by rw [HX0.out]; exact (hfine y hy).2.2) w3 (.slice none 0 0) _ [] (parts t 47) (Below.refl _ _) (World.ownsRow_nil _ _ _ _) HPA.out (by simp; omega))
      have HFI := Lib.hid (fun i => matN_ids (x := x) HTB.out HTT.out HK.out HX.out HX0.out HTP.out i)
      obtain ⟨M, hMM⟩ : ∃ M, matN T 6 x (parts t 47) = M := ⟨_, rfl⟩
      rw [hMM] at CM HFI hlen
      rw [List.nil_append] at CM
      have HFF := Lib.hid (ids_final (M := M) (idsL_rises (l := l) (t := t)) HFI.out)
      clear hMM hfine hroot hp hb3 hcell
      go_wp2_with fail
      refine CM.out.mono ?_
      rintro e w4 ⟨u, rfl, ho, hb4⟩
      have HB4 := Lib.hid (HB3.out.trans (hb4.mono HB3.out.size))
      have hs3 := HB3.out.size
      have hs4 := hb4.size
      rcases ho.2 with ⟨hu, h0⟩ | ⟨gu, cu, cur, hu, hgu, hh, _⟩
      · subst hu
        have HI : Hid (idsL l t = []) := Lib.hid (by
          rw [List.eq_nil_iff_forall_not_mem]
          intro i hi
          have := (HFI.out i).2 hi
          rw [List.length_eq_zero_iff.1 h0] at this
          cases this)
        clear ho hb4 h0 CM
        go_wp2_with fail
        refine (Tryz.slices_Sort_int_none none 0 w4).mono ?_
        rintro e w' ⟨rfl, rfl⟩
        go_wp2_with fail
        refine (Tryz.slices_Compact_int_empty none 0 w').mono ?_
        rintro e w'' ⟨rfl, rfl⟩
        go_wp2
        go_ret
        rw [HI.out]
        exact ⟨_, rfl, World.ownsRow_nil _ _ _ _, HB4.out⟩
      · subst hu
        have HO := Lib.hid ho
        have hgw := (Array.getElem?_eq_some_iff.1 hh).1
        have HHo := Lib.hid (own_holds ho)
        have hcu : M.length ≤ cu := own_cap ho
        obtain ⟨S, hS⟩ : ∃ S, (M.mergeSort fun x y => decide (x ≤ y)) = S := ⟨_, rfl⟩
        have hSl : S.length = M.length := by rw [← hS, List.length_mergeSort]
        have CS := Lib.hid (Tryz.slices_Sort_int gu 0 cu M w4 HHo.out hgw (by omega))
        rw [hS] at CS HFF
        have HSL := Lib.hid hSl
        clear ho hb4 hh CM hS hSl HFI
        go_wp2_with fail
        refine CS.out.mono ?_
        rintro e w5 ⟨rfl, q5, os5, e5⟩
        have h5 := own_putRow HO.out HSL.out e5 M.length (Nat.le_refl _)
        rw [List.take_of_length_le (by rw [HSL.out]; exact Nat.le_refl _)] at h5
        have HO5 := Lib.hid h5.1
        have HB5 := Lib.hid (HB4.out.grown h5.2 (by omega) (fun j hj => by cases hj; omega))
        have CC := Lib.hid (Tryz.slices_Compact_int gu 0 cu S w5 (own_holds h5.1) (by rw [HSL.out]; omega) (by rw [HSL.out]; exact hcu))
        rw [HFF.out, HSL.out] at CC
        have hle : (idsL l t).length ≤ M.length := by
          rw [← HFF.out, ← HSL.out]
          unfold Lib.compact Lib.compactUpTo
          rw [List.length_map]
          exact Nat.le_trans (List.length_filter_le _ _) (by simp)
        clear e5 h5 CS
        go_wp2_with fail
        refine CC.out.mono ?_
        rintro e w6 ⟨rfl, q6, e6⟩
        have h6 := own_putRow (w' := w6) (os := #[]) (q := q6) HO5.out (l' := idsL l t ++ List.replicate (M.length - (idsL l t).length) 0) (by rw [List.length_append, List.length_replicate]; omega) (by rw [grow_none]; exact e6) (idsL l t).length hle
        rw [List.take_left] at h6
        have HO6 := Lib.hid h6.1
        have HB6 := Lib.hid (HB5.out.grown h6.2 HB5.out.size (fun j hj => by cases hj; omega))
        clear e6 h6 CC
        go_wp2
        go_ret
        exact ⟨_, rfl, own_mono HO6.out hs3, HB6.out⟩

end Go.Proofs.YtcpoodhbakkmcaaGreatDoor
