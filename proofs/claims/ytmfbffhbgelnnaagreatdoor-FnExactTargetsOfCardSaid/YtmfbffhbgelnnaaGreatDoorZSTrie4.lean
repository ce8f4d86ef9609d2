/- The walk of the reference's copy of a trie. -/
import Derived.Test.YtmfbffhbgelnnaaGreatDoorZB3
import Derived.Test.YtmfbffhbgelnnaaGreatDoorZB1
import Derived.Deep.AppendLies
set_option linter.unusedSimpArgs false
set_option linter.unusedVariables false
namespace Go.Proofs.YtmfbffhbgelnnaaGreatDoor
open Go.RowKit

/-- Rows of elements of two types lie in two blocks. -/
theorem apart_types {w : World} {A B n m s t : Nat} {E F : TypeId} {u v : Value} {xs ys : List Value} (h : w.ownsRow A E s u n xs) (k : w.ownsRow B F t v m ys) (hne : E ≠ F) : Apart u v := by
  rcases h.2 with ⟨rfl, _⟩ | ⟨g, cap, cur, rfl, _, hg, _⟩
  · exact .inl rfl
  · rcases k.2 with ⟨rfl, _⟩ | ⟨g2, cap2, cur2, rfl, _, hg2, _⟩
    · exact .inr (fun e => by cases e)
    · refine .inr (fun e => ?_)
      have : g = g2 := by simpa [Value.ownBlock] using e
      subst this
      rw [hg] at hg2
      cases hg2
      exact hne rfl

theorem kcells_push : ∀ (l : List KnotM) (us : List Value) (x : KnotM) (u : Value), us.length = l.length → kcells l us ++ [.string x.1, u] = kcells (l ++ [x]) (us ++ [u])
  | [], [], _, _, _ => rfl
  | y :: l, v :: us, x, u, e => by simp only [List.length_cons, Nat.add_right_cancel_iff] at e; simp [kcells, kcells_push l us x u e]
  | [], _ :: _, _, _, e => by simp at e
  | _ :: _, [], _, _, e => by simp at e

/-- One knot more behind an own row. -/
theorem KOwnU.push {w w' : World} {B N : Nat} {v v' : Value} {l : List KnotM} {us : List Value} {x : KnotM} {u : Value} (h : KOwnU w B v l us) (ho : w.ownsRow B 2 1 u x.2.length (ints x.2))
    (hN : ∀ y ∈ us, ∀ b, y.ownBlock = some b → b < N) (hu : ∀ b, u.ownBlock = some b → N ≤ b) (hg : w.grownBy w' v.ownBlock)
    (hr : w'.ownsRow B 98 2 v' (l.length + 1) (kcells l us ++ [.string x.1, u])) : KOwnU w' B v' (l ++ [x]) (us ++ [u]) := by
  have hne : 2 ≠ 98 := by decide
  have hG : GrownL w w' [v] := .grown hg (by simp)
  have hkeep : ∀ {n : Nat} {y : Value} {z : List Value}, w.ownsRow B 2 1 y n z → w'.ownsRow B 2 1 y n z := fun hy => own_keptL hy hG fun t ht => by
    rw [List.mem_singleton.1 ht]; exact apart_types hy h.2.1 hne
  have hrows : ∀ j (h1 : j < (l ++ [x]).length) (h2 : j < (us ++ [u]).length), w'.ownsRow B 2 1 (us ++ [u])[j] (l ++ [x])[j].2.length (ints (l ++ [x])[j].2) := fun j h1 h2 => by
    by_cases hj : j < l.length
    · have hju : j < us.length := by rw [h.1]; exact hj
      rw [List.getElem_append_left hju, List.getElem_append_left hj]
      exact hkeep (h.2.2.1 j hj hju)
    · have : j = l.length := by simp at h1; omega
      subst this
      have e1 : (us ++ [u])[l.length] = u := by rw [List.getElem_append_right (by rw [h.1]; exact Nat.le_refl _)]; simp [h.1]
      have e2 : (l ++ [x])[l.length] = x := by simp
      rw [e1, e2]
      exact hkeep ho
  have hrow2 : w'.ownsRow B 98 2 v' (l ++ [x]).length (kcells (l ++ [x]) (us ++ [u])) := by
    rw [← kcells_push l us x u h.1, List.length_append]; exact hr
  refine ⟨by simp [h.1], hrow2, hrows, ?_⟩
  rw [List.pairwise_cons]
  refine ⟨fun y hy => ?_, ?_⟩
  · obtain ⟨j, hj, rfl⟩ := List.mem_iff_getElem.1 hy
    exact apart_types hrow2 (hrows j (by simp at hj ⊢; have := h.1; omega) hj) (Ne.symm hne)
  · rw [List.pairwise_append]
    refine ⟨(List.pairwise_cons.1 h.2.2.2).2, List.pairwise_singleton _ _, fun y hy z hz => ?_⟩
    rw [List.mem_singleton.1 hz]
    cases e : y.ownBlock with
    | none => exact .inl e
    | some b => exact .inr (fun e2 => by have h1 := hN y hy b e; have h2 := hu b (by rw [← e2, e]); omega)

set_option maxRecDepth 100000 in
set_option maxHeartbeats 800000 in
theorem specCopyT_any (v : Value) (l : List KnotM) (w : World) (hl : l.length ≤ 1048576) (hs : ∀ x ∈ l, x.2.length ≤ 1048576) (hv : KnotsAt w v l) :
    Calls Tryz.prog 71 #[v] w fun e w' => ∃ u, e = .returned u ∧ KOwn w' w.heap.size u l ∧ Below w.heap.size w w' := by
  obtain ⟨a, c, rfl, hc1, hc2, hc3⟩ := hv
  have HC := Lib.hid hc3
  have HS := Lib.hid hs
  clear hc3 hs
  go_enter Tryz.func71, Tryz.ntmps71
  go_wp2
  have HZ : Hid (KOwn (w.alloc (.cells #[] 98)) w.heap.size (.slice (some ⟨w.heap.size, 0, none⟩) 0 0) []) := Lib.hid
    ⟨[], rfl, World.ownsRow_lit (base := w.heap.size) (e := 98) (size := 2) w #[] 0 (Nat.le_refl _) (by unfold maxLen; omega) rfl, fun j h => by simp at h, List.pairwise_singleton _ _⟩
  obtain ⟨i0, hi, hz0, hz1, hz2⟩ := info_parts (P := Tryz.prog) (e := 98) (z := .agg #[.string knotZ.1, .slice none 0 0]) (size := 2) (bytes := 40) (by kernel_rfl)
  go_loopw [3, 4] (fun out i wr => ∃ k : Nat, k ≤ l.length ∧ i = .int .i64 k ∧ Hid (KOwn wr w.heap.size out (l.take k)) ∧ Hid (Below w.heap.size w wr)) (fun _ i _ => l.length - (intOf i).toNat)
  case atStart => exact ⟨0, Nat.zero_le _, rfl, HZ, (Below.refl _ _).alloc (Nat.le_refl _) _⟩
  case round =>
    obtain ⟨k, hk, rfl, HO, HB⟩ := hrel
    by_cases hlt : k < l.length
    · obtain ⟨b, o, rfl, hin⟩ : ∃ b o, a = some ⟨b, o, none⟩ ∧ KnotsIn w b o l := by
        rcases HC.out with h | h
        · subst h; simp at hlt
        · exact h
      have hbw : b < w.heap.size := World.block_lt_of_cell? _ _ (hin k hlt).1
      obtain ⟨hp, u0, hu0, hids⟩ := (hin.below HB.out) k hlt
      obtain ⟨us, hus⟩ := HO.out
      have HU := Lib.hid hus
      have hx4 : l[k].2.length ≤ 4000000 := by have := HS.out _ (List.getElem_mem hlt); omega
      have CP := Lib.hid (fun wx (h : IntsAt wx u0 l[k].2) => specCopy_any u0 l[k].2 wx hx4 h)
      have HI := Lib.hid hids
      obtain ⟨ua, uc, rfl, _, _, _⟩ := hids
      have HT := Lib.hid (List.take_succ_eq_append_getElem hlt)
      have htk : (l.take k).length = k := by rw [List.length_take]; omega
      obtain ⟨x, hx⟩ : ∃ x, l[k] = x := ⟨_, rfl⟩
      rw [hx] at hp hu0 CP HI HT
      clear hin hus hx HO hx4
      go_wp2_with fail
      refine wp_region_held_drew (S := fun wx => wx.cell? ⟨b, o + k * 2, none⟩ = some (.string x.1) ∧ wx.cell? ⟨b, o + k * 2 + 1, none⟩ = some (.slice ua x.2.length uc) ∧ Hid (Below w.heap.size w wx)) (by kernel_rfl) ?_ (fun hHeld => ?_)
      · exact ⟨hp, hu0, Lib.hid HB.out.drew⟩
      change wpAnyH _ _ _ _ _ 16 #[false, false, false, false, false, false, false, false, false, false, false, false, false, false, false, false] _ _
      clear hp hu0
      refine wpAnyH_take (i := 0) (v := ?_) rfl (by kernel_rfl) (by kernel_rfl) (by kernel_rfl) (fun _ _ _ h => h) (Or.inl ⟨by rfl, ?_⟩) (by assumption) ?_
      rotate_left
      · intro w hSw; (try dsimp only at hSw); go_simp; try with_reducible rfl
      try simp only [Act.put, List.getElem_toArray, List.getElem_cons_succ, List.getElem_cons_zero, List.setIfInBounds_toArray, List.set_cons_zero, List.set_cons_succ]
      refine wpAnyH_take (i := 1) (v := ?_) rfl (by kernel_rfl) (by kernel_rfl) (by kernel_rfl) (fun _ _ _ h => h) (Or.inl ⟨by rfl, ?_⟩) (by assumption) ?_
      rotate_left
      · intro w hSw; (try dsimp only at hSw); go_simp; try with_reducible rfl
      try simp only [Act.put, List.getElem_toArray, List.getElem_cons_succ, List.getElem_cons_zero, List.setIfInBounds_toArray, List.set_cons_zero, List.set_cons_succ]
      refine wpAnyH_take (i := 2) (v := ?_) rfl (by kernel_rfl) (by kernel_rfl) (by kernel_rfl) (fun _ _ _ h => h) (Or.inl ⟨by rfl, ?_⟩) (by assumption) ?_
      rotate_left
      · intro w hSw; (try dsimp only at hSw); go_simp; try with_reducible rfl
      try simp only [Act.put, List.getElem_toArray, List.getElem_cons_succ, List.getElem_cons_zero, List.setIfInBounds_toArray, List.set_cons_zero, List.set_cons_succ]
      refine wpAnyH_take (i := 3) (v := ?_) rfl (by kernel_rfl) (by kernel_rfl) (by kernel_rfl) (fun _ _ _ h => h) (Or.inl ⟨by rfl, ?_⟩) (by assumption) ?_
      rotate_left
      · intro w hSw; (try dsimp only at hSw); go_simp; try with_reducible rfl
      try simp only [Act.put, List.getElem_toArray, List.getElem_cons_succ, List.getElem_cons_zero, List.setIfInBounds_toArray, List.set_cons_zero, List.set_cons_succ]
      refine wpAnyH_take (i := 4) (v := ?_) rfl (by kernel_rfl) (by kernel_rfl) (by kernel_rfl) (fun _ _ _ h => h) (Or.inl ⟨by rfl, ?_⟩) (by assumption) ?_
      rotate_left
      · intro w hSw; (try dsimp only at hSw); go_simp; try with_reducible rfl
      try simp only [Act.put, List.getElem_toArray, List.getElem_cons_succ, List.getElem_cons_zero, List.setIfInBounds_toArray, List.set_cons_zero, List.set_cons_succ]
      refine wpAnyH_take (i := 5) (v := ?_) rfl (by kernel_rfl) (by kernel_rfl) (by kernel_rfl) (fun _ _ _ h => h) (Or.inl ⟨by rfl, ?_⟩) (by assumption) ?_
      rotate_left
      · intro w hSw; (try dsimp only at hSw); go_simp; try with_reducible rfl
      try simp only [Act.put, List.getElem_toArray, List.getElem_cons_succ, List.getElem_cons_zero, List.setIfInBounds_toArray, List.set_cons_zero, List.set_cons_succ]
      refine wpAnyH_take (i := 6) (v := ?_) rfl (by kernel_rfl) (by kernel_rfl) (by kernel_rfl) (fun _ _ _ h => h) (Or.inl ⟨by rfl, ?_⟩) (by assumption) ?_
      rotate_left
      · intro w hSw; (try dsimp only at hSw); go_simp; try with_reducible rfl
      try simp only [Act.put, List.getElem_toArray, List.getElem_cons_succ, List.getElem_cons_zero, List.setIfInBounds_toArray, List.set_cons_zero, List.set_cons_succ]
      refine wpAnyH_take (i := 7) (v := ?_) rfl (by kernel_rfl) (by kernel_rfl) (by kernel_rfl) (fun _ _ _ h => h) (Or.inl ⟨by rfl, ?_⟩) (by assumption) ?_
      rotate_left
      · intro w hSw; (try dsimp only at hSw); go_simp; try with_reducible rfl
      try simp only [Act.put, List.getElem_toArray, List.getElem_cons_succ, List.getElem_cons_zero, List.setIfInBounds_toArray, List.set_cons_zero, List.set_cons_succ]
      refine wpAnyH_take (i := 8) (v := ?_) rfl (by kernel_rfl) (by kernel_rfl) (by kernel_rfl) (fun _ _ _ h => h) (Or.inl ⟨by rfl, ?_⟩) (by assumption) ?_
      rotate_left
      · intro w hSw; (try dsimp only at hSw); go_simp; try with_reducible rfl
      try simp only [Act.put, List.getElem_toArray, List.getElem_cons_succ, List.getElem_cons_zero, List.setIfInBounds_toArray, List.set_cons_zero, List.set_cons_succ]
      refine wpAnyH_take (i := 9) (v := ?_) rfl (by kernel_rfl) (by kernel_rfl) (by kernel_rfl) (fun _ _ _ h => h) (Or.inl ⟨by rfl, ?_⟩) (by assumption) ?_
      rotate_left
      · intro w hSw; (try dsimp only at hSw); go_simp; try with_reducible rfl
      try simp only [Act.put, List.getElem_toArray, List.getElem_cons_succ, List.getElem_cons_zero, List.setIfInBounds_toArray, List.set_cons_zero, List.set_cons_succ]
      refine wpAnyH_take (i := 10) (v := ?_) rfl (by kernel_rfl) (by kernel_rfl) (by kernel_rfl) (fun _ _ _ h => h) (Or.inl ⟨by rfl, ?_⟩) (by assumption) ?_
      rotate_left
      · intro w hSw; (try dsimp only at hSw); go_simp; try with_reducible rfl
      try simp only [Act.put, List.getElem_toArray, List.getElem_cons_succ, List.getElem_cons_zero, List.setIfInBounds_toArray, List.set_cons_zero, List.set_cons_succ]
      refine wpAnyH_ready (rs := [11]) (by kernel_rfl) (by simp) (AllReadyH.cons rfl (fun K hK => ?_) AllReadyH.nil)
      rw [if_pos (by rfl)]
      go_simp; go_at_call 111; refine (CP.out _ (HI.out.below (Below.refl _ _).drew)).mono ?_; rintro e w1 ⟨u, rfl, ho, hb⟩; obtain ⟨xa, xc, hxu⟩ := own_slice ho; subst hxu; go_wp2_with fail
      refine hK.out _ _ ?_ (fun hHeld => ?_)
      · exact ⟨(below_cell hb (World.block_lt_of_cell? _ _ hHeld.1)).trans hHeld.1, (below_cell hb (World.block_lt_of_cell? _ _ hHeld.2.1)).trans hHeld.2.1, Lib.hid (hHeld.2.2.out.trans (hb.mono (show w.heap.size ≤ wr.drew.heap.size from HB.out.size)))⟩
      clear hK K
      try simp only [Act.put, List.getElem_toArray, List.getElem_cons_succ, List.getElem_cons_zero, List.setIfInBounds_toArray, List.set_cons_zero, List.set_cons_succ]
      have hW1 : Below wr.heap.size wr w1 := (Below.refl wr.heap.size wr).drew.trans hb
      have hws : w.heap.size ≤ wr.heap.size := HB.out.size
      have hU1 := HU.out.below hW1
      have HO1 := Lib.hid (own_mono ho (show w.heap.size ≤ wr.drew.heap.size from hws))
      have HN := Lib.hid (fun y (hy : y ∈ us) b (hb : y.ownBlock = some b) => (HU.out.lt y (List.mem_cons_of_mem _ hy) b hb).2)
      have HL := Lib.hid (fun b (hb : (Value.slice xa x.2.length xc).ownBlock = some b) => (show wr.heap.size ≤ b from (ho.lt b hb).1))
      have hws1 : w.heap.size ≤ w1.heap.size := Nat.le_trans hws hW1.size
      have HW := Lib.hid (HB.out.trans (hW1.mono hws))
      have hA : Below w1.heap.size w1 (w1.alloc (.cells #[.string x.1, .slice xa x.2.length xc] 98)) := (Below.refl _ _).alloc (Nat.le_refl _) _
      have hU2 := hU1.below hA
      have HU2 := Lib.hid hU2
      have HO2 := Lib.hid (row_below HO1.out hA)
      have hrow := hU2.2.1
      rw [htk] at hrow
      have HR := Lib.hid hrow
      have HW2 := Lib.hid (HW.out.trans (hA.mono hws1))
      have hnews : ∀ j u, [Value.string x.1, .slice xa x.2.length xc][j]? = some u → (w1.alloc (.cells #[.string x.1, .slice xa x.2.length xc] 98)).cell? ((⟨w1.heap.size, 0, none⟩ : Addr).add j) = some u := fun j u hj => by
        match j, hj with
        | 0, hj => cases hj; simp [Addr.add]
        | 1, hj => cases hj; simp [Addr.add]
      have HNW := Lib.hid hnews
      clear hU1 hU2 hrow hnews ho hb HO1 HU HI CP
      refine wpAnyH_take (i := 12) (v := ?_) rfl (by kernel_rfl) (by kernel_rfl) (by kernel_rfl) (fun _ _ _ h => h) (Or.inl ⟨by rfl, ?_⟩) (by assumption) ?_
      rotate_left
      · intro w hSw; (try dsimp only at hSw); go_simp; try with_reducible rfl
      try simp only [Act.put, List.getElem_toArray, List.getElem_cons_succ, List.getElem_cons_zero, List.setIfInBounds_toArray, List.set_cons_zero, List.set_cons_succ]
      refine wpAnyH_ready (rs := [13]) (by kernel_rfl) (by simp) (AllReadyH.cons rfl (fun K hK => ?_) AllReadyH.nil)
      rw [if_pos (by rfl)]
      go_simp
      refine hK.out _ _ ?_ (fun hHeld => ?_)
      · exact ⟨(below_cell hA (World.block_lt_of_cell? _ _ hHeld.1)).trans hHeld.1, (below_cell hA (World.block_lt_of_cell? _ _ hHeld.2.1)).trans hHeld.2.1, Lib.hid (hHeld.2.2.out.trans (hA.mono hws1))⟩
      clear hK K
      try simp only [Act.put, List.getElem_toArray, List.getElem_cons_succ, List.getElem_cons_zero, List.setIfInBounds_toArray, List.set_cons_zero, List.set_cons_succ]
      refine wpAnyH_ready (rs := [14]) (by kernel_rfl) (by simp) (AllReadyH.cons rfl (fun K hK => ?_) AllReadyH.nil)
      rw [if_pos (by rfl)]
      refine wp_append_own _ (.tmp 12) (.tmp 25) 32 rfl w.heap.size 98 i0 (.agg #[.string knotZ.1, .slice none 0 0]) 2 40 Tryz.underlying32 hi hz0 hz1 hz2 rfl (by decide) u3 k _ rfl HR.out ⟨w1.heap.size, 0, none⟩ 1 1 _ rfl rfl HNW.out (by intro u hu; simp at hu; rcases hu with rfl | rfl <;> rfl) (by unfold maxLen; omega) (by omega) (by simp; omega) ?_; intro v' w' hr hg _
      refine hK.out _ _ ?_ (fun hHeld => ?_)
      · have hG := (Below.refl w.heap.size _).grown hg (by simp; omega) (fun j h => (HR.out.lt j h).1); exact ⟨(below_cell hG hbw).trans hHeld.1, (below_cell hG hbw).trans hHeld.2.1, Lib.hid (hHeld.2.2.out.trans hG)⟩
      clear hK K
      try simp only [Act.put, List.getElem_toArray, List.getElem_cons_succ, List.getElem_cons_zero, List.setIfInBounds_toArray, List.set_cons_zero, List.set_cons_succ]
      refine wpAnyH_take (i := 15) (v := ?_) rfl (by kernel_rfl) (by kernel_rfl) (by kernel_rfl) (fun _ _ _ h => h) (Or.inl ⟨by rfl, ?_⟩) (by assumption) ?_
      rotate_left
      · intro w hSw; (try dsimp only at hSw); go_simp; try with_reducible rfl
      try simp only [Act.put, List.getElem_toArray, List.getElem_cons_succ, List.getElem_cons_zero, List.setIfInBounds_toArray, List.set_cons_zero, List.set_cons_succ]
      refine wpAnyH_done (by kernel_rfl) ?_ _
      have hP := HU2.out.push (x := x) HO2.out HN.out HL.out hg (by rw [htk]; exact hr)
      rw [← HT.out] at hP
      have HP := Lib.hid (show KOwn _ _ _ _ from ⟨_, hP⟩)
      have HB4 := Lib.hid hHeld.2.2.out
      clear hP hHeld hr hg HU2 HO2 HN HL HT HR HW HW2 HNW hA hW1 hws hws1
      go_wp2
      go_roundw
      case rel => exact ⟨k + 1, by omega, by go_num, HP, HB4⟩
      case measure => simp [intOf]; omega
    · obtain rfl : k = l.length := by omega
      have HE : Hid (KOwn wr w.heap.size u3 l) := Lib.hid (by have := HO.out; rw [List.take_length] at this; exact this)
      go_wp2
      go_ret
      exact ⟨_, rfl, HE.out, HB.out⟩

end Go.Proofs.YtmfbffhbgelnnaaGreatDoor
