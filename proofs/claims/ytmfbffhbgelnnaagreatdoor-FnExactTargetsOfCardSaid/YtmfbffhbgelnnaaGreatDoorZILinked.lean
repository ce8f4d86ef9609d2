/- The walk of impl.linked: the list of knots as a tree, or nothing where it is not right. -/
import Derived.Test.YtmfbffhbgelnnaaGreatDoorZB8
import Derived.Test.YtmfbffhbgelnnaaGreatDoorZILink2
import Derived.Test.YtmfbffhbgelnnaaGreatDoorZSTrie2
set_option linter.unusedSimpArgs false
set_option linter.unusedVariables false
namespace Go.Proofs.YtmfbffhbgelnnaaGreatDoor
open Go.RowKit

def rootM (b : Nat) : NodeM := ⟨[], [], b, .slice none 0 0, .slice none 0 0⟩

theorem root_tree (b : Nat) : TreeOk [rootM b] := by
  refine ⟨fun x hx hne => ?_, fun x hx p hp => ?_, List.pairwise_singleton _ _⟩
  · rw [List.mem_singleton.1 hx] at hne; exact absurd rfl hne
  · rw [List.mem_singleton.1 hx] at hp; cases hp

theorem root_nodes (w : World) : Nodes (w.alloc (.cells #[.string ⟨#[]⟩, .slice none 0 0, .slice none 0 0] 146)) w.heap.size [rootM w.heap.size] := by
  refine ⟨fun x hx => ?_, fun x hx => ?_, fun x hx => ?_, fun x hx y hy hne => ?_⟩
  · rw [List.mem_singleton.1 hx]; exact ⟨Nat.le_refl _, heap_alloc_new w _⟩
  · rw [List.mem_singleton.1 hx]; exact World.ownsRow_nil _ _ _ _
  · rw [List.mem_singleton.1 hx]; exact World.ownsRow_nil _ _ _ _
  · rw [List.mem_singleton.1 hx, List.mem_singleton.1 hy] at hne; exact absurd rfl hne

/-- What the loop knows of the first k knots. -/
def fineTo (l : List KnotM) (k : Nat) : Prop := ∀ j (h : j < l.length), 1 ≤ j → j < k → less (l[j - 1]'(by omega)).1.toList l[j].1.toList = true ∧ filterP (parts l[j].1 47) = true ∧ rises l[j].2 = true

theorem fine_lt {l : List KnotM} {k : Nat} (h : fineTo l k) : ∀ (d i : Nat) (hj : i + d + 1 < l.length), i + d + 1 < k → less (l[i]'(by omega)).1.toList l[i + d + 1].1.toList = true
  | 0, i, hj, hk => (h (i + 1) hj (by omega) hk).1
  | d + 1, i, hj, hk => less_trans (fine_lt h d i (by omega) (by omega)) (h (i + (d + 1) + 1) hj (by omega) hk).1

theorem fine_all {l : List KnotM} {T : List NodeM} {k : Nat} (hk : k < l.length) (h1 : 1 ≤ k) (h : fineTo l k) (hT : T.map keyOf = (l.take k).map keyK) (hl : less (l[k - 1]'(by omega)).1.toList l[k].1.toList = true) :
    ∀ y ∈ T, less (jl y.path) l[k].1.data.toList = true := by
  intro y hy
  obtain ⟨x, hx, hxp, _⟩ := key_mem' hT hy
  rw [hxp, jl_pth, ← list_toList, ← list_toList]
  obtain ⟨i, hi, rfl⟩ := List.mem_take_iff_getElem.1 hx
  rcases Nat.lt_or_ge i (k - 1) with h2 | h2
  · have := fine_lt h (k - 1 - i - 1) i (by omega) (by omega)
    have e : i + (k - 1 - i - 1) + 1 = k - 1 := by omega
    simp only [e] at this
    exact less_trans this hl
  · have e : i = k - 1 := by omega
    subst e
    exact hl

theorem fine_next {l : List KnotM} {k : Nat} {T : List NodeM} (hk : k < l.length) (h : fineTo l k) (hl : 1 ≤ k → less (l[k - 1]'(by omega)).1.toList l[k].1.toList = true) (hb : linkB T l[k].1 l[k].2 = true) : fineTo l (k + 1) := by
  intro j hj h1 hjk
  rcases Nat.lt_or_ge j k with h2 | h2
  · exact h j hj h1 h2
  · obtain rfl : j = k := by omega
    rw [linkB, Bool.and_eq_true, Bool.and_eq_true] at hb
    exact ⟨hl h1, hb.1, hb.2.1⟩

theorem key_next {l : List KnotM} {k : Nat} {T T' : List NodeM} (hk : k < l.length) (h : T.map keyOf = (l.take k).map keyK) (h2 : T'.map (fun y => (y.path, y.ids)) = T.map (fun y => (y.path, y.ids)) ++ [(pth l[k].1, l[k].2)]) : T'.map keyOf = (l.take (k + 1)).map keyK := by
  rw [List.take_succ_eq_append_getElem hk, List.map_append]
  show T'.map (fun y => (y.path, y.ids)) = _
  rw [h2]
  rw [← h]; rfl

/-- What 'linked' answers. -/
def LinkedAt (l : List KnotM) (w : World) (e : Ending) (w' : World) : Prop :=
  (trieB l = false ∧ e = .returned (.pointer none)) ∨ (trieB l = true ∧ ∃ T x, e = .returned (.pointer (some ⟨x.ptr, 0, none⟩)) ∧ x ∈ T ∧ x.path = [] ∧ TreeOk T ∧ Nodes w' w.heap.size T ∧ T.map keyOf = l.map keyK)

theorem deep {l : List KnotM} {T : List NodeM} (hk : T.map keyOf = l.map keyK) (h0 : headOk l = true) (h : fineTo l l.length) : ∀ y ∈ T, y.path.length ≤ 6 := by
  intro y hy
  obtain ⟨x, hx, hxp, _⟩ := key_mem' hk hy
  obtain ⟨j, hj, rfl⟩ := List.mem_iff_getElem.1 hx
  rw [hxp]
  by_cases h1 : 1 ≤ j
  · exact pth_len (h j hj h1 hj).2.1
  · obtain rfl : j = 0 := by omega
    cases l with
    | nil => simp at hj
    | cons a l =>
      rw [headOk, Bool.and_eq_true, beq_iff_eq, list_toList] at h0
      simp [pth, h0.1]

set_option maxRecDepth 100000 in
set_option maxHeartbeats 3200000 in
theorem linked_any (v : Value) (l : List KnotM) (m : Int) (w : World) (hl : KSmall l) (hv : KnotsAt w v l) (hm : w.cell? ⟨0, 0, none⟩ = some (.int .i64 m)) :
    Calls Tryz.prog 97 #[v] w fun e w' => LinkedAt l w e w' ∧ Below w.heap.size w w' := by
  obtain ⟨a, c, rfl, hc1, hc2, hc3⟩ := hv
  have HC := Lib.hid hc3
  have HS := Lib.hid hl.2
  have hlen := hl.1
  clear hc3 hl
  by_cases h0 : l.length = 0
  · have e0 : l = [] := List.length_eq_zero_iff.1 h0
    subst e0
    go_enter Tryz.func97, Tryz.ntmps97
    go_wp2
    go_ret
    exact ⟨.inl ⟨rfl, rfl⟩, Below.refl _ _⟩
  obtain ⟨b, o, rfl, hin⟩ : ∃ b o, a = some ⟨b, o, none⟩ ∧ KnotsIn w b o l := by
    rcases HC.out with h | h
    · subst h; simp at h0
    · exact h
  have hpos : 0 < l.length := by omega
  have hp0 := (hin 0 hpos).1
  obtain ⟨u0, hu0, hi0⟩ := (hin 0 hpos).2
  obtain ⟨a0, c0, rfl, _, _, _⟩ := hi0
  rw [Nat.zero_mul, Nat.add_zero] at hp0 hu0
  have HIN := Lib.hid hin
  have hz : ((l.length : Int) == 0) = false := by rw [beq_eq_false_iff_ne]; omega
  have hhd : headOk l = (l[0].1.toList == [] && l[0].2.isEmpty) := by
    cases l with
    | nil => simp at hpos
    | cons x l => rfl
  have hno : headOk l = false → trieB l = false := fun h => by rw [trieB, h]; rfl
  clear hin HC
  cases hP : (l[0].1.toList == [])
  · have HE : Hid (trieB l = false) := Lib.hid (hno (by rw [hhd, hP]; rfl))
    have hP2 : l[0].1.toList.isEmpty = false := by cases e : l[0].1.toList <;> simp_all
    obtain ⟨q, hq⟩ : ∃ q, l[0].1 = q := ⟨_, rfl⟩
    rw [hq] at hp0 hP2
    clear hhd hP hq hno
    go_enter Tryz.func97, Tryz.ntmps97
    go_wp2
    go_ret
    exact ⟨.inl ⟨HE.out, rfl⟩, Below.refl _ _⟩
  have hP2 : l[0].1.toList.isEmpty = true := by cases e : l[0].1.toList <;> simp_all
  have hpq : l[0].1.data.toList = [] := by rw [← list_toList]; simpa using hP
  by_cases hI : l[0].2.length = 0
  · have HHD : Hid (headOk l = true) := Lib.hid (by rw [hhd, hP, List.length_eq_zero_iff.1 hI]; rfl)
    have HK0 : Hid ([rootM w.heap.size].map keyOf = (l.take 1).map keyK) := Lib.hid (by
      rw [show l.take 1 = [l[0]] by cases l with | nil => simp at hpos | cons a l => rfl, List.map_singleton, List.map_singleton, keyOf, keyK, List.length_eq_zero_iff.1 hI, pth, if_pos hpq]; rfl)
    have hI2 : decide (0 < l[0].2.length) = false := decide_eq_false (by omega)
    have hI3 : decide ((0 : Int) < (l[0].2.length : Int)) = false := decide_eq_false (by omega)
    have HR := Lib.hid (root_nodes w)
    obtain ⟨q, hq⟩ : ∃ q, l[0].1 = q := ⟨_, rfl⟩
    obtain ⟨n0, hn0⟩ : ∃ n, l[0].2.length = n := ⟨_, rfl⟩
    rw [hq] at hp0 hP2
    rw [hn0] at hu0 hI2 hI3
    clear hhd hP hq hn0 hI hno hpq
    by_cases h1 : l.length = 1
    · have HT1 : Hid (trieB l = true) := Lib.hid (by
        rw [trie_of_tree (root_tree w.heap.size) (by rw [HK0.out, List.take_of_length_le (by omega)]) HHD.out (fun j h h2 => by omega)]; rfl)
      have HH := Lib.hid (hasE_any [rootM w.heap.size] _ _ HR (by simp) 6 (rootM w.heap.size) (by simp) (fun y hy _ => by rw [List.mem_singleton.1 hy]; exact Nat.zero_le _))
      have HKF := Lib.hid (show [rootM w.heap.size].map keyOf = l.map keyK by rw [HK0.out, List.take_of_length_le (by omega)])
      rw [show hasE [rootM w.heap.size] 6 (rootM w.heap.size).path = false from rfl] at HH
      clear hz
      have hcx : 1 ≤ c := by omega
      by_cases hcc : c = 1
      all_goals
        go_enter Tryz.func97, Tryz.ntmps97
        go_wp2
        go_loopw [29] (fun i wr => i = .int .i64 0 ∧ wr = w.alloc (.cells #[.string ⟨#[]⟩, .slice none 0 0, .slice none 0 0] 146)) (fun _ _ => 0)
        case atStart => exact ⟨rfl, rfl⟩
        case round =>
          obtain ⟨rfl, rfl⟩ := hrel
          go_wp2_with (go_at_call 123; refine HH.out.mono ?_; rintro e w' ⟨rfl, rfl⟩)
          go_ret
          exact ⟨.inr ⟨HT1.out, _, rootM w.heap.size, rfl, by simp, rfl, root_tree _, HR.out, HKF.out⟩, (Below.refl _ _).alloc (Nat.le_refl _) _⟩
    · have hc2' : 2 ≤ c := by omega
      have hcc : ¬ c = 1 := by omega
      have hl2 : 2 ≤ l.length := by omega
      go_enter Tryz.func97, Tryz.ntmps97
      go_wp2
      go_loopw [29] (fun i wr => ∃ (k : Nat) (T : List NodeM) (x : NodeM), k + 1 ≤ l.length ∧ i = .int .i64 k ∧ Hid (TreeOk T ∧ Nodes wr w.heap.size T ∧ T.map keyOf = (l.take (k + 1)).map keyK ∧ x ∈ T ∧ x.path = [] ∧ x.ptr = w.heap.size ∧ fineTo l (k + 1)) ∧
        Hid (Below w.heap.size w wr)) (fun i _ => l.length - (intOf i).toNat)
      case atStart => exact ⟨0, [rootM w.heap.size], rootM w.heap.size, hpos, rfl, Lib.hid ⟨root_tree _, HR.out, HK0.out, by simp, rfl, rfl, fun j h h2 h3 => by omega⟩, Lib.hid ((Below.refl _ _).alloc (Nat.le_refl _) _)⟩
      case round =>
        obtain ⟨k, T, x, hk, rfl, HI, HB⟩ := hrel
        by_cases hlt : k + 1 < l.length
        · have hinr := HIN.out.below HB.out
          have hp := (hinr (k + 1) hlt).1
          obtain ⟨u, hu, hids⟩ := (hinr (k + 1) hlt).2
          have hq := (hinr k (by omega)).1
          rw [show o + (k + 1) * 2 = o + 2 + k * 2 by omega] at hp hu
          have hsz := HS.out _ (List.getElem_mem hlt)
          have hb0 : b < wr.heap.size := World.block_lt_of_cell? _ _ hq
          have hbw : b < w.heap.size := World.block_lt_of_cell? _ _ (HIN.out k (by omega)).1
          have HNL := Lib.hid (fun (h : less (l[k + 1 - 1]'(by omega)).1.toList l[k + 1].1.toList = false) => trie_no_less (l := l) (k := k + 1) hlt (by omega) h)
          have HNK := Lib.hid (fun (h : linkB T l[k + 1].1 l[k + 1].2 = false) => trie_no_link (l := l) (T := T) (k := k + 1) hlt (by omega) HI.out.2.2.1 h)
          have HFA := Lib.hid (fun (h : less (l[k + 1 - 1]'(by omega)).1.toList l[k + 1].1.toList = true) => fine_all (l := l) (T := T) (k := k + 1) hlt (by omega) HI.out.2.2.2.2.2.2 HI.out.2.2.1 h)
          have HFN := Lib.hid (fun (h : less (l[k]'(by omega)).1.toList l[k + 1].1.toList = true) (h2 : linkB T l[k + 1].1 l[k + 1].2 = true) => fine_next (l := l) (T := T) (k := k + 1) hlt HI.out.2.2.2.2.2.2 (fun _ => h) h2)
          have HKN := Lib.hid (fun (T' : List NodeM) (h : T'.map (fun y => (y.path, y.ids)) = T.map (fun y => (y.path, y.ids)) ++ [(pth l[k + 1].1, l[k + 1].2)]) => key_next (l := l) (T := T) (T' := T') (k := k + 1) hlt HI.out.2.2.1 h)
          have hTl : T.length ≤ 4000000 := by
            have := congrArg List.length HI.out.2.2.1
            rw [List.length_map, List.length_map, List.length_take] at this
            omega
          obtain ⟨p, ids, hx⟩ : ∃ p ids, l[k + 1] = (p, ids) := ⟨_, _, rfl⟩
          obtain ⟨q', hq2⟩ : ∃ q, (l[k]'(by omega)).1 = q := ⟨_, rfl⟩
          simp only [Nat.add_sub_cancel] at HNL HFA
          rw [hx] at hp hids HNL HNK HFA HFN HKN hsz
          rw [hq2] at hq HNL HFA HFN
          have hid2 := hids
          obtain ⟨au, cu, rfl, _, _, _⟩ := hid2
          have HIDS := Lib.hid hids
          clear hx hq2 hids hinr
          have hle0 := leB_less p q'
          unfold leB at hle0
          obtain ⟨lb, hlb⟩ : ∃ x, less q'.toList p.toList = x := ⟨_, rfl⟩
          rw [hlb] at hle0 HNL HFA HFN
          have hle : (Op.bytesLess p.toList q'.toList || p.toList == q'.toList) = !lb := hle0
          clear hle0 hlb
          have hkl : k < l.length := by omega
          go_wp2_with fail
          have HHG : Hid ((wr.alloc (.cells #[.string p, .slice au ids.length cu] 98)).heap[wr.heap.size]? = some (.cells #[.string p, .slice au ids.length cu] 98 (0, 0))) := Lib.hid (heap_alloc_new wr _)
          have hAl : Below wr.heap.size wr (wr.alloc (.cells #[.string p, .slice au ids.length cu] 98)) := (Below.refl _ _).alloc (Nat.le_refl _) _
          have hq1 := (hAl.cell hb0).trans hq
          have HND := Lib.hid ((HI.out.2.1.below hAl).below (Below.refl _ _).drew)
          have HID1 := Lib.hid ((HIDS.out.below hAl).below (Below.refl _ _).drew)
          have HB1 := Lib.hid ((HB.out.trans (hAl.mono HB.out.size)).drew)
          have HTT := Lib.hid HI.out.1
          have HXX := Lib.hid HI.out.2.2.2.1
          have HX0 := Lib.hid HI.out.2.2.2.2.1
          have hxp := HI.out.2.2.2.2.2.1
          have HM := Lib.hid ((HB1.out.cell (World.block_lt_of_cell? _ _ hm)).trans hm)
          have hbs := HB1.out.size
          generalize (wr.alloc (.cells #[.string p, .slice au ids.length cu] 98)) = w1 at HHG hq1 HND HID1 HB1 HM hbs ⊢
          obtain ⟨G, hG⟩ : ∃ G, wr.heap.size = G := ⟨_, rfl⟩
          rw [hG] at HHG ⊢
          clear hAl hp hu hq HI HB HIDS hG hb0
          refine wp_region_held_drew (S := fun wx => wx.cell? ⟨G, 0, none⟩ = some (.string p) ∧ wx.cell? ⟨G, 1, none⟩ = some (.slice au ids.length cu) ∧ wx.cell? ⟨b, o + k * 2, none⟩ = some (.string q') ∧ Hid (wx.heap[G]? = some (.cells #[.string p, .slice au ids.length cu] 98 (0, 0)))) (by kernel_rfl) ?_ (fun hHeld => ?_)
          · exact ⟨cell_of_heap (w := w1) HHG.out 0, cell_of_heap (w := w1) HHG.out 1, hq1, HHG⟩
          change wpAnyH _ _ _ _ _ 14 #[false, false, false, false, false, false, false, false, false, false, false, false, false, false] _ _
          clear hq1
          cases lb
          · have HNL2 := Lib.hid (HNL.out rfl)
            clear HNL HNK HFA HFN HKN
            refine wpAnyH_take (i := 0) (v := ?_) rfl (by kernel_rfl) (by kernel_rfl) (by kernel_rfl) (fun _ _ _ h => h) (Or.inl ⟨by rfl, ?_⟩) (by assumption) ?_
            rotate_left
            · intro w hSw; (try dsimp only at hSw); go_simp; try with_reducible rfl
            try simp only [Act.put, List.getElem_toArray, List.getElem_cons_succ, List.getElem_cons_zero, List.setIfInBounds_toArray, List.set_cons_zero, List.set_cons_succ]
            refine wpAnyH_take (i := 1) (v := ?_) rfl (by kernel_rfl) (by kernel_rfl) (by kernel_rfl) (fun _ _ _ h => h) (Or.inl ⟨by rfl, ?_⟩) (by assumption) ?_
            rotate_left
            · intro w hSw; (try dsimp only at hSw); go_simp; try with_reducible rfl
            try simp only [Act.put, List.getElem_toArray, List.getElem_cons_succ, List.getElem_cons_zero, List.setIfInBounds_toArray, List.set_cons_zero, List.set_cons_succ]
            refine wpAnyH_take (i := 2) (v := ?_) rfl (by kernel_rfl) (by kernel_rfl) (by kernel_rfl) (fun _ _ _ h => h) (Or.inl ⟨by rfl, ?_⟩) (by assumption) ?_
            rotate_left
            · intro w hSw; (try dsimp only at hSw); go_simp; try with_reducible rfl
            try simp only [Act.put, List.getElem_toArray, List.getElem_cons_succ, List.getElem_cons_zero, List.setIfInBounds_toArray, List.set_cons_zero, List.set_cons_succ]
            refine wpAnyH_take (i := 3) (v := ?_) rfl (by kernel_rfl) (by kernel_rfl) (by kernel_rfl) (fun _ _ _ h => h) (Or.inl ⟨by rfl, ?_⟩) (by assumption) ?_
            rotate_left
            · intro w hSw; (try dsimp only at hSw); go_simp; try with_reducible rfl
            try simp only [Act.put, List.getElem_toArray, List.getElem_cons_succ, List.getElem_cons_zero, List.setIfInBounds_toArray, List.set_cons_zero, List.set_cons_succ]
            refine wpAnyH_take (i := 4) (v := ?_) rfl (by kernel_rfl) (by kernel_rfl) (by kernel_rfl) (fun _ _ _ h => h) (Or.inl ⟨by rfl, ?_⟩) (by assumption) ?_
            rotate_left
            · intro w hSw; (try dsimp only at hSw); go_simp; try with_reducible rfl
            try simp only [Act.put, List.getElem_toArray, List.getElem_cons_succ, List.getElem_cons_zero, List.setIfInBounds_toArray, List.set_cons_zero, List.set_cons_succ]
            refine wpAnyH_take (i := 5) (v := ?_) rfl (by kernel_rfl) (by kernel_rfl) (by kernel_rfl) (fun _ _ _ h => h) (Or.inl ⟨by rfl, ?_⟩) (by assumption) ?_
            rotate_left
            · intro w hSw; (try dsimp only at hSw); go_simp; try with_reducible rfl
            try simp only [Act.put, List.getElem_toArray, List.getElem_cons_succ, List.getElem_cons_zero, List.setIfInBounds_toArray, List.set_cons_zero, List.set_cons_succ]
            refine wpAnyH_take (i := 6) (v := ?_) rfl (by kernel_rfl) (by kernel_rfl) (by kernel_rfl) (fun _ _ _ h => h) (Or.inl ⟨by rfl, ?_⟩) (by assumption) ?_
            rotate_left
            · intro w hSw; (try dsimp only at hSw); go_simp; try with_reducible rfl
            try simp only [Act.put, List.getElem_toArray, List.getElem_cons_succ, List.getElem_cons_zero, List.setIfInBounds_toArray, List.set_cons_zero, List.set_cons_succ]
            refine wpAnyH_take (i := 7) (v := ?_) rfl (by kernel_rfl) (by kernel_rfl) (by kernel_rfl) (fun _ _ _ h => h) (Or.inl ⟨by rfl, ?_⟩) (by assumption) ?_
            rotate_left
            · intro w hSw; (try dsimp only at hSw); go_simp; try with_reducible rfl
            try simp only [Act.put, List.getElem_toArray, List.getElem_cons_succ, List.getElem_cons_zero, List.setIfInBounds_toArray, List.set_cons_zero, List.set_cons_succ]
            refine wpAnyH_take (i := 8) (v := ?_) rfl (by kernel_rfl) (by kernel_rfl) (by kernel_rfl) (fun _ _ _ h => h) (Or.inl ⟨by rfl, ?_⟩) (by assumption) ?_
            rotate_left
            · intro w hSw; (try dsimp only at hSw); go_simp; try with_reducible rfl
            try simp only [Act.put, List.getElem_toArray, List.getElem_cons_succ, List.getElem_cons_zero, List.setIfInBounds_toArray, List.set_cons_zero, List.set_cons_succ]
            refine wpAnyH_take (i := 9) (v := undef) rfl (by kernel_rfl) (by kernel_rfl) (by kernel_rfl) (fun _ _ _ h => h) (Or.inr ⟨by rfl, rfl⟩) (by assumption) ?_
            try simp only [Act.put, List.getElem_toArray, List.getElem_cons_succ, List.getElem_cons_zero, List.setIfInBounds_toArray, List.set_cons_zero, List.set_cons_succ]
            refine wpAnyH_take (i := 10) (v := undef) rfl (by kernel_rfl) (by kernel_rfl) (by kernel_rfl) (fun _ _ _ h => h) (Or.inr ⟨by rfl, rfl⟩) (by assumption) ?_
            try simp only [Act.put, List.getElem_toArray, List.getElem_cons_succ, List.getElem_cons_zero, List.setIfInBounds_toArray, List.set_cons_zero, List.set_cons_succ]
            refine wpAnyH_take (i := 11) (v := undef) rfl (by kernel_rfl) (by kernel_rfl) (by kernel_rfl) (fun _ _ _ h => h) (Or.inr ⟨by rfl, rfl⟩) (by assumption) ?_
            try simp only [Act.put, List.getElem_toArray, List.getElem_cons_succ, List.getElem_cons_zero, List.setIfInBounds_toArray, List.set_cons_zero, List.set_cons_succ]
            refine wpAnyH_take (i := 12) (v := undef) rfl (by kernel_rfl) (by kernel_rfl) (by kernel_rfl) (fun _ _ _ h => h) (Or.inr ⟨by rfl, rfl⟩) (by assumption) ?_
            try simp only [Act.put, List.getElem_toArray, List.getElem_cons_succ, List.getElem_cons_zero, List.setIfInBounds_toArray, List.set_cons_zero, List.set_cons_succ]
            refine wpAnyH_take (i := 13) (v := ?_) rfl (by kernel_rfl) (by kernel_rfl) (by kernel_rfl) (fun _ _ _ h => h) (Or.inl ⟨by rfl, ?_⟩) (by assumption) ?_
            rotate_left
            · intro w hSw; (try dsimp only at hSw); go_simp; try with_reducible rfl
            try simp only [Act.put, List.getElem_toArray, List.getElem_cons_succ, List.getElem_cons_zero, List.setIfInBounds_toArray, List.set_cons_zero, List.set_cons_succ]
            refine wpAnyH_done (by kernel_rfl) ?_ _
            go_wp2
            go_ret
            exact ⟨.inl ⟨HNL2.out, rfl⟩, HB1.out⟩
          · have HFA2 := Lib.hid (HFA.out rfl)
            have HFN2 := Lib.hid (HFN.out rfl)
            clear HNL HFA HFN
            have hi4 : ids.length ≤ 4000000 := by have := hsz.2; omega
            have hp4 : p.size ≤ 1048576 := hsz.1
            cases hlk : linkB T p ids
            · have CL := Lib.hid (link_no T x p (.slice au ids.length cu) ids m w1.drew w.heap.size HND.out HTT.out HXX.out HX0.out hTl hp4 hi4 HID1.out HM.out hlk)
              rw [hxp] at CL
              have HE := Lib.hid (HNK.out hlk)
              clear HNK hlk HFA2 HFN2 HKN HND HID1 HTT HXX HX0 HM hsz hi4 hp4
              refine wpAnyH_take (i := 0) (v := ?_) rfl (by kernel_rfl) (by kernel_rfl) (by kernel_rfl) (fun _ _ _ h => h) (Or.inl ⟨by rfl, ?_⟩) (by assumption) ?_
              rotate_left
              · intro w hSw; (try dsimp only at hSw); go_simp; try with_reducible rfl
              try simp only [Act.put, List.getElem_toArray, List.getElem_cons_succ, List.getElem_cons_zero, List.setIfInBounds_toArray, List.set_cons_zero, List.set_cons_succ]
              refine wpAnyH_take (i := 1) (v := ?_) rfl (by kernel_rfl) (by kernel_rfl) (by kernel_rfl) (fun _ _ _ h => h) (Or.inl ⟨by rfl, ?_⟩) (by assumption) ?_
              rotate_left
              · intro w hSw; (try dsimp only at hSw); go_simp; try with_reducible rfl
              try simp only [Act.put, List.getElem_toArray, List.getElem_cons_succ, List.getElem_cons_zero, List.setIfInBounds_toArray, List.set_cons_zero, List.set_cons_succ]
              refine wpAnyH_take (i := 2) (v := ?_) rfl (by kernel_rfl) (by kernel_rfl) (by kernel_rfl) (fun _ _ _ h => h) (Or.inl ⟨by rfl, ?_⟩) (by assumption) ?_
              rotate_left
              · intro w hSw; (try dsimp only at hSw); go_simp; try with_reducible rfl
              try simp only [Act.put, List.getElem_toArray, List.getElem_cons_succ, List.getElem_cons_zero, List.setIfInBounds_toArray, List.set_cons_zero, List.set_cons_succ]
              refine wpAnyH_take (i := 3) (v := ?_) rfl (by kernel_rfl) (by kernel_rfl) (by kernel_rfl) (fun _ _ _ h => h) (Or.inl ⟨by rfl, ?_⟩) (by assumption) ?_
              rotate_left
              · intro w hSw; (try dsimp only at hSw); go_simp; try with_reducible rfl
              try simp only [Act.put, List.getElem_toArray, List.getElem_cons_succ, List.getElem_cons_zero, List.setIfInBounds_toArray, List.set_cons_zero, List.set_cons_succ]
              refine wpAnyH_take (i := 4) (v := ?_) rfl (by kernel_rfl) (by kernel_rfl) (by kernel_rfl) (fun _ _ _ h => h) (Or.inl ⟨by rfl, ?_⟩) (by assumption) ?_
              rotate_left
              · intro w hSw; (try dsimp only at hSw); go_simp; try with_reducible rfl
              try simp only [Act.put, List.getElem_toArray, List.getElem_cons_succ, List.getElem_cons_zero, List.setIfInBounds_toArray, List.set_cons_zero, List.set_cons_succ]
              refine wpAnyH_take (i := 5) (v := ?_) rfl (by kernel_rfl) (by kernel_rfl) (by kernel_rfl) (fun _ _ _ h => h) (Or.inl ⟨by rfl, ?_⟩) (by assumption) ?_
              rotate_left
              · intro w hSw; (try dsimp only at hSw); go_simp; try with_reducible rfl
              try simp only [Act.put, List.getElem_toArray, List.getElem_cons_succ, List.getElem_cons_zero, List.setIfInBounds_toArray, List.set_cons_zero, List.set_cons_succ]
              refine wpAnyH_take (i := 6) (v := ?_) rfl (by kernel_rfl) (by kernel_rfl) (by kernel_rfl) (fun _ _ _ h => h) (Or.inl ⟨by rfl, ?_⟩) (by assumption) ?_
              rotate_left
              · intro w hSw; (try dsimp only at hSw); go_simp; try with_reducible rfl
              try simp only [Act.put, List.getElem_toArray, List.getElem_cons_succ, List.getElem_cons_zero, List.setIfInBounds_toArray, List.set_cons_zero, List.set_cons_succ]
              refine wpAnyH_take (i := 7) (v := ?_) rfl (by kernel_rfl) (by kernel_rfl) (by kernel_rfl) (fun _ _ _ h => h) (Or.inl ⟨by rfl, ?_⟩) (by assumption) ?_
              rotate_left
              · intro w hSw; (try dsimp only at hSw); go_simp; try with_reducible rfl
              try simp only [Act.put, List.getElem_toArray, List.getElem_cons_succ, List.getElem_cons_zero, List.setIfInBounds_toArray, List.set_cons_zero, List.set_cons_succ]
              refine wpAnyH_take (i := 8) (v := ?_) rfl (by kernel_rfl) (by kernel_rfl) (by kernel_rfl) (fun _ _ _ h => h) (Or.inl ⟨by rfl, ?_⟩) (by assumption) ?_
              rotate_left
              · intro w hSw; (try dsimp only at hSw); go_simp; try with_reducible rfl
              try simp only [Act.put, List.getElem_toArray, List.getElem_cons_succ, List.getElem_cons_zero, List.setIfInBounds_toArray, List.set_cons_zero, List.set_cons_succ]
              refine wpAnyH_take (i := 9) (v := ?_) rfl (by kernel_rfl) (by kernel_rfl) (by kernel_rfl) (fun _ _ _ h => h) (Or.inl ⟨by rfl, ?_⟩) (by assumption) ?_
              rotate_left
              · intro w hSw; (try dsimp only at hSw); go_simp; try with_reducible rfl
              try simp only [Act.put, List.getElem_toArray, List.getElem_cons_succ, List.getElem_cons_zero, List.setIfInBounds_toArray, List.set_cons_zero, List.set_cons_succ]
              refine wpAnyH_take (i := 10) (v := ?_) rfl (by kernel_rfl) (by kernel_rfl) (by kernel_rfl) (fun _ _ _ h => h) (Or.inl ⟨by rfl, ?_⟩) (by assumption) ?_
              rotate_left
              · intro w hSw; (try dsimp only at hSw); go_simp; try with_reducible rfl
              try simp only [Act.put, List.getElem_toArray, List.getElem_cons_succ, List.getElem_cons_zero, List.setIfInBounds_toArray, List.set_cons_zero, List.set_cons_succ]
              refine wpAnyH_ready (rs := [11]) (by kernel_rfl) (by simp) (AllReadyH.cons rfl (fun K hK => ?_) AllReadyH.nil)
              rw [if_pos (by rfl)]
              go_simp; go_at_call 122; refine CL.out.mono ?_; rintro e w2 ⟨rfl, hb2⟩; go_wp2_with fail
              refine hK.out _ _ ?_ (fun hHeld => ?_)
              · have hg2 := (hb2.block G (Array.getElem?_eq_some_iff.1 hHeld.2.2.2.out).1).trans hHeld.2.2.2.out; exact ⟨cell_of_heap hg2 0, cell_of_heap hg2 1, (hb2.cell (World.block_lt_of_cell? _ _ hHeld.2.2.1)).trans hHeld.2.2.1, Lib.hid hg2⟩
              clear hK K
              try simp only [Act.put, List.getElem_toArray, List.getElem_cons_succ, List.getElem_cons_zero, List.setIfInBounds_toArray, List.set_cons_zero, List.set_cons_succ]
              refine wpAnyH_take (i := 12) (v := ?_) rfl (by kernel_rfl) (by kernel_rfl) (by kernel_rfl) (fun _ _ _ h => h) (Or.inl ⟨by rfl, ?_⟩) (by assumption) ?_
              rotate_left
              · intro w hSw; (try dsimp only at hSw); go_simp; try with_reducible rfl
              try simp only [Act.put, List.getElem_toArray, List.getElem_cons_succ, List.getElem_cons_zero, List.setIfInBounds_toArray, List.set_cons_zero, List.set_cons_succ]
              refine wpAnyH_take (i := 13) (v := ?_) rfl (by kernel_rfl) (by kernel_rfl) (by kernel_rfl) (fun _ _ _ h => h) (Or.inl ⟨by rfl, ?_⟩) (by assumption) ?_
              rotate_left
              · intro w hSw; (try dsimp only at hSw); go_simp; try with_reducible rfl
              try simp only [Act.put, List.getElem_toArray, List.getElem_cons_succ, List.getElem_cons_zero, List.setIfInBounds_toArray, List.set_cons_zero, List.set_cons_succ]
              refine wpAnyH_done (by kernel_rfl) ?_ _
              go_wp2
              go_ret
              exact ⟨.inl ⟨HE.out, rfl⟩, HB1.out.trans (hb2.mono hbs)⟩
            · have CL := Lib.hid (link_yes T x p (.slice au ids.length cu) ids m w1.drew w.heap.size HND.out HTT.out HXX.out HX0.out hTl hp4 hi4 HID1.out HM.out hbs hlk HFA2.out)
              rw [hxp] at CL
              have HFN3 := Lib.hid (HFN2.out hlk)
              clear HNK hlk HFA2 HFN2 HND HID1 HTT HXX HX0 HM hsz hi4 hp4
              refine wpAnyH_take (i := 0) (v := ?_) rfl (by kernel_rfl) (by kernel_rfl) (by kernel_rfl) (fun _ _ _ h => h) (Or.inl ⟨by rfl, ?_⟩) (by assumption) ?_
              rotate_left
              · intro w hSw; (try dsimp only at hSw); go_simp; try with_reducible rfl
              try simp only [Act.put, List.getElem_toArray, List.getElem_cons_succ, List.getElem_cons_zero, List.setIfInBounds_toArray, List.set_cons_zero, List.set_cons_succ]
              refine wpAnyH_take (i := 1) (v := ?_) rfl (by kernel_rfl) (by kernel_rfl) (by kernel_rfl) (fun _ _ _ h => h) (Or.inl ⟨by rfl, ?_⟩) (by assumption) ?_
              rotate_left
              · intro w hSw; (try dsimp only at hSw); go_simp; try with_reducible rfl
              try simp only [Act.put, List.getElem_toArray, List.getElem_cons_succ, List.getElem_cons_zero, List.setIfInBounds_toArray, List.set_cons_zero, List.set_cons_succ]
              refine wpAnyH_take (i := 2) (v := ?_) rfl (by kernel_rfl) (by kernel_rfl) (by kernel_rfl) (fun _ _ _ h => h) (Or.inl ⟨by rfl, ?_⟩) (by assumption) ?_
              rotate_left
              · intro w hSw; (try dsimp only at hSw); go_simp; try with_reducible rfl
              try simp only [Act.put, List.getElem_toArray, List.getElem_cons_succ, List.getElem_cons_zero, List.setIfInBounds_toArray, List.set_cons_zero, List.set_cons_succ]
              refine wpAnyH_take (i := 3) (v := ?_) rfl (by kernel_rfl) (by kernel_rfl) (by kernel_rfl) (fun _ _ _ h => h) (Or.inl ⟨by rfl, ?_⟩) (by assumption) ?_
              rotate_left
              · intro w hSw; (try dsimp only at hSw); go_simp; try with_reducible rfl
              try simp only [Act.put, List.getElem_toArray, List.getElem_cons_succ, List.getElem_cons_zero, List.setIfInBounds_toArray, List.set_cons_zero, List.set_cons_succ]
              refine wpAnyH_take (i := 4) (v := ?_) rfl (by kernel_rfl) (by kernel_rfl) (by kernel_rfl) (fun _ _ _ h => h) (Or.inl ⟨by rfl, ?_⟩) (by assumption) ?_
              rotate_left
              · intro w hSw; (try dsimp only at hSw); go_simp; try with_reducible rfl
              try simp only [Act.put, List.getElem_toArray, List.getElem_cons_succ, List.getElem_cons_zero, List.setIfInBounds_toArray, List.set_cons_zero, List.set_cons_succ]
              refine wpAnyH_take (i := 5) (v := ?_) rfl (by kernel_rfl) (by kernel_rfl) (by kernel_rfl) (fun _ _ _ h => h) (Or.inl ⟨by rfl, ?_⟩) (by assumption) ?_
              rotate_left
              · intro w hSw; (try dsimp only at hSw); go_simp; try with_reducible rfl
              try simp only [Act.put, List.getElem_toArray, List.getElem_cons_succ, List.getElem_cons_zero, List.setIfInBounds_toArray, List.set_cons_zero, List.set_cons_succ]
              refine wpAnyH_take (i := 6) (v := ?_) rfl (by kernel_rfl) (by kernel_rfl) (by kernel_rfl) (fun _ _ _ h => h) (Or.inl ⟨by rfl, ?_⟩) (by assumption) ?_
              rotate_left
              · intro w hSw; (try dsimp only at hSw); go_simp; try with_reducible rfl
              try simp only [Act.put, List.getElem_toArray, List.getElem_cons_succ, List.getElem_cons_zero, List.setIfInBounds_toArray, List.set_cons_zero, List.set_cons_succ]
              refine wpAnyH_take (i := 7) (v := ?_) rfl (by kernel_rfl) (by kernel_rfl) (by kernel_rfl) (fun _ _ _ h => h) (Or.inl ⟨by rfl, ?_⟩) (by assumption) ?_
              rotate_left
              · intro w hSw; (try dsimp only at hSw); go_simp; try with_reducible rfl
              try simp only [Act.put, List.getElem_toArray, List.getElem_cons_succ, List.getElem_cons_zero, List.setIfInBounds_toArray, List.set_cons_zero, List.set_cons_succ]
              refine wpAnyH_take (i := 8) (v := ?_) rfl (by kernel_rfl) (by kernel_rfl) (by kernel_rfl) (fun _ _ _ h => h) (Or.inl ⟨by rfl, ?_⟩) (by assumption) ?_
              rotate_left
              · intro w hSw; (try dsimp only at hSw); go_simp; try with_reducible rfl
              try simp only [Act.put, List.getElem_toArray, List.getElem_cons_succ, List.getElem_cons_zero, List.setIfInBounds_toArray, List.set_cons_zero, List.set_cons_succ]
              refine wpAnyH_take (i := 9) (v := ?_) rfl (by kernel_rfl) (by kernel_rfl) (by kernel_rfl) (fun _ _ _ h => h) (Or.inl ⟨by rfl, ?_⟩) (by assumption) ?_
              rotate_left
              · intro w hSw; (try dsimp only at hSw); go_simp; try with_reducible rfl
              try simp only [Act.put, List.getElem_toArray, List.getElem_cons_succ, List.getElem_cons_zero, List.setIfInBounds_toArray, List.set_cons_zero, List.set_cons_succ]
              refine wpAnyH_take (i := 10) (v := ?_) rfl (by kernel_rfl) (by kernel_rfl) (by kernel_rfl) (fun _ _ _ h => h) (Or.inl ⟨by rfl, ?_⟩) (by assumption) ?_
              rotate_left
              · intro w hSw; (try dsimp only at hSw); go_simp; try with_reducible rfl
              try simp only [Act.put, List.getElem_toArray, List.getElem_cons_succ, List.getElem_cons_zero, List.setIfInBounds_toArray, List.set_cons_zero, List.set_cons_succ]
              refine wpAnyH_ready (rs := [11]) (by kernel_rfl) (by simp) (AllReadyH.cons rfl (fun K hK => ?_) AllReadyH.nil)
              rw [if_pos (by rfl)]
              go_simp; go_at_call 122; refine CL.out.mono ?_; rintro e w2 ⟨rfl, hb2, hk2, h2⟩; go_wp2_with fail
              refine hK.out _ _ ?_ (fun hHeld => ?_)
              · have hg2 := hk2.box hHeld.2.2.2.out (by decide) (by decide); exact ⟨cell_of_heap hg2 0, cell_of_heap hg2 1, (hb2.cell hbw).trans hHeld.2.2.1, Lib.hid hg2⟩
              clear hK K
              try simp only [Act.put, List.getElem_toArray, List.getElem_cons_succ, List.getElem_cons_zero, List.setIfInBounds_toArray, List.set_cons_zero, List.set_cons_succ]
              refine wpAnyH_take (i := 12) (v := ?_) rfl (by kernel_rfl) (by kernel_rfl) (by kernel_rfl) (fun _ _ _ h => h) (Or.inl ⟨by rfl, ?_⟩) (by assumption) ?_
              rotate_left
              · intro w hSw; (try dsimp only at hSw); go_simp; try with_reducible rfl
              try simp only [Act.put, List.getElem_toArray, List.getElem_cons_succ, List.getElem_cons_zero, List.setIfInBounds_toArray, List.set_cons_zero, List.set_cons_succ]
              refine wpAnyH_take (i := 13) (v := ?_) rfl (by kernel_rfl) (by kernel_rfl) (by kernel_rfl) (fun _ _ _ h => h) (Or.inl ⟨by rfl, ?_⟩) (by assumption) ?_
              rotate_left
              · intro w hSw; (try dsimp only at hSw); go_simp; try with_reducible rfl
              try simp only [Act.put, List.getElem_toArray, List.getElem_cons_succ, List.getElem_cons_zero, List.setIfInBounds_toArray, List.set_cons_zero, List.set_cons_succ]
              refine wpAnyH_done (by kernel_rfl) ?_ _
              obtain ⟨T', ht1, ht2, ht3, x', hx1, hx2, hx3⟩ := h2
              have HI2 : Hid (TreeOk T' ∧ Nodes w2 w.heap.size T' ∧ T'.map keyOf = (l.take (k + 1 + 1)).map keyK ∧ x' ∈ T' ∧ x'.path = [] ∧ x'.ptr = w.heap.size ∧ fineTo l (k + 1 + 1)) := Lib.hid ⟨ht1, ht2, HKN.out T' ht3, hx1, hx2, hx3, HFN3.out⟩
              have HB2 := Lib.hid (HB1.out.trans hb2)
              clear hHeld ht1 ht2 ht3 hx1 hx2 hx3 hb2 hk2 HKN HFN3 CL
              go_wp2
              go_roundw
              case rel => exact ⟨k + 1, T', x', by omega, by go_num, HI2, HB2⟩
              case measure => simp [intOf]; omega
        · have hkl : k + 1 = l.length := by omega
          have HKF := Lib.hid (show T.map keyOf = l.map keyK by rw [HI.out.2.2.1, hkl, List.take_length])
          have HFI := Lib.hid (show fineTo l l.length by rw [← hkl]; exact HI.out.2.2.2.2.2.2)
          have HTR := Lib.hid (trie_of_tree HI.out.1 HKF.out HHD.out (fun j h h2 => HFI.out j h h2 h))
          have hTl : T.length ≤ 4000000 := by
            have := congrArg List.length HKF.out
            rw [List.length_map, List.length_map] at this
            omega
          have CH := Lib.hid (hasE_any T wr w.heap.size (Lib.hid HI.out.2.1) hTl 6 x HI.out.2.2.2.1 (fun y hy _ => by rw [HI.out.2.2.2.2.1]; exact deep HKF.out HHD.out HFI.out y hy))
          rw [HI.out.2.2.2.2.2.1, HI.out.2.2.2.2.1] at CH
          have hk2 : ((k : Int) < ((l.length - 1 : Nat) : Int)) = False := by simp; omega
          have hk3 : decide (k < l.length - 1) = false := decide_eq_false (by omega)
          cases hE : hasE T 6 []
          · have HT1 : Hid (trieB l = true) := Lib.hid (by rw [HTR.out, hE]; rfl)
            rw [hE] at CH
            clear hE HTR hkl
            go_wp2_with (go_at_call 123; refine CH.out.mono ?_; rintro e w' ⟨rfl, rfl⟩)
            go_ret
            exact ⟨.inr ⟨HT1.out, T, x, by rw [HI.out.2.2.2.2.2.1]; rfl, HI.out.2.2.2.1, HI.out.2.2.2.2.1, HI.out.1, HI.out.2.1, HKF.out⟩, HB.out⟩
          · have HT1 : Hid (trieB l = false) := Lib.hid (by rw [HTR.out, hE]; rfl)
            rw [hE] at CH
            clear hE HTR hkl
            go_wp2_with (go_at_call 123; refine CH.out.mono ?_; rintro e w' ⟨rfl, rfl⟩)
            go_ret
            exact ⟨.inl ⟨HT1.out, rfl⟩, HB.out⟩
  · have HE : Hid (trieB l = false) := Lib.hid (hno (by rw [hhd, hP]; cases e : l[0].2 <;> simp_all))
    have hI2 : decide (0 < l[0].2.length) = true := decide_eq_true (by omega)
    have hI3 : decide ((0 : Int) < (l[0].2.length : Int)) = true := decide_eq_true (by omega)
    obtain ⟨q, hq⟩ : ∃ q, l[0].1 = q := ⟨_, rfl⟩
    obtain ⟨n0, hn0⟩ : ∃ n, l[0].2.length = n := ⟨_, rfl⟩
    rw [hq] at hp0 hP2
    rw [hn0] at hu0 hI2 hI3
    clear hhd hP hq hn0 hI hno hpq
    go_enter Tryz.func97, Tryz.ntmps97
    go_wp2
    go_ret
    exact ⟨.inl ⟨HE.out, rfl⟩, Below.refl _ _⟩

end Go.Proofs.YtmfbffhbgelnnaaGreatDoor
