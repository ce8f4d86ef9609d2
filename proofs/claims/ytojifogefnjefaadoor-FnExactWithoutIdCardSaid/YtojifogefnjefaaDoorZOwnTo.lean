/- The copies that the exact laws make of their arguments. -/
import Derived.Test.YtojifogefnjefaaDoorZOwn
set_option linter.unusedSimpArgs false
set_option linter.unusedVariables false
namespace Go.Proofs.YtojifogefnjefaaDoor
open Go.RowKit

set_option maxRecDepth 100000 in
set_option maxHeartbeats 400000 in
theorem toInts_any (v : Value) (l : List Int) (w : World) (hl : l.length ≤ 4000000) (hv : IntsAt w v l) :
    Calls Tryd.prog 31 #[v] w fun e w' => ∃ u, e = .returned u ∧ w'.ownsRow w.heap.size 2 1 u l.length (ints l) ∧ Below w.heap.size w w' := by
  obtain ⟨a, c, rfl, hc1, hc2, hc3⟩ := hv
  have HC := Lib.hid hc3
  clear hc3
  obtain ⟨i, hi1, hi2, hi3, hi4⟩ := info_parts (P := Tryd.prog) (e := 2) (z := .int .i64 0) (size := 1) (bytes := 8) (by kernel_rfl)
  go_enter Tryd.func31, Tryd.ntmps31
  go_wp2_with (first | (at_make; refine wpList_make_full _ rfl _ _ _ rfl w.heap.size 2 i (.int .i64 0) 1 (by kernel_rfl) hi1 hi2 hi3 _ _ _ _ l.length rfl rfl rfl rfl (by rw [hi4]; omega) (by unfold maxLen; omega) (Nat.le_refl _) ?_; intro w1 hown hgr))
  have H0 : Hid (w1.ownsRow w.heap.size 2 1 (.slice (some ⟨w.heap.size, 0, none⟩) l.length l.length) l.length (ints (l.take 0 ++ List.replicate (l.length - 0) 0))) := Lib.hid (by
    simp only [List.take_zero, List.nil_append, Nat.sub_zero]
    rw [← ints_zero]
    simpa [Value.cells] using hown)
  have H1 := Lib.hid ((Below.refl w.heap.size w).grown hgr (Nat.le_refl _) (fun k h => by cases h))
  clear hown hgr hi1 hi2 hi3 hi4
  obtain ⟨g, hg⟩ : ∃ g, w.heap.size = g := ⟨_, rfl⟩
  have HG := Lib.hid hg
  rw [hg] at H0 H1 ⊢
  clear hg
  go_loopw [4] (fun i wr => ∃ k : Nat, k ≤ l.length ∧ i = .int .i64 k ∧ Hid (wr.ownsRow g 2 1 (.slice (some ⟨g, 0, none⟩) l.length l.length) l.length (ints (l.take k ++ List.replicate (l.length - k) 0))) ∧ Hid (Below g w wr)) (fun i _ => l.length - (intOf i).toNat)
  case atStart => exact ⟨0, Nat.zero_le _, rfl, H0, H1⟩
  case round =>
    obtain ⟨k, hk, rfl, HO, HB⟩ := hrel
    by_cases hlt : k < l.length
    · obtain ⟨b, o, rfl, hin⟩ : ∃ b o, a = some ⟨b, o, none⟩ ∧ IntsIn w b o l := by
        rcases HC.out with h | h
        · subst h; simp at hlt
        · exact h
      have hcell := (hin.below (by rw [HG.out]; exact HB.out)) k hlt
      have hfz := HO.out.frozenAt k
      obtain ⟨u, hu⟩ : ∃ u, wr.cell? ⟨g, k, none⟩ = some u := ⟨_, (HO.out.cellAt k (by omega)).trans (List.getElem?_eq_getElem (by rw [HO.out.1]; omega))⟩
      have HN : Hid ((wr.setCell ⟨g, k, none⟩ (.int .i64 l[k])).ownsRow g 2 1 (.slice (some ⟨g, 0, none⟩) l.length l.length) l.length (ints (l.take (k + 1) ++ List.replicate (l.length - (k + 1)) 0))) := Lib.hid (by rw [← take_next l 0 l.length k rfl hlt, ← ints_set]; exact (HO.out.stored k _).1)
      have HN2 : Hid (Below g w (wr.setCell ⟨g, k, none⟩ (.int .i64 l[k]))) := Lib.hid (HB.out.grown (HO.out.stored k _).2 (HG.out ▸ HB.out.size) (fun j h => by cases h; exact Nat.le_refl _))
      obtain ⟨x, hx⟩ : ∃ x, l[k] = x := ⟨_, rfl⟩
      rw [hx] at hcell HN HN2
      clear hx hin HO HB
      go_wp2
      go_roundw
      case rel => exact ⟨k + 1, by omega, by go_num, HN, HN2⟩
      case measure => simp [intOf]; omega
    · obtain rfl : k = l.length := by omega
      have HE : Hid (wr.ownsRow w.heap.size 2 1 (.slice (some ⟨g, 0, none⟩) l.length l.length) l.length (ints l)) := Lib.hid (by have := HO.out; simp only [List.take_length, Nat.sub_self, List.replicate_zero, List.append_nil] at this; rw [HG.out]; exact this)
      have HB2 : Hid (Below w.heap.size w wr) := Lib.hid (by rw [HG.out]; exact HB.out)
      go_wp2
      go_ret
      exact ⟨_, rfl, HE.out, HB2.out⟩

set_option maxRecDepth 100000 in
set_option maxHeartbeats 400000 in
theorem toKnot_any (v : Value) (x : KnotM) (w : World) (hl : x.2.length ≤ 4000000) (hv : IntsAt w v x.2) :
    Calls Tryd.prog 18 #[.agg #[.string x.1, v]] w fun e w' => ∃ u, e = .returned (.agg #[.string x.1, u]) ∧ w'.ownsRow w.heap.size 2 1 u x.2.length (ints x.2) ∧ Below w.heap.size w w' := by
  obtain ⟨p, l⟩ := x
  have ct := fun wx (h : IntsAt wx v l) => toInts_any v l wx hl h
  have CT := Lib.hid ct
  have HV := Lib.hid hv
  clear ct hl hv
  go_enter Tryd.func18, Tryd.ntmps18
  go_wp2_with fail
  obtain ⟨w1, hw1⟩ : ∃ w1, w.alloc (.cells #[.string p, v] 34) = w1 := ⟨_, rfl⟩
  have hs1 : w1.heap.size = w.heap.size + 1 := by rw [← hw1]; simp
  have hb1 : Below w.heap.size w w1 := by rw [← hw1]; exact (Below.refl _ _).alloc (Nat.le_refl _) _
  rw [hw1]
  obtain ⟨w2, hw2⟩ : ∃ w2, w1.alloc (.cells #[.string { data := #[] }, .slice none 0 0] 39) = w2 := ⟨_, rfl⟩
  have hs2 : w2.heap.size = w.heap.size + 1 + 1 := by rw [← hw2]; simp [hs1]
  have hb2 : Below w.heap.size w w2 := by rw [← hw2]; exact hb1.alloc (by omega) _
  have r2 : w2.heap[w.heap.size + 1]? = some (.cells #[.string { data := #[] }, .slice none 0 0] 39 (0, 0)) := by rw [← hw2, ← hs1]; exact heap_alloc_new _ _
  rw [hw2]
  obtain ⟨w3, hw3⟩ : ∃ w3, w2.alloc (.cells #[.string p, .slice none 0 0] 39) = w3 := ⟨_, rfl⟩
  have hs3 : w3.heap.size = w.heap.size + 1 + 1 + 1 := by rw [← hw3]; simp [hs2]
  have hb3 : Below w.heap.size w w3 := by rw [← hw3]; exact hb2.alloc (by omega) _
  have k3 : w3.heap[w.heap.size + 1 + 1]? = some (.cells #[.string p, .slice none 0 0] 39 (0, 0)) := by rw [← hw3, ← hs2]; exact heap_alloc_new _ _
  have r3 : w3.heap[w.heap.size + 1]? = some (.cells #[.string { data := #[] }, .slice none 0 0] 39 (0, 0)) := by rw [← hw3]; exact (((Below.refl _ w2).alloc (Nat.le_refl _) _).block _ (by omega)).trans r2
  rw [hw3]
  refine (CT.out _ (HV.out.below hb3)).mono ?_
  rintro e w4 ⟨u, rfl, ho, hb4⟩
  obtain ⟨ua, uc, hu⟩ := own_slice ho
  subst hu
  have r4 : w4.heap[w.heap.size + 1]? = some (.cells #[.string { data := #[] }, .slice none 0 0] 39 (0, 0)) := (hb4.block _ (by omega)).trans r3
  have k4 : w4.heap[w.heap.size + 1 + 1]? = some (.cells #[.string p, .slice none 0 0] 39 (0, 0)) := (hb4.block _ (by omega)).trans k3
  have hb : Below w.heap.size w w4 := hb3.trans (hb4.mono (by omega))
  have ho2 := own_mono ho (A := w.heap.size + 1 + 1 + 1) (by omega)
  have h1 : w4.cell? ⟨w.heap.size + 1 + 1, 0, none⟩ = some (.string p) := cell_of_heap k4 0
  have h2 : w4.cell? ⟨w.heap.size + 1 + 1, 1, none⟩ = some (.slice none 0 0) := cell_of_heap k4 1
  have h3 : w4.frozen? ⟨w.heap.size + 1 + 1, 1, none⟩ = false := frozen_of_row _ _ _ _ _ k4
  have h4 : w4.cell? ⟨w.heap.size + 1, 0, none⟩ = some (.string { data := #[] }) := cell_of_heap r4 0
  have h5 : w4.cell? ⟨w.heap.size + 1, 1, none⟩ = some (.slice none 0 0) := cell_of_heap r4 1
  have h6 : w4.frozen? ⟨w.heap.size + 1, 0, none⟩ = false := frozen_of_row _ _ _ _ _ r4
  have h7 : w4.frozen? ⟨w.heap.size + 1, 1, none⟩ = false := frozen_of_row _ _ _ _ _ r4
  have HE : Hid ((((w4.setCell ⟨w.heap.size + 1 + 1, 1, none⟩ (.slice ua l.length uc)).setCell ⟨w.heap.size + 1, 0, none⟩ (.string p)).setCell ⟨w.heap.size + 1, 1, none⟩ (.slice ua l.length uc)).ownsRow w.heap.size 2 1 (.slice ua l.length uc) l.length (ints l)) :=
    Lib.hid (own_mono (own_far (own_far (own_far ho2 (by omega)) (by omega)) (by omega)) (by omega))
  have HR : Hid ((((w4.setCell ⟨w.heap.size + 1 + 1, 1, none⟩ (.slice ua l.length uc)).setCell ⟨w.heap.size + 1, 0, none⟩ (.string p)).setCell ⟨w.heap.size + 1, 1, none⟩ (.slice ua l.length uc)).heap[w.heap.size + 1]? = some (.cells #[.string p, .slice ua l.length uc] 39 (0, 0))) := Lib.hid (by
    have q1 := (heap_setCell_other w4 ⟨w.heap.size + 1 + 1, 1, none⟩ (w.heap.size + 1) (.slice ua l.length uc) (by simp)).trans r4
    have q2 := heap_setCell_same _ _ 0 _ _ (.string p) q1
    exact heap_setCell_same _ _ 1 _ _ (.slice ua l.length uc) q2)
  clear r2 k3 r3 r4 k4 ho ho2 hw1 hw2 hw3 hs1 hs2 hs3 hb1 hb2 hb3 hb4
  have HB : Hid (Below w.heap.size w (((w4.setCell ⟨w.heap.size + 1 + 1, 1, none⟩ (.slice ua l.length uc)).setCell ⟨w.heap.size + 1, 0, none⟩ (.string p)).setCell ⟨w.heap.size + 1, 1, none⟩ (.slice ua l.length uc))) :=
    Lib.hid (((hb.grown (grown_setCell _ _ _ _) hb.size (fun k h => by cases h; omega)).grown (grown_setCell _ _ _ _) (by simp; exact hb.size) (fun k h => by cases h; omega)).grown (grown_setCell _ _ _ _) (by simp; exact hb.size) (fun k h => by cases h; omega))
  clear hb
  go_wp2
  refine bodyPost_ret (results_cell_row rfl _ _ _ _ _ _ _ rfl HR.out Tryd.underlying39 rfl (by kernel_rfl)) rfl ⟨_, rfl, HE.out, HB.out⟩

set_option maxRecDepth 100000 in
set_option maxHeartbeats 800000 in
theorem toKnots_any (v : Value) (l : List KnotM) (w : World) (hl : l.length ≤ 4000000) (hs : ∀ x ∈ l, x.2.length ≤ 4000000) (hv : KnotsAt w v l) :
    Calls Tryd.prog 6 #[v] w fun e w' => ∃ u, e = .returned u ∧ KOwn w' w.heap.size u l ∧ Below w.heap.size w w' := by
  obtain ⟨a, c, rfl, hc1, hc2, hc3⟩ := hv
  have HC := Lib.hid hc3
  have HS := Lib.hid hs
  clear hc3 hs
  obtain ⟨i, hi1, hi2, hi3, hi4⟩ := info_parts (P := Tryd.prog) (e := 39) (z := .agg #[.string knotZ.1, .slice none 0 0]) (size := 2) (bytes := 40) (by kernel_rfl)
  go_enter Tryd.func6, Tryd.ntmps6
  go_wp2_with (first | (at_make; refine wpList_make_full _ rfl _ _ _ rfl w.heap.size 39 i (.agg #[.string knotZ.1, .slice none 0 0]) 2 (by kernel_rfl) hi1 hi2 hi3 _ _ _ _ l.length rfl rfl rfl rfl (by rw [hi4]; omega) (by unfold maxLen; omega) (Nat.le_refl _) ?_; intro w1 hown hgr))
  have H0 : Hid (KOwn w1 w.heap.size (.slice (some ⟨w.heap.size, 0, none⟩) l.length l.length) (l.take 0 ++ List.replicate (l.length - 0) knotZ)) := Lib.hid (by
    simp only [List.take_zero, List.nil_append, Nat.sub_zero]
    refine ⟨List.replicate l.length (.slice none 0 0), by simp, ?_, fun j h1 h2 => ?_, ?_⟩
    · rw [List.length_replicate, ← madeCells_two]; exact hown
    · simp only [List.getElem_replicate]; exact World.ownsRow_nil _ _ _ _
    · rw [List.pairwise_cons]
      exact ⟨fun a ha => by rw [List.eq_of_mem_replicate ha]; exact .inr (by intro h; cases h), List.pairwise_replicate.2 (.inr (.inl rfl))⟩)
  have H1 := Lib.hid ((Below.refl w.heap.size w).grown hgr (Nat.le_refl _) (fun k h => by cases h))
  clear hown hgr hi1 hi2 hi3 hi4
  obtain ⟨g, hg⟩ : ∃ g, w.heap.size = g := ⟨_, rfl⟩
  have HG := Lib.hid hg
  rw [hg] at H0 H1 ⊢
  clear hg
  go_loopw [4] (fun i wr => ∃ k : Nat, k ≤ l.length ∧ i = .int .i64 k ∧ Hid (KOwn wr g (.slice (some ⟨g, 0, none⟩) l.length l.length) (l.take k ++ List.replicate (l.length - k) knotZ)) ∧ Hid (Below g w wr)) (fun i _ => l.length - (intOf i).toNat)
  case atStart => exact ⟨0, Nat.zero_le _, rfl, H0, H1⟩
  case round =>
    obtain ⟨k, hk, rfl, HO, HB⟩ := hrel
    by_cases hlt : k < l.length
    · obtain ⟨b, o, rfl, hin⟩ : ∃ b o, a = some ⟨b, o, none⟩ ∧ KnotsIn w b o l := by
        rcases HC.out with h | h
        · subst h; simp at hlt
        · exact h
      have hinr := hin.below (show Below w.heap.size w wr by rw [HG.out]; exact HB.out)
      obtain ⟨hp, u0, hu0, hids⟩ := hinr k hlt
      have CT := Lib.hid (fun wx (h : IntsAt wx u0 l[k].2) => toKnot_any u0 l[k] wx (HS.out _ (List.getElem_mem hlt)) h)
      have HI := Lib.hid hids
      obtain ⟨ua, uc, rfl, _, _, _⟩ := hids
      obtain ⟨us, hus⟩ := HO.out
      have hlen : (l.take k ++ List.replicate (l.length - k) knotZ).length = l.length := by simp; omega
      have HU := Lib.hid hus
      obtain ⟨x, hx⟩ : ∃ x, l[k] = x := ⟨_, rfl⟩
      have HN := Lib.hid (take_next l knotZ l.length k rfl hlt)
      rw [hx] at hp hu0 CT HI HN
      clear hinr hin hus hx HO
      go_wp2_with fail
      refine (CT.out _ HI.out).mono ?_
      rintro e w2 ⟨u, rfl, ho, hb2⟩
      obtain ⟨xa, xc, hxu⟩ := own_slice ho
      subst hxu
      have hgr : g ≤ wr.heap.size := by have := HB.out.size; rw [HG.out] at this; exact this
      have hU2 := HU.out.below hb2
      have hgB : Below g w w2 := HB.out.trans (hb2.mono hgr)
      have hP := hU2.put (x := x) (k := k) hlen.symm (by rw [hlen]; exact hlt) (own_mono ho hgr) (fun y hy b hb => (HU.out.lt y hy b hb).2) (fun b hb => (ho.lt b hb).1)
      rw [HN.out] at hP
      have HP := Lib.hid (show KOwn _ _ _ _ from ⟨_, hP⟩)
      have hrow := hU2.2.1
      rw [hlen] at hrow
      have HB3 := Lib.hid ((hgB.grown (grown_setCell w2 g (k * 2) (.string x.1)) (HG.out ▸ hgB.size) (fun k h => by cases h; exact Nat.le_refl _)).grown (grown_setCell _ g (k * 2 + 1) (.slice xa x.2.length xc)) (by simp; exact HG.out ▸ hgB.size) (fun k h => by cases h; exact Nat.le_refl _))
      have f0 := hrow.frozenAt (k * 2)
      have f1 := hrow.frozenAt (k * 2 + 1)
      obtain ⟨z0, c0⟩ : ∃ u, w2.cell? ⟨g, k * 2, none⟩ = some u := ⟨_, (hrow.cellAt _ (by omega)).trans (List.getElem?_eq_getElem (by rw [hrow.1]; omega))⟩
      obtain ⟨z1, c1⟩ : ∃ u, w2.cell? ⟨g, k * 2 + 1, none⟩ = some u := ⟨_, (hrow.cellAt _ (by omega)).trans (List.getElem?_eq_getElem (by rw [hrow.1]; omega))⟩
      clear ho hb2 hU2 hgB hP hrow HN HU HI HB hp hu0
      go_wp2
      go_roundw
      case rel => exact ⟨k + 1, by omega, by go_num, HP, HB3⟩
      case measure => simp [intOf]; omega
    · obtain rfl : k = l.length := by omega
      have HE : Hid (KOwn wr w.heap.size (.slice (some ⟨g, 0, none⟩) l.length l.length) l) := Lib.hid (by have := HO.out; simp only [List.take_length, Nat.sub_self, List.replicate_zero, List.append_nil] at this; rw [HG.out]; exact this)
      have HB2 : Hid (Below w.heap.size w wr) := Lib.hid (by rw [HG.out]; exact HB.out)
      go_wp2
      go_ret
      exact ⟨_, rfl, HE.out, HB2.out⟩

end Go.Proofs.YtojifogefnjefaaDoor
