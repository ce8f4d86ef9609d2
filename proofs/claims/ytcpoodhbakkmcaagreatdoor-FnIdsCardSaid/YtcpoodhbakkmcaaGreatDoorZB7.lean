/- Small texts, laid together. -/
import Derived.Test.YtcpoodhbakkmcaaGreatDoorZNodeI
import Derived.Test.YtcpoodhbakkmcaaGreatDoorZB6
import Derived.Test.YtcpoodhbakkmcaaGreatDoorZNode
import Derived.Test.YtcpoodhbakkmcaaGreatDoorZInsI
import Derived.Test.YtcpoodhbakkmcaaGreatDoorZNode2
set_option linter.unusedSimpArgs false
set_option linter.unusedVariables false
/- A number in rising numbers; the keys behind it. -/
namespace Go.Proofs.YtcpoodhbakkmcaaGreatDoor
open Go.RowKit

theorem into_count {l : List Int} {x : Int} (h : rises l = true) (hn : hasId l x = false) : l.take (l.countP (· < x)) ++ x :: l.drop (l.countP (· < x)) = into l x := by
  have hs := (rises_pair.1 h).2
  obtain ⟨h1, h2⟩ := intoAt_spec (x := x) hs l.length (Nat.le_refl _) (fun j hj h => by omega)
  have : l.countP (· < x) = intoAt l x l.length := by
    refine countP_edge _ l _ (intoAt_le l x l.length) (fun t ht hlt => ?_) (fun t ht hle => ?_)
    · have h3 := h2 t ht hlt
      have h4 : l[t] ≠ x := fun e => by
        have := hasId_at ht (beq_iff_eq.2 e)
        rw [hn] at this; cases this
      simp; omega
    · have := h1 t ht hle
      simp; omega
  rw [this]; rfl

theorem take_count {l : List Int} {x : Int} (h : rises l = true) (hn : hasId l x = true) : ∃ _ : l.countP (· < x) < l.length, l.take (l.countP (· < x)) ++ l.drop (l.countP (· < x) + 1) = l.filter (fun y => decide (y ≠ x)) := by
  have hs := (rises_pair.1 h).2
  have hx := hasId_iff.1 hn
  clear h hn
  induction l with
  | nil => cases hx
  | cons a l ih =>
    rw [List.pairwise_cons] at hs
    by_cases e : a = x
    · subst e
      have h0 : l.countP (· < a) = 0 := by
        rw [List.countP_eq_zero]
        intro b hb
        have := hs.1 b hb
        simp; omega
      have hc : (a :: l).countP (· < a) = 0 := by rw [List.countP_cons_of_neg (by simp), h0]
      refine ⟨by rw [hc]; simp, ?_⟩
      rw [hc]
      simp only [List.take_zero, Nat.zero_add, List.drop_succ_cons, List.drop_zero, List.nil_append]
      rw [List.filter_cons_of_neg (by simp), List.filter_eq_self.2]
      intro b hb
      have := hs.1 b hb
      simp; omega
    · have hx2 : x ∈ l := by
        rcases List.mem_cons.1 hx with h | h
        · exact absurd h.symm e
        · exact h
      have hlt : a < x := hs.1 x hx2
      obtain ⟨h1, h2⟩ := ih hs.2 hx2
      have hc : (a :: l).countP (· < x) = l.countP (· < x) + 1 := by rw [List.countP_cons_of_pos (by simpa using hlt)]
      refine ⟨by rw [hc, List.length_cons]; omega, ?_⟩
      rw [hc, List.take_succ_cons, List.drop_succ_cons, List.cons_append, h2, List.filter_cons_of_pos (by simpa using e)]

theorem contains_has (l : List Int) (x : Int) : l.contains x = hasId l x := by
  cases e : hasId l x
  · rw [Bool.eq_false_iff]; intro h
    rw [List.contains_iff_mem] at h
    rw [hasId_iff.2 h] at e; cases e
  · rw [List.contains_iff_mem]; exact hasId_iff.1 e

theorem below_drewN (B : Nat) (w : World) (q : Nat) : Below B w (w.drewN q) := ⟨rfl, rfl, rfl, Nat.le_refl _, fun _ _ => rfl⟩

/-- Keys, one node's numbers laid anew. -/
theorem setI_keys {T : List NodeM} (hT : TreeOk T) {x : NodeM} (hx : x ∈ T) (ids : List Int) (v : Value) (f : List Int → List Int) (hf : f x.ids = ids) :
    (setI T x.path ids v).map keyOf = (T.map keyOf).map (fun a => if a.1 = x.path then (a.1, f a.2) else a) := by
  unfold setI
  rw [List.map_map, List.map_map]
  apply List.map_congr_left
  intro y hy
  show keyOf (if y.path = x.path then _ else y) = (if (keyOf y).1 = x.path then ((keyOf y).1, f (keyOf y).2) else keyOf y)
  by_cases e : y.path = x.path
  · rw [if_pos e, if_pos (show (keyOf y).1 = x.path from e), ← hf, ← hT.same hy hx e]; rfl
  · rw [if_neg e, if_neg (show ¬ (keyOf y).1 = x.path from e)]

theorem ints_sorted {l : List Int} (h : rises l = true) : l.Pairwise (· ≤ ·) := (rises_pair.1 h).2.imp (fun h => by omega)

end Go.Proofs.YtcpoodhbakkmcaaGreatDoor

/- The walk of (*node).putId. -/
namespace Go.Proofs.YtcpoodhbakkmcaaGreatDoor
open Go.RowKit

set_option maxRecDepth 100000 in
set_option maxHeartbeats 1600000 in
theorem putId_any (T : List NodeM) (x : NodeM) (id : Int) (w : World) (B : Nat) (hN : Nodes w B T) (hT : TreeOk T) (hx : x ∈ T) (hB : B ≤ w.heap.size) (hr : rises x.ids = true) :
    Calls Tryz.prog 43 #[.pointer (some ⟨x.ptr, 0, none⟩), .int .i64 id] w fun e w' =>
      e = .returned (.bool (!(hasId x.ids id))) ∧ ∃ T', TreeOk T' ∧ Nodes w' B T' ∧ Below B w w' ∧ KeepsS w w' ∧ pp T' = pp T ∧ T'.map keyOf = if hasId x.ids id then T.map keyOf else addAt (T.map keyOf) x.path id := by
  have hsh := rises_short hr
  have CB := Lib.hid (bsearch_any x.idsV x.ids id B w (by omega) (ints_sorted hr) (hN.ids x hx))
  rw [contains_has] at CB
  have hci := (hN.box x hx).2.ids
  obtain ⟨a, c, hv⟩ := own_slice (hN.ids x hx)
  obtain ⟨l, hl⟩ : ∃ l, x.ids.length = l := ⟨_, rfl⟩
  rw [hl] at hv hsh
  have HV := Lib.hid hv
  rw [hv] at hci CB
  cases hh : hasId x.ids id
  · have HI := Lib.hid (into_count hr hh)
    rw [hh] at CB
    have hic : x.ids.countP (· < id) ≤ l := by rw [← hl]; exact List.countP_le_length
    have HL := Lib.hid hl
    have HIC := Lib.hid hic
    have HSH := Lib.hid hsh
    obtain ⟨i, hi⟩ : ∃ i, x.ids.countP (· < id) = i := ⟨_, rfl⟩
    rw [hi] at CB HI HIC
    have HNN := Lib.hid hN
    clear hN hr hv hh hic hi hl hsh
    go_enter Tryz.func43, Tryz.ntmps43
    go_wp2_with fail
    refine CB.out.mono ?_
    rintro e w1 ⟨rfl, q, hw1⟩
    have HB1 := Lib.hid (show Below w.heap.size w w1 by rw [hw1]; exact below_drewN _ w q)
    have HS1 := Lib.hid (show w1.heap.size = w.heap.size by rw [hw1]; rfl)
    have hci1 := (HB1.out.cell (World.block_lt_of_cell? _ _ hci)).trans hci
    clear hw1 hci CB
    go_wp2_with fail
    have N1 := HNN.out.below HB1.out
    have hA : Below w1.heap.size w1 (w1.alloc (.cells #[.int .i64 id] 2)) := (Below.refl _ _).alloc (Nat.le_refl _) _
    have N2 := N1.below hA
    have CI := insI_any x.idsV (ints x.ids) i (.int .i64 id) w1.heap.size B (w1.alloc (.cells #[.int .i64 id] 2)) (by rw [ints_length, HL.out]; exact HIC.out) (by rw [ints_length, HL.out]; have := HSH.out; omega) (ints_oneCell' _) rfl (by have := HS1.out; simp; omega) (by rw [ints_length]; exact N2.ids x hx) (heap_alloc_new w1 _) (fun g hg => by have := (N1.ids x hx).lt g hg; omega)
    rw [HV.out] at CI
    refine CI.mono ?_
    rintro e w3 ⟨v', rfl, hr3, hg3, hv3⟩
    rw [← HV.out] at hg3 hv3
    have hGL : GrownL w1 w3 [x.idsV] := ((GrownL.refl w1 _).alloc _).trans (.grown (x := x.idsV) hg3 (by simp))
    have hids : (ints x.ids).take i ++ .int .i64 id :: (ints x.ids).drop i = ints (into x.ids id) := by rw [← HI.out]; simp [ints, List.map_take, List.map_drop]
    rw [hids] at hr3
    have hre := N1.reids hT hx (by have := HS1.out; omega) hGL (ids := into x.ids id) (v := v') (own_ids_eq hr3 (by rw [ints_length, into_length]) rfl) (by
      rcases hv3 with h | h
      · exact .inl h
      · exact .inr (fun b e => by rw [h] at e; cases e; simp))
    have hbox3 : w3.heap[x.ptr]? = some (.cells #[.string (bts x.last), x.idsV, x.kidsV] 65 (0, 0)) :=
      (hGL.block x.ptr (Array.getElem?_eq_some_iff.1 (N1.box x hx).2).1 (fun y hy => by rw [List.mem_singleton.1 hy]; exact own_not_at (N1.ids x hx) (N1.box x hx).2 (by decide))).trans (N1.box x hx).2
    have hc3 : w3.cell? ⟨x.ptr, 1, none⟩ = some x.idsV := by rw [cell_of_heap hbox3]; rfl
    have hf3 : w3.frozen? ⟨x.ptr, 1, none⟩ = false := free_of_heap hbox3
    have HRE := Lib.hid hre
    have HX := Lib.hid (setI_keys hT hx (into x.ids id) v' (fun l => into l id) rfl)
    obtain ⟨va, vc, hvs⟩ := own_slice hr3
    clear hr3 hg3 hv3 hGL hids hre hbox3 N1 N2 hA
    subst hvs
    go_wp2
    go_ret
    exact ⟨rfl, _, HRE.out.1, HRE.out.2.1, (HB1.out.mono hB).trans HRE.out.2.2.1, (KeepsS.below HB1.out).trans HRE.out.2.2.2, setI_pp _ _ _ _, HX.out⟩
  · rw [hh] at CB
    have HNN := Lib.hid hN
    clear hN hr hv hh hl hsh
    go_enter Tryz.func43, Tryz.ntmps43
    go_wp2_with fail
    refine CB.out.mono ?_
    rintro e w1 ⟨rfl, q, hw1⟩
    have HB1 := Lib.hid (show Below w.heap.size w w1 by rw [hw1]; exact below_drewN _ w q)
    clear hw1
    go_wp2
    go_ret
    exact ⟨rfl, T, hT, HNN.out.below HB1.out, HB1.out.mono hB, KeepsS.below HB1.out, rfl, rfl⟩

end Go.Proofs.YtcpoodhbakkmcaaGreatDoor

/- Rows of texts; what a call of put leaves. -/
namespace Go.Proofs.YtcpoodhbakkmcaaGreatDoor
open Go.RowKit

/-- A value that reads as a row of texts. -/
def TextsRow (w : World) (v : Value) (r : List ByteArray) : Prop :=
  ∃ a c, v = .slice a r.length c ∧ r.length ≤ c ∧ (r = [] ∨ ∃ g o cur f, a = some ⟨g, o, none⟩ ∧ w.heap[g]? = some (.cells cur 9 f) ∧ ∀ j (h : j < r.length), cur[o + j]? = some (.string r[j]))

theorem TextsRow.keeps {w w' : World} {v : Value} {r : List ByteArray} (h : TextsRow w v r) (k : KeepsS w w') : TextsRow w' v r := by
  obtain ⟨a, c, hv, hc, h⟩ := h
  refine ⟨a, c, hv, hc, ?_⟩
  rcases h with h | ⟨g, o, cur, f, ha, hg, hcs⟩
  · exact .inl h
  · exact .inr ⟨g, o, cur, f, ha, k g cur f hg, hcs⟩

/-- Without the first one. -/
theorem TextsRow.tail {w : World} {g o c : Nat} {cur : Array Value} {f : Nat × Nat} {q : ByteArray} {r : List ByteArray} (hc : r.length + 1 ≤ c) (hg : w.heap[g]? = some (.cells cur 9 f)) (h : ∀ j (h : j < (q :: r).length), cur[o + j]? = some (.string (q :: r)[j])) :
    TextsRow w (.slice (some ⟨g, if c = 1 then o else o + 1, none⟩) r.length (c - 1)) r := by
  refine ⟨_, _, rfl, by omega, ?_⟩
  by_cases h1 : c = 1
  · left; cases r with
    | nil => rfl
    | cons => simp at hc; omega
  · right
    refine ⟨g, o + 1, cur, f, by rw [if_neg h1], hg, fun j hj => ?_⟩
    have := h (j + 1) (by simpa using hj)
    rw [show o + 1 + j = o + (j + 1) by omega]; exact this

def lists (r : List ByteArray) : PathM := r.map (·.data.toList)

/-- What a call of put leaves. -/
def PutAt (id : Int) (w : World) (B : Nat) (T : List NodeM) (P : PathM) (r : List ByteArray) (e : Ending) (w' : World) : Prop :=
  e = .returned (.bool (putKeys id (T.map keyOf) P (lists r)).2) ∧ ∃ T', TreeOk T' ∧ Nodes w' B T' ∧ Below B w w' ∧ KeepsS w w' ∧ (∀ y ∈ T, ∃ z ∈ T', z.path = y.path ∧ z.ptr = y.ptr) ∧ T'.map keyOf = (putKeys id (T.map keyOf) P (lists r)).1

theorem same_pp {S T : List NodeM} (h : pp S = pp T) : ∀ y ∈ T, ∃ z ∈ S, z.path = y.path ∧ z.ptr = y.ptr := fun y hy => by
  have : (y.path, y.ptr) ∈ pp S := by rw [h]; exact List.mem_map.2 ⟨y, hy, rfl⟩
  obtain ⟨z, hz, e⟩ := List.mem_map.1 this
  exact ⟨z, hz, congrArg Prod.fst e, congrArg Prod.snd e⟩

theorem tree_paths {T : List NodeM} (hT : TreeOk T) : PathsOk (paths (T.map keyOf)) := by rw [paths_keys]; exact treeOk_iff.1 hT

/-- One step down. -/
theorem PutAt.step {id : Int} {w w1 w2 : World} {B : Nat} {T T1 : List NodeM} {P : PathM} {q : ByteArray} {r : List ByteArray} {e : Ending} (hk : T1.map keyOf = insP (T.map keyOf) (P ++ [q.data.toList])) (hB : Below B w w1) (hS : KeepsS w w1)
    (hall : ∀ y ∈ T, ∃ z ∈ T1, z.path = y.path ∧ z.ptr = y.ptr) (h : PutAt id w1 B T1 (P ++ [q.data.toList]) r e w2) : PutAt id w B T P (q :: r) e w2 := by
  obtain ⟨h1, T', h2, h3, h4, h5, h6, h7⟩ := h
  have e1 : putKeys id (T.map keyOf) P (lists (q :: r)) = putKeys id (T1.map keyOf) (P ++ [q.data.toList]) (lists r) := by rw [hk]; rfl
  refine ⟨by rw [e1]; exact h1, T', h2, h3, hB.trans h4, hS.trans h5, fun y hy => ?_, by rw [e1]; exact h7⟩
  obtain ⟨z, hz, e2, e3⟩ := hall y hy
  obtain ⟨z', hz', e4, e5⟩ := h6 z hz
  exact ⟨z', hz', e4.trans e2, e5.trans e3⟩

theorem insP_there {K : List KeyM} {P : PathM} (h : P ∈ paths K) : insP K P = K := by unfold insP; rw [if_pos h]

theorem rises_ins {T T1 : List NodeM} {P : PathM} (hT : TreeOk T) (hP : Good P) (h : ∀ y ∈ T, rises y.ids = true) (hk : T1.map keyOf = insP (T.map keyOf) P) : ∀ y ∈ T1, rises y.ids = true := fun y hy => by
  have : keyOf y ∈ insP (T.map keyOf) P := by rw [← hk]; exact List.mem_map_of_mem hy
  rcases (insP_mem (tree_paths hT).good hP _).1 this with h1 | ⟨_, h1⟩
  · obtain ⟨z, hz, e⟩ := List.mem_map.1 h1
    have := h z hz
    rw [show z.ids = y.ids from congrArg Prod.snd e] at this; exact this
  · rw [show y.ids = [] from congrArg Prod.snd h1]; rfl

end Go.Proofs.YtcpoodhbakkmcaaGreatDoor

/- The walk of (*node).takeId. -/
namespace Go.Proofs.YtcpoodhbakkmcaaGreatDoor
open Go.RowKit

set_option maxRecDepth 100000 in
set_option maxHeartbeats 600000 in
theorem takeId_any (T : List NodeM) (x : NodeM) (id : Int) (w : World) (B : Nat) (hN : Nodes w B T) (hT : TreeOk T) (hx : x ∈ T) (hB : B ≤ w.heap.size) (hr : rises x.ids = true) :
    Calls Tryz.prog 63 #[.pointer (some ⟨x.ptr, 0, none⟩), .int .i64 id] w fun e w' =>
      e = .returned (.bool (hasId x.ids id)) ∧ ∃ T', TreeOk T' ∧ Nodes w' B T' ∧ Below B w w' ∧ KeepsS w w' ∧ pp T' = pp T ∧ T'.map keyOf = if hasId x.ids id then remAt (T.map keyOf) x.path id else T.map keyOf := by
  have hsh := rises_short hr
  have CB := Lib.hid (bsearch_any x.idsV x.ids id B w (by omega) (ints_sorted hr) (hN.ids x hx))
  rw [contains_has] at CB
  have hci := (hN.box x hx).2.ids
  obtain ⟨a, c, hv⟩ := own_slice (hN.ids x hx)
  obtain ⟨l, hl⟩ : ∃ l, x.ids.length = l := ⟨_, rfl⟩
  rw [hl] at hv hsh
  have HV := Lib.hid hv
  rw [hv] at hci CB
  cases hh : hasId x.ids id
  · rw [hh] at CB
    have HNN := Lib.hid hN
    clear hN hr hv hh hl hsh
    go_enter Tryz.func63, Tryz.ntmps63
    go_wp2_with fail
    refine CB.out.mono ?_
    rintro e w1 ⟨rfl, q, hwq⟩
    have HB1 := Lib.hid (show Below w.heap.size w w1 by rw [hwq]; exact below_drewN _ w q)
    clear hwq
    go_wp2
    go_ret
    exact ⟨rfl, T, hT, HNN.out.below HB1.out, HB1.out.mono hB, KeepsS.below HB1.out, rfl, rfl⟩
  · have HI := Lib.hid (take_count hr hh)
    rw [hh] at CB
    have hic : x.ids.countP (· < id) < l := by rw [← hl]; exact (take_count hr hh).1
    have HL := Lib.hid hl
    have HIC := Lib.hid hic
    have HSH := Lib.hid hsh
    obtain ⟨i, hi⟩ : ∃ i, x.ids.countP (· < id) = i := ⟨_, rfl⟩
    rw [hi] at CB HI HIC
    have hw1 : IntKind.i64.wrap ((i : Int) + 1) = (i : Int) + 1 := by have := HIC.out; rw [IntKind.wrap_i64]; omega
    have HNN := Lib.hid hN
    clear hN hr hv hh hic hi hl hsh
    go_enter Tryz.func63, Tryz.ntmps63
    go_wp2_with fail
    refine CB.out.mono ?_
    rintro e w1 ⟨rfl, q, hwq⟩
    have HB1 := Lib.hid (show Below w.heap.size w w1 by rw [hwq]; exact below_drewN _ w q)
    have HS1 := Lib.hid (show w1.heap.size = w.heap.size by rw [hwq]; rfl)
    have hci1 := (HB1.out.cell (World.block_lt_of_cell? _ _ hci)).trans hci
    clear hwq hci CB
    go_wp2_with fail
    have N1 := HNN.out.below HB1.out
    have CI := delI_any x.idsV (ints x.ids) i B w1 (by rw [ints_length, HL.out]; exact HIC.out) (by rw [ints_length, HL.out]; have := HSH.out; omega) (ints_oneCell' _) (by rw [ints_length]; exact N1.ids x hx)
    rw [HV.out] at CI
    refine CI.mono ?_
    rintro e w3 ⟨v', rfl, hr3, hg3, hv3⟩
    rw [← HV.out] at hg3 hv3
    have hGL : GrownL w1 w3 [x.idsV] := .grown (x := x.idsV) hg3 (by simp)
    obtain ⟨hlt, hfe⟩ := HI.out
    have hids : (ints x.ids).take i ++ (ints x.ids).drop (i + 1) = ints (x.ids.filter (fun y => decide (y ≠ id))) := by rw [← hfe]; simp [ints, List.map_take, List.map_drop]
    have hfl : (ints x.ids).length - 1 = (x.ids.filter (fun y => decide (y ≠ id))).length := by rw [← hfe, ints_length]; simp; omega
    rw [hids] at hr3
    have hre := N1.reids hT hx (by have := HS1.out; omega) hGL (ids := x.ids.filter (fun y => decide (y ≠ id))) (v := v') (own_ids_eq hr3 hfl rfl) (.inl hv3)
    have hbox3 : w3.heap[x.ptr]? = some (.cells #[.string (bts x.last), x.idsV, x.kidsV] 65 (0, 0)) :=
      (hGL.block x.ptr (Array.getElem?_eq_some_iff.1 (N1.box x hx).2).1 (fun y hy => by rw [List.mem_singleton.1 hy]; exact own_not_at (N1.ids x hx) (N1.box x hx).2 (by decide))).trans (N1.box x hx).2
    have hc3 : w3.cell? ⟨x.ptr, 1, none⟩ = some x.idsV := by rw [cell_of_heap hbox3]; rfl
    have hf3 : w3.frozen? ⟨x.ptr, 1, none⟩ = false := free_of_heap hbox3
    have HRE := Lib.hid hre
    have HX := Lib.hid (setI_keys hT hx (x.ids.filter (fun y => decide (y ≠ id))) v' (fun l => l.filter (fun y => decide (y ≠ id))) rfl)
    obtain ⟨va, vc, hvs⟩ := own_slice hr3
    clear hr3 hg3 hv3 hGL hids hre hbox3 N1 hfl hlt hfe
    subst hvs
    go_wp2
    go_ret
    exact ⟨rfl, _, HRE.out.1, HRE.out.2.1, (HB1.out.mono hB).trans HRE.out.2.2.1, (KeepsS.below HB1.out).trans HRE.out.2.2.2, setI_pp _ _ _ _, HX.out⟩

end Go.Proofs.YtcpoodhbakkmcaaGreatDoor
