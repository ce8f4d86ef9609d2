/- The walk of (*node).link where the knot is laid in. -/
import Derived.Test.YtmfbffhbgelnnaaGreatDoorZB8
set_option linter.unusedSimpArgs false
set_option linter.unusedVariables false
namespace Go.Proofs.YtmfbffhbgelnnaaGreatDoor
open Go.RowKit

theorem ints_src {w : World} {u : Value} {l : List Int} (h : IntsAt w u l) : SrcAt w u l.length (ints l) := by
  obtain ⟨a, c, rfl, _, _, h⟩ := h
  rcases h with rfl | ⟨b, o, rfl, hin⟩
  · cases a with
    | none => exact ⟨none, c, rfl, .inl ⟨rfl, rfl, rfl⟩⟩
    | some ad => exact ⟨some ad, c, rfl, .inr ⟨ad, rfl, fun j u hu => by simp [ints] at hu⟩⟩
  · refine ⟨_, c, rfl, .inr ⟨_, rfl, fun j u hu => ?_⟩⟩
    have hj : j < l.length := by
      rcases Nat.lt_or_ge j l.length with h | h
      · exact h
      · rw [List.getElem?_eq_none (by rw [ints_length]; exact h)] at hu; cases hu
    rw [ints, List.getElem?_map, List.getElem?_eq_getElem hj] at hu
    cases hu
    rw [Addr.add_lit]
    exact hin j hj

theorem tail_snoc {P : List (List UInt8)} {l : List ByteArray} {n : Nat} (h : P = l.map (·.data.toList)) (hl : l.length = n) (hn : 1 ≤ n) : P = P.dropLast ++ [(l[n - 1]'(by omega)).data.toList] := by
  subst h
  have hne : l.map (·.data.toList) ≠ [] := by intro e; have := congrArg List.length e; simp at this; subst this; simp at hl; omega
  have := List.dropLast_concat_getLast hne
  rw [List.getLast_eq_getElem] at this
  simp only [List.getElem_map, List.length_map] at this
  rw [← this]
  simp [hl]

/-- Blocks of other types than a node's and a pointer's stay as they were. -/
def KeepsT (w w' : World) : Prop := ∀ g, g < w.heap.size → (∀ cur f, w.heap[g]? ≠ some (.cells cur 146 f)) → (∀ cur f, w.heap[g]? ≠ some (.cells cur 122 f)) → w'.heap[g]? = w.heap[g]?

theorem KeepsT.below {w w' : World} (h : Below w.heap.size w w') : KeepsT w w' := fun g hg _ _ => h.block g hg
theorem KeepsT.trans_below {a b c : World} (h : Below a.heap.size a b) (k : KeepsT b c) : KeepsT a c := fun g hg h1 h2 => by
  have e := h.block g hg
  rw [← e] at h1 h2 ⊢
  exact k g (Nat.lt_of_lt_of_le hg h.size) h1 h2
theorem KeepsT.box {w w' : World} {g : Nat} {cur : Array Value} {e : TypeId} {f : Nat × Nat} (h : KeepsT w w') (hg : w.heap[g]? = some (.cells cur e f)) (h1 : e ≠ 146) (h2 : e ≠ 122) : w'.heap[g]? = some (.cells cur e f) :=
  (h g (Array.getElem?_eq_some_iff.1 hg).1 (fun c f e2 => by rw [hg] at e2; cases e2; exact h1 rfl) (fun c f e2 => by rw [hg] at e2; cases e2; exact h2 rfl)).trans hg
theorem KeepsT.grown {w w' : World} {vs : List Value} (h : GrownL w w' vs) (hv : ∀ x ∈ vs, ∀ k, x.ownBlock = some k → k < w.heap.size → ∃ cur f, w.heap[k]? = some (.cells cur 146 f) ∨ w.heap[k]? = some (.cells cur 122 f)) : KeepsT w w' := fun g hg h1 h2 => by
  refine h.block g hg fun x hx e => ?_
  obtain ⟨cur, f, e2 | e2⟩ := hv x hx g e hg
  · exact h1 cur f e2
  · exact h2 cur f e2

/-- What stands behind the last store. -/
theorem link_end {w2 w3 w6 : World} {B : Nat} {T : List NodeM} {y : NodeM} {q : List UInt8} {ids : List Int} {iv kv : Value} (N2 : Nodes w2 B T) (hT : TreeOk T) (hy : y ∈ T) (hB : B ≤ w2.heap.size) (hp : Good (y.path ++ [q]))
    (hs : ∀ z ∈ T, less (jl z.path) (jl (y.path ++ [q])) = true) (G3 : Below w2.heap.size w2 w3) (hr3 : w3.ownsRow B 2 1 iv ids.length (ints ids)) (hivn : NewRow w2 iv)
    (hr6 : w6.ownsRow B 122 1 kv ((kids T y.path).length + 1) (ptrs (kids T y.path) ++ [.pointer (some ⟨w3.heap.size, 0, none⟩)]))
    (hg6 : ((w3.alloc (.cells #[.string (bts q), iv, .slice none 0 0] 146)).alloc (.cells #[.pointer (some ⟨w3.heap.size, 0, none⟩)] 122)).grownBy w6 y.kidsV.ownBlock)
    (hv6 : kv.ownBlock = y.kidsV.ownBlock ∨ kv.ownBlock = some (w3.heap.size + 2)) :
    w6.heap[y.ptr]? = some (.cells #[.string (bts y.last), y.idsV, y.kidsV] 146 (0, 0)) ∧
      TreeOk (setKids T y.path kv ++ [⟨y.path ++ [q], ids, w3.heap.size, iv, .slice none 0 0⟩]) ∧ Nodes (w6.setCell ⟨y.ptr, 2, none⟩ kv) B (setKids T y.path kv ++ [⟨y.path ++ [q], ids, w3.heap.size, iv, .slice none 0 0⟩]) ∧
      Below B w2 (w6.setCell ⟨y.ptr, 2, none⟩ kv) ∧ KeepsT w2 (w6.setCell ⟨y.ptr, 2, none⟩ kv) := by
  have n1 : 2 ≠ 146 := by decide
  have n2 : 122 ≠ 146 := by decide
  have n3 : 2 ≠ 122 := by decide
  obtain ⟨w4, h4⟩ : ∃ w4, w3.alloc (.cells #[.string (bts q), iv, .slice none 0 0] 146) = w4 := ⟨_, rfl⟩
  have hbn4 : w4.heap[w3.heap.size]? = some (.cells #[.string (bts q), iv, .slice none 0 0] 146 (0, 0)) := by rw [← h4]; exact heap_alloc_new w3 _
  have hA4 : Below w3.heap.size w3 w4 := by rw [← h4]; exact (Below.refl _ _).alloc (Nat.le_refl _) _
  have hs4 : w4.heap.size = w3.heap.size + 1 := by rw [← h4]; simp
  rw [h4] at hg6
  obtain ⟨w5, h5⟩ : ∃ w5, w4.alloc (.cells #[.pointer (some ⟨w3.heap.size, 0, none⟩)] 122) = w5 := ⟨_, rfl⟩
  have hA5 : Below w4.heap.size w4 w5 := by rw [← h5]; exact (Below.refl _ _).alloc (Nat.le_refl _) _
  rw [h5] at hg6
  have G4 : Below w2.heap.size w2 w4 := below_end G3 hA4
  have G5 : Below w2.heap.size w2 w5 := below_end G4 hA5
  have N5 := N2.below G5
  have hbox5 := (N5.box y hy).2
  have hlt : y.ptr < w2.heap.size := (Array.getElem?_eq_some_iff.1 (N2.box y hy).2).1
  have hne5 : y.kidsV.ownBlock ≠ some y.ptr := own_not_at (N5.kid y hy) hbox5 n2
  have hbox6 : w6.heap[y.ptr]? = some (.cells #[.string (bts y.last), y.idsV, y.kidsV] 146 (0, 0)) := (hg6.block y.ptr (Array.getElem?_eq_some_iff.1 hbox5).1 (fun e => hne5 e.symm)).trans hbox5
  have hbn5 : w5.heap[w3.heap.size]? = some (.cells #[.string (bts q), iv, .slice none 0 0] 146 (0, 0)) := (hA5.block _ (by omega)).trans hbn4
  have hbn6 : w6.heap[w3.heap.size]? = some (.cells #[.string (bts q), iv, .slice none 0 0] 146 (0, 0)) := (hg6.block _ (Array.getElem?_eq_some_iff.1 hbn5).1 (fun e => own_not_at (N5.kid y hy) hbn5 n2 e.symm)).trans hbn5
  have G6 : GrownL w2 w6 [boxV y, y.kidsV] := (GrownL.below G5).trans (.grown (x := y.kidsV) hg6 (by simp))
  have G7 : GrownL w2 (w6.setCell ⟨y.ptr, 2, none⟩ kv) [boxV y, y.kidsV] := G6.setCell (x := boxV y) (by simp) rfl 2 kv
  have hri : ∀ {n : Nat} {v : Value} {xs : List Value}, w5.ownsRow B 2 1 v n xs → (w6.setCell ⟨y.ptr, 2, none⟩ kv).ownsRow B 2 1 v n xs := fun hv => by
    have hv6 : w6.ownsRow B 2 1 _ _ _ := hv.kept hg6 (by rcases apart_types hv (N5.kid y hy) n3 with h | h; exact .inl h; exact .inr h)
    exact own_kept hv6 (own_not_at hv6 hbox6 n1)
  have hsz3 := G3.size
  have hL := N2.link (W := w6.setCell ⟨y.ptr, 2, none⟩ kv) (b := w3.heap.size) (kv := kv) (iv := iv) (ids := ids) hT hy hB hp hs (G7.sub (by simp)) (by rw [heap_setCell hbox6]; rfl) (hri (N5.ids y hy)) (own_kept hr6 (own_not_at hr6 hbox6 n2))
    (by rcases hv6 with h | h
        · exact .inl h
        · exact .inr (fun b e => by rw [h] at e; cases e; omega)) hsz3
    (by rw [Below.heap_setCell _ _ _ _ (by show w3.heap.size ≠ y.ptr; omega)]; exact hbn6) (hri (row_below (row_below hr3 hA4) hA5)) hivn
  refine ⟨hbox6, hL.1, hL.2, G7.toBelow hB fun v hv k hk => ?_, KeepsT.grown G7 fun v hv k hk hks => ?_⟩
  · rcases List.mem_cons.1 hv with rfl | hv
    · rw [boxV_block] at hk; cases hk; exact (N2.box y hy).1
    · rw [List.mem_singleton.1 hv] at hk; exact ((N2.kid y hy).lt k hk).1
  · rcases List.mem_cons.1 hv with rfl | hv
    · rw [boxV_block] at hk; cases hk; exact ⟨_, _, .inl (N2.box y hy).2⟩
    · rw [List.mem_singleton.1 hv] at hk
      rcases (N2.kid y hy).2 with ⟨e, _⟩ | ⟨g, cap, cur, e, _, hh, _⟩
      · rw [e] at hk; cases hk
      · rw [e] at hk; cases hk; exact ⟨_, _, .inr hh⟩

set_option maxRecDepth 100000 in
set_option maxHeartbeats 3200000 in
theorem link_yes (T : List NodeM) (x : NodeM) (p : ByteArray) (u : Value) (ids : List Int) (m : Int) (w : World) (B : Nat) (hN : Nodes w B T) (hT : TreeOk T) (hx : x ∈ T) (hx0 : x.path = []) (hn : T.length ≤ 4000000)
    (hp : p.size ≤ 1048576) (hi : ids.length ≤ 4000000) (hu : IntsAt w u ids) (hm : w.cell? ⟨0, 0, none⟩ = some (.int .i64 m)) (hBw : B ≤ w.heap.size) (hb : linkB T p ids = true)
    (hs : ∀ y ∈ T, less (jl y.path) p.data.toList = true) :
    Calls Tryz.prog 122 #[.pointer (some ⟨x.ptr, 0, none⟩), .agg #[.string p, u]] w fun e w' => e = .returned (.bool true) ∧ Below B w w' ∧ KeepsT w w' ∧
      ∃ T', TreeOk T' ∧ Nodes w' B T' ∧ T'.map (fun y => (y.path, y.ids)) = T.map (fun y => (y.path, y.ids)) ++ [(pth p, ids)] ∧ ∃ x' ∈ T', x'.path = [] ∧ x'.ptr = x.ptr := by
  have hU := hu
  obtain ⟨a, c, rfl, _, _, _⟩ := hu
  have hA : Below w.heap.size w (w.alloc (.cells #[.string p, .slice a ids.length c] 98)) := (Below.refl _ _).alloc (Nat.le_refl _) _
  rw [linkB, Bool.and_eq_true, Bool.and_eq_true] at hb
  obtain ⟨hf, hr, hpn⟩ := hb
  obtain ⟨hpe, hpg, hpne⟩ := filter_good hf
  have cf := implFilter_any p m (w.alloc (.cells #[.string p, .slice a ids.length c] 98)) hp ((hA.cell (World.block_lt_of_cell? _ _ hm)).trans hm)
  rw [hf] at cf
  have CF := Lib.hid cf
  have hk : ∀ j, (w.alloc (.cells #[.string p, .slice a ids.length c] 98)).cell? ⟨w.heap.size, j, none⟩ = #[.string p, .slice a ids.length c][j]? := fun j => cell_of_heap (heap_alloc_new w _) j
  have HK := Lib.hid hk
  have HM := Lib.hid ((hA.cell (World.block_lt_of_cell? _ _ hm)).trans hm)
  have HU := Lib.hid (hU.below hA)
  have HNN := Lib.hid (hN.below hA)
  have hws : (w.alloc (.cells #[.string p, .slice a ids.length c] 98)).heap.size = w.heap.size + 1 := by simp
  have HWS := Lib.hid hws
  have HA := Lib.hid hA
  obtain ⟨y, hy, hyp, hpo⟩ : ∃ y, y ∈ T ∧ y.path = (pth p).dropLast ∧ ptrOf T (pth p).dropLast = some ⟨y.ptr, 0, none⟩ := by
    unfold ptrOf at hpn ⊢
    cases e : T.find? fun y => decide (y.path = (pth p).dropLast) with
    | none => rw [e] at hpn; cases hpn
    | some y => exact ⟨y, List.mem_of_find?_eq_some e, by simpa using List.find?_some e, rfl⟩
  have HPO := Lib.hid hpo
  have HYP := Lib.hid hyp
  have HF := Lib.hid hf
  have HS := Lib.hid hs
  have HPE := Lib.hid hpe
  have HPG := Lib.hid hpg
  have HTT := Lib.hid hT
  obtain ⟨i1, hi1, hz1, hy1, hq1⟩ := info_parts (P := Tryz.prog) (e := 2) (z := .int .i64 0) (size := 1) (bytes := 8) (by kernel_rfl)
  obtain ⟨i2, hi2, hz2, hy2, hq2⟩ := info_parts (P := Tryz.prog) (e := 122) (z := .pointer none) (size := 1) (bytes := 8) (by kernel_rfl)
  clear cf hk hU hm hN hA hws hf hpo hpn hyp hs hpe hpg hpne hT
  go_enter Tryz.func122, Tryz.ntmps122
  go_wp2_with fail
  refine CF.out.mono ?_
  rintro e w1 ⟨rfl, hb1⟩
  have hk0 : w1.cell? ⟨w.heap.size, 0, none⟩ = some (.string p) := (hb1.cell (show w.heap.size < _ by rw [HWS.out]; omega)).trans (HK.out 0)
  have hk1 : w1.cell? ⟨w.heap.size, 1, none⟩ = some (.slice a ids.length c) := (hb1.cell (show w.heap.size < _ by rw [HWS.out]; omega)).trans (HK.out 1)
  have CR := Lib.hid (implRises_any _ ids w1 hi (HU.out.below hb1))
  rw [hr] at CR
  have CP := Lib.hid (implParts_any p m w1 hp ((hb1.cell (World.block_lt_of_cell? _ _ HM.out)).trans HM.out))
  have HN1 := Lib.hid (HNN.out.below hb1)
  have HU1 := Lib.hid (HU.out.below hb1)
  have HB1 := Lib.hid (below_end HA.out hb1)
  have hbs : w.heap.size < w1.heap.size := by have := hb1.size; rw [HWS.out] at this; omega
  clear hb1 hr HU HNN HM
  go_wp2_with (go_at_call 140; refine CR.out.mono ?_; rintro e w1 ⟨rfl, rfl⟩)
  refine CP.out.mono ?_
  rintro e w2 ⟨v, rfl, h1, h2⟩
  obtain ⟨g, cap, rfl, hg1, hg2, hcell, _⟩ := row_open h1 (parts_pos p 47)
  have HN2 := Lib.hid (HN1.out.below h2)
  have HU2 := Lib.hid (HU1.out.below h2)
  have HB2 := Lib.hid (below_end HB1.out h2)
  have hkk : w2.cell? ⟨w.heap.size, 1, none⟩ = some (.slice a ids.length c) := (h2.cell hbs).trans hk1
  have hsz2 := h2.size
  have hpos := parts_pos p 47
  have hple := parts_le p 47
  have g3 : IntKind.i64.wrap (((parts p 47).length : Int) - 1) = ((parts p 47).length : Int) - 1 := by rw [IntKind.wrap_i64]; omega
  have g4 : (0 : Int) ≤ ((parts p 47).length : Int) - 1 := by omega
  have g5 : ((parts p 47).length : Int) - 1 < ((parts p 47).length : Int) := by omega
  have g6 : (((parts p 47).length : Int) - 1).toNat = (parts p 47).length - 1 := by omega
  have HCAP : Hid ((parts p 47).length ≤ cap) := Lib.hid (own_cap h1)
  have CD := Lib.hid (descend_any T x (parts p 47) g ((parts p 47).length - 1) cap w2 B HN2.out HTT.out hx hn (by omega) (by omega) (fun t ht => hcell t ht))
  rw [parts_front HF.out, hx0, List.nil_append, HPO.out] at CD
  have hlast := hcell ((parts p 47).length - 1) (by omega)
  have HTS := Lib.hid (tail_snoc HPE.out rfl (Nat.succ_le_of_lt hpos))
  obtain ⟨q, hq⟩ : ∃ q, (parts p 47)[(parts p 47).length - 1]'(by omega) = q := ⟨_, rfl⟩
  rw [hq] at hlast HTS
  obtain ⟨n, hnn⟩ : ∃ n, (parts p 47).length = n := ⟨_, rfl⟩
  rw [hnn] at hpos hple g3 g4 g5 g6 HCAP CD hlast ⊢
  have hcap := HCAP.out
  clear h1 h2 hcell hnn HN1 HU1 HB1 hk0 hk1 hq HPE CP CR CF
  go_wp2_with fail
  refine CD.out.mono ?_
  rintro e w3 ⟨rfl, rfl⟩
  clear CD
  go_wp2_with fail
  have g7 : (1 : Int) ≤ (n : Int) := by omega
  have hb8 : B ≤ w2.heap.size := Nat.le_trans hBw HB2.out.size
  refine wp_region_held_drew (S := fun wx => wx.cell? ⟨g, n - 1, none⟩ = some (.string q) ∧ wx.cell? ⟨w.heap.size, 1, none⟩ = some (.slice a ids.length c) ∧ Hid (Below w2.heap.size w2 wx)) (by kernel_rfl) ?_ (fun hHeld => ?_)
  · exact ⟨hlast, hkk, Lib.hid (Below.refl _ _).drew⟩
  change wpAnyH _ _ _ _ _ 10 #[false, false, false, false, false, false, false, false, false, false] _ _
  clear hlast hkk
  refine wpAnyH_take (i := 0) (v := ?_) rfl (by kernel_rfl) (by kernel_rfl) (by kernel_rfl) (fun _ _ _ h => h) (Or.inl ⟨by rfl, ?_⟩) (by assumption) ?_
  rotate_left
  · intro w hSw; (try dsimp only at hSw); go_simp; try with_reducible rfl
  try simp only [Act.put, List.getElem_toArray, List.getElem_cons_succ, List.getElem_cons_zero, List.setIfInBounds_toArray, List.set_cons_zero, List.set_cons_succ]
  refine wpAnyH_take (i := 1) (v := ?_) rfl (by kernel_rfl) (by kernel_rfl) (by kernel_rfl) (fun _ _ _ h => h) (Or.inl ⟨by rfl, ?_⟩) (by assumption) ?_
  rotate_left
  · intro w hSw; (try dsimp only at hSw); go_simp; try with_reducible rfl
  try simp only [Act.put, List.getElem_toArray, List.getElem_cons_succ, List.getElem_cons_zero, List.setIfInBounds_toArray, List.set_cons_zero, List.set_cons_succ]
  refine wpAnyH_take (i := 2) (v := ?_) rfl (by kernel_rfl) (by kernel_rfl) (by kernel_rfl) (fun _ _ _ h => h) (Or.inl ⟨by rfl, ?_⟩) (by assumption) ?_
  rotate_left
  · intro w hSw; (try dsimp only at hSw); go_simp; try with_reducible rfl
  try simp only [Act.put, List.getElem_toArray, List.getElem_cons_succ, List.getElem_cons_zero, List.setIfInBounds_toArray, List.set_cons_zero, List.set_cons_succ]
  refine wpAnyH_take (i := 3) (v := ?_) rfl (by kernel_rfl) (by kernel_rfl) (by kernel_rfl) (fun _ _ _ h => h) (Or.inl ⟨by rfl, ?_⟩) (by assumption) ?_
  rotate_left
  · intro w hSw; (try dsimp only at hSw); go_simp; try with_reducible rfl
  try simp only [Act.put, List.getElem_toArray, List.getElem_cons_succ, List.getElem_cons_zero, List.setIfInBounds_toArray, List.set_cons_zero, List.set_cons_succ]
  refine wpAnyH_take (i := 4) (v := ?_) rfl (by kernel_rfl) (by kernel_rfl) (by kernel_rfl) (fun _ _ _ h => h) (Or.inl ⟨by rfl, ?_⟩) (by assumption) ?_
  rotate_left
  · intro w hSw; (try dsimp only at hSw); go_simp; try with_reducible rfl
  try simp only [Act.put, List.getElem_toArray, List.getElem_cons_succ, List.getElem_cons_zero, List.setIfInBounds_toArray, List.set_cons_zero, List.set_cons_succ]
  refine wpAnyH_take (i := 5) (v := ?_) rfl (by kernel_rfl) (by kernel_rfl) (by kernel_rfl) (fun _ _ _ h => h) (Or.inl ⟨by rfl, ?_⟩) (by assumption) ?_
  rotate_left
  · intro w hSw; (try dsimp only at hSw); go_simp; try with_reducible rfl
  try simp only [Act.put, List.getElem_toArray, List.getElem_cons_succ, List.getElem_cons_zero, List.setIfInBounds_toArray, List.set_cons_zero, List.set_cons_succ]
  refine wpAnyH_ready (rs := [6]) (by kernel_rfl) (by simp) (AllReadyH.cons rfl (fun K hK => ?_) AllReadyH.nil)
  rw [if_pos (by rfl)]
  refine wp_append_src (.const (.slice none 0 0)) (.tmp 37) 45 rfl B 2 i1 (.int .i64 0) 1 8 Tryz.underlying45 hi1 hz1 hy1 hq1 rfl (by decide) (.slice none 0 0) (.slice a ids.length c) 0 ids.length [] (ints ids) rfl (World.ownsRow_nil _ _ _ _) rfl ((ints_src HU2.out).below (Below.refl _ _).drew) (by rw [ints_length]; omega) (ints_oneCell' ids) (by unfold maxLen; omega) (by omega) hb8 ?_; intro v' w3 hr3 hg3 hv3; rw [Nat.zero_add, List.nil_append] at hr3; obtain ⟨xa, xc, hxu⟩ := own_slice hr3; subst hxu
  refine hK.out _ _ ?_ (fun hHeld => ?_)
  · have hG := (Below.refl w2.drew.heap.size _).grown hg3 (Nat.le_refl _) (fun j h => by cases h); exact ⟨(hG.cell (World.block_lt_of_cell? _ _ hHeld.1)).trans hHeld.1, (hG.cell (World.block_lt_of_cell? _ _ hHeld.2.1)).trans hHeld.2.1, Lib.hid (hHeld.2.2.out.trans hG)⟩
  clear hK K
  try simp only [Act.put, List.getElem_toArray, List.getElem_cons_succ, List.getElem_cons_zero, List.setIfInBounds_toArray, List.set_cons_zero, List.set_cons_succ]
  refine wpAnyH_take (i := 7) (v := ?_) rfl (by kernel_rfl) (by kernel_rfl) (by kernel_rfl) (fun _ _ _ h => h) (Or.inl ⟨by rfl, ?_⟩) (by assumption) ?_
  rotate_left
  · intro w hSw; (try dsimp only at hSw); go_simp; try with_reducible rfl
  try simp only [Act.put, List.getElem_toArray, List.getElem_cons_succ, List.getElem_cons_zero, List.setIfInBounds_toArray, List.set_cons_zero, List.set_cons_succ]
  have hD2 : Below w2.heap.size w2 w2.drew := (Below.refl _ _).drew
  have hG3 : Below w2.heap.size w2 w3 := hD2.trans ((Below.refl w2.drew.heap.size _).grown hg3 (Nat.le_refl _) (fun j h => by cases h))
  have hA4 : Below w3.heap.size w3 (w3.alloc (.cells #[.string q, .slice xa ids.length xc, .slice none 0 0] 146)) := (Below.refl _ _).alloc (Nat.le_refl _) _
  refine wpAnyH_ready (rs := [8]) (by kernel_rfl) (by simp) (AllReadyH.cons rfl (fun K hK => ?_) AllReadyH.nil)
  rw [if_pos (by rfl)]
  go_simp
  refine hK.out _ _ ?_ (fun hHeld => ?_)
  · exact ⟨(hA4.cell (World.block_lt_of_cell? _ _ hHeld.1)).trans hHeld.1, (hA4.cell (World.block_lt_of_cell? _ _ hHeld.2.1)).trans hHeld.2.1, Lib.hid (hHeld.2.2.out.trans (hA4.mono hG3.size))⟩
  clear hK K
  try simp only [Act.put, List.getElem_toArray, List.getElem_cons_succ, List.getElem_cons_zero, List.setIfInBounds_toArray, List.set_cons_zero, List.set_cons_succ]
  refine wpAnyH_take (i := 9) (v := ?_) rfl (by kernel_rfl) (by kernel_rfl) (by kernel_rfl) (fun _ _ _ h => h) (Or.inl ⟨by rfl, ?_⟩) (by assumption) ?_
  rotate_left
  · intro w hSw; (try dsimp only at hSw); go_simp; try with_reducible rfl
  try simp only [Act.put, List.getElem_toArray, List.getElem_cons_succ, List.getElem_cons_zero, List.setIfInBounds_toArray, List.set_cons_zero, List.set_cons_succ]
  refine wpAnyH_done (by kernel_rfl) ?_ _
  clear hHeld
  obtain ⟨kva, kvc, hkv⟩ := own_slice (HN2.out.kid y hy)
  have HKV := Lib.hid hkv
  have HIV : Hid (NewRow w2 (.slice xa ids.length xc)) := Lib.hid (fun b e => by
    rcases hv3 with h | h
    · rw [h] at e; cases e
    · rw [h] at e; cases e; exact Nat.le_refl _)
  have HR3 := Lib.hid hr3
  have HG3 := Lib.hid hG3
  have hG4 := below_end hG3 hA4
  have hk2 := ((HN2.out.below hG4).box y hy).2.kids
  have hK5 := row_below (row_below (HN2.out.kid y hy) hG4) ((Below.refl _ _).alloc (Nat.le_refl _) (.cells #[.pointer (some ⟨w3.heap.size, 0, none⟩)] 122))
  rw [hkv] at hk2 hK5
  have HK5 := Lib.hid hK5
  have HSC : Hid (SrcAt ((w3.alloc (.cells #[.string q, .slice xa ids.length xc, .slice none 0 0] 146)).alloc (.cells #[.pointer (some ⟨w3.heap.size, 0, none⟩)] 122)) (.slice (some ⟨w3.heap.size + 1, 0, none⟩) 1 1) 1 [.pointer (some ⟨w3.heap.size, 0, none⟩)]) := Lib.hid
    ⟨_, _, rfl, .inr ⟨_, rfl, by have := cell_one_new (w3.alloc (.cells #[.string q, .slice xa ids.length xc, .slice none 0 0] 146)) (.pointer (some ⟨w3.heap.size, 0, none⟩)) 122; simpa using this⟩⟩
  have hk4 := Nat.le_trans (kids_le T y.path) hn
  have hbb : B ≤ w3.heap.size := Nat.le_trans hb8 hG3.size
  clear hkv hv3 hr3 hg3 hG3 hA4 hG4 hD2 hK5
  go_wp2_with (at_builtin; refine wpList_append_src rfl _ _ 144 rfl B 122 i2 (.pointer none) 1 8 Tryz.underlying144 hi2 hz2 hy2 hq2 rfl (by decide) _ _ (kids T y.path).length 1 _ [.pointer (some ⟨w3.heap.size, 0, none⟩)] rfl HK5.out rfl HSC.out rfl (by intro u hu; rw [List.mem_singleton.1 hu]; rfl) (by unfold maxLen; omega) (by omega) (by simp; omega) ?_)
  intro v' w6 hr6 hg6 hv6
  obtain ⟨na, nc, hnv⟩ := own_slice hr6
  subst hnv
  have hqe : bts q.data.toList = q := bts_of q
  have HE := Lib.hid (link_end (q := q.data.toList) (ids := ids) HN2.out HTT.out hy hb8 (by rw [HYP.out, ← HTS.out]; exact HPG.out)
    (fun z hz => by rw [HYP.out, ← HTS.out, jl_pth]; exact HS.out z hz) HG3.out HR3.out HIV.out (kv := .slice na ((kids T y.path).length + 1) nc) hr6 (by rw [hqe, HKV.out]; exact hg6)
    (by rw [HKV.out]; rcases hv6 with h | h
        · exact .inl h
        · exact .inr (by rw [h])))
  have hc6 : w6.cell? ⟨y.ptr, 2, none⟩ = some y.kidsV := by rw [cell_of_heap HE.out.1]; rfl
  have hf6 : w6.frozen? ⟨y.ptr, 2, none⟩ = false := free_of_heap HE.out.1
  rw [HKV.out] at hc6
  clear hr6 hg6 hv6 HK5 HSC HIV HR3 HG3 hk2 hqe
  go_wp2
  go_ret
  refine ⟨rfl, (HB2.out.mono hBw).trans HE.out.2.2.2.1, .trans_below HB2.out HE.out.2.2.2.2, _, HE.out.2.1, HE.out.2.2.1, ?_, ?_⟩
  · rw [List.map_append, setKids_keys, List.map_cons, List.map_nil, HYP.out, ← HTS.out]
  · refine ⟨if x.path = y.path then { x with kidsV := .slice na ((kids T y.path).length + 1) nc } else x, List.mem_append_left _ (List.mem_map.2 ⟨x, hx, rfl⟩), ?_, ?_⟩
    · split <;> exact hx0
    · split <;> rfl

end Go.Proofs.YtmfbffhbgelnnaaGreatDoor
