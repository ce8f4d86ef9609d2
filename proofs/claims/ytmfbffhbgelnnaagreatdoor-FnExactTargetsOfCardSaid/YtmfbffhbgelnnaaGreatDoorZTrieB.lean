/- A right trie with a number more is right; the number taken out again leaves it as it was. -/
import Derived.Test.YtmfbffhbgelnnaaGreatDoorZB10
set_option linter.unusedSimpArgs false
set_option linter.unusedVariables false
namespace Go.Proofs.YtmfbffhbgelnnaaGreatDoor
open Go.RowKit

theorem preKeys_snoc : ∀ (r : PathM) (K : List KeyM) (X : PathM) (p : List UInt8), preKeys K X (r ++ [p]) = insP (preKeys K X r) (X ++ r ++ [p])
  | [], K, X, p => by rw [List.nil_append, preKeys, preKeys, preKeys, List.append_nil]
  | a :: r, K, X, p => by
    rw [List.cons_append, preKeys, preKeys, preKeys_snoc r]
    congr 1
    simp

/-- No node of K is without need. -/
def Needed (K : List KeyM) : Prop := ∀ Q ∈ paths K, Q ≠ [] → emptyAt K Q = false

theorem cut_ins {K : List KeyM} {Q : PathM} (hK : PathsOk (paths K)) (hQ : Good Q) (hd : Q.dropLast ∈ paths K) (hn : Q ∉ paths K) : cutAt (insP K Q) Q = K := by
  have hI := insP_ok hK hQ hd
  refine keys_ext ⟨fun P hP hne => ?_, fun P hP => hI.good P ((cut_paths _ _ P).1 hP).1, List.pairwise_map.2 ((rising_of hI).filter _)⟩ hK fun a => ?_
  · obtain ⟨h1, h2⟩ := (cut_paths _ _ P).1 hP
    rcases (insP_paths hK.good hQ P).1 h1 with h | h
    · rw [cut_paths, insP_paths hK.good hQ]
      exact ⟨.inl (hK.closed P h hne), fun e => hn (by rw [← e]; exact hK.closed P h hne)⟩
    · exact absurd h h2
  · unfold cutAt
    rw [List.mem_filter, insP_mem hK.good hQ, decide_eq_true_iff]
    constructor
    · rintro ⟨h | ⟨_, h⟩, h2⟩
      · exact h
      · exact absurd (by rw [h]) h2
    · intro h
      exact ⟨.inl h, fun e => hn (mem_paths.2 ⟨a, h, e⟩)⟩

/-- What was new goes again. -/
theorem prune_pre {K : List KeyM} {F : PathM} (hK : PathsOk (paths K)) (h0 : ([] : PathM) ∈ paths K) (hN : Needed K) (hF : Good F) : ∀ n, n ≤ F.length → pruneK n (preKeys K [] (F.take n)) (F.take n) = K
  | 0, _ => by rw [List.take_zero, prune_nil, preKeys]
  | n + 1, hn => by
    have hlt : n < F.length := by omega
    have hg : Good (F.take (n + 1)) := hF.take _
    have hgn : Good (F.take n) := hF.take _
    have hne : F.take (n + 1) ≠ [] := fun e => by have := congrArg List.length e; rw [List.length_take, List.length_nil] at this; omega
    have hdl : (F.take (n + 1)).dropLast = F.take n := by rw [List.dropLast_eq_take, List.length_take, List.take_take, show min (min (n + 1) F.length - 1) (n + 1) = n by omega]
    by_cases hin : F.take (n + 1) ∈ paths K
    · rw [pre_there hK h0 hin, pruneK, if_neg hne, if_neg (by rw [hN _ hin hne]; simp)]
    · have hsn : F.take (n + 1) = F.take n ++ [F[n]] := List.take_succ_eq_append_getElem hlt
      obtain ⟨hP, hm⟩ := preKeys_spec (F.take n) K [] hK h0 hgn
      have hpn : F.take n ∈ paths (preKeys K [] (F.take n)) := pre_has hK h0 hgn
      have hpin : ∀ Q ∈ paths (preKeys K [] (F.take n)), Q ∈ paths K ∨ Q.length ≤ n := fun Q hQ => by
        obtain ⟨a, ha, rfl⟩ := mem_paths.1 hQ
        rcases (hm a).1 ha with h | ⟨_, _, k, _, h2, h3⟩
        · exact .inl (mem_paths.2 ⟨a, h, rfl⟩)
        · right
          rw [h3, List.length_take]
          simp only [List.nil_append, List.length_take] at h2
          omega
      have hni : F.take (n + 1) ∉ paths (preKeys K [] (F.take n)) := fun e => by
        rcases hpin _ e with h | h
        · exact hin h
        · rw [List.length_take] at h; omega
      have hpe : preKeys K [] (F.take (n + 1)) = insP (preKeys K [] (F.take n)) (F.take (n + 1)) := by
        conv => lhs; rw [hsn]
        rw [preKeys_snoc, List.nil_append, ← hsn]
      have hI := insP_ok hP hg (by rw [hdl]; exact hpn)
      have hidem : (F.take (n + 1), ([] : List Int)) ∈ insP (preKeys K [] (F.take n)) (F.take (n + 1)) := (insP_mem hP.good hg _).2 (.inr ⟨hni, rfl⟩)
      have hids : idsAt (insP (preKeys K [] (F.take n)) (F.take (n + 1))) (F.take (n + 1)) = [] := idsAt_of hI hidem
      have hkid : hasKid (insP (preKeys K [] (F.take n)) (F.take (n + 1))) (F.take (n + 1)) = false := by
        cases e : hasKid (insP (preKeys K [] (F.take n)) (F.take (n + 1))) (F.take (n + 1))
        · rfl
        · obtain ⟨Q, hQ, hQn, hQd⟩ := kid_has.1 e
          have hlen : Q.length = n + 2 := by
            have := congrArg List.length hQd
            rw [List.length_dropLast, List.length_take] at this
            have := List.length_pos_iff.2 hQn
            omega
          rcases (insP_paths hP.good hg Q).1 hQ with h | h
          · rcases hpin Q h with h2 | h2
            · exact absurd (by rw [← hQd]; exact hK.closed Q h2 hQn) hin
            · omega
          · rw [h, List.length_take] at hlen; omega
      have he : emptyAt (insP (preKeys K [] (F.take n)) (F.take (n + 1))) (F.take (n + 1)) = true := by unfold emptyAt; rw [hids, hkid]; rfl
      rw [hpe, pruneK, if_neg hne, if_pos he, cut_ins hP hg (by rw [hdl]; exact hpn) hni, hdl]
      exact prune_pre hK h0 hN hF n (by omega)

theorem trie_needed {l : List KnotM} (h : trieB l = true) : Needed (l.map keyK) := fun Q hQ hne => by
  have hPO := trie_paths h
  have h0 := root_in hPO hQ
  obtain ⟨a, ha, rfl⟩ := mem_paths.1 hQ
  obtain ⟨k, hk, rfl⟩ := List.mem_map.1 ha
  obtain ⟨j, hj, rfl⟩ := List.mem_iff_getElem.1 hk
  obtain ⟨b, L, rfl, hb, _⟩ := head_root hPO h0
  have h1 : 1 ≤ j := by
    rcases Nat.lt_or_ge 0 j with h | h
    · exact h
    · obtain rfl : j = 0 := by omega
      exact absurd hb hne
  have ht := (trie_at h hj h1).2.2.2.2
  have hi := idsAt_of hPO ha
  show emptyAt ((b :: L).map keyK) (pth (b :: L)[j].1) = false
  unfold emptyAt
  rw [show idsAt ((b :: L).map keyK) (pth (b :: L)[j].1) = (b :: L)[j].2 from hi, ← child_keys hPO h0]
  rcases ht with h | h
  · rw [h]; rfl
  · rw [h]; simp

theorem trie_root_ids {l : List KnotM} (h : trieB l = true) : ([] : PathM) ∈ paths (l.map keyK) := by
  have hh := trie_head h
  cases l with
  | nil => simp [headOk] at hh
  | cons a l =>
    rw [headOk, Bool.and_eq_true, beq_iff_eq] at hh
    exact mem_paths.2 ⟨keyK a, by simp, pth_nil.2 hh.1⟩

theorem rem_into {l : List Int} {id : Int} (h : hasId l id = false) : remI (into l id) id = l := by
  have hn : ∀ x ∈ l, x ≠ id := fun x hx e => by rw [hasId_iff.2 (by rw [← e]; exact hx)] at h; cases h
  unfold remI into
  rw [List.filter_append, List.filter_cons_of_neg (by simp), List.filter_eq_self.2 (fun x hx => by rw [decide_eq_true_iff]; exact hn x (List.mem_of_mem_take hx)), List.filter_eq_self.2 (fun x hx => by rw [decide_eq_true_iff]; exact hn x (List.mem_of_mem_drop hx)), List.take_append_drop]

/-- What was put in and taken out leaves the trie as it was. -/
theorem with_without {l : List KnotM} {f : ByteArray} {id : Int} (ht : trieB l = true) (hw : (withL l f id).2 = true) (hr : trieB (withL l f id).1 = true) : withoutL (withL l f id).1 f id = (l, true) := by
  have hPO := trie_paths ht
  have h0 := trie_root_ids ht
  have hb : badId l f id = false := by
    cases e : badId l f id
    · rfl
    · unfold withL at hw; rw [if_pos ht, e] at hw; cases hw
  have hb2 := hb
  rw [bad_id hPO, Bool.or_eq_false_iff, Bool.or_eq_false_iff, Bool.not_eq_false', Bool.not_eq_false'] at hb2
  obtain ⟨hf, hid, hh⟩ := hb2
  obtain ⟨_, hgf, hne⟩ := filter_good hf
  obtain ⟨hk, _⟩ := with_keys ht hPO h0 hf hid
  rw [put_root id hPO h0 hgf, if_neg (by rw [hh]; simp)] at hk
  dsimp only at hk
  have hPO2 := trie_paths hr
  have h02 := trie_root_ids hr
  obtain ⟨w1, w2⟩ := without_keys (f := f) (id := id) hr hPO2 h02
  obtain ⟨hP, hm⟩ := preKeys_spec (pth f) (l.map keyK) [] hPO h0 hgf
  have hpi := pre_ids hPO h0 hgf
  have hin : pth f ∈ paths (preKeys (l.map keyK) [] (pth f)) := pre_has hPO h0 hgf
  have hPA : PathsOk (paths (addAt (preKeys (l.map keyK) [] (pth f)) (pth f) id)) := by rw [addAt_paths]; exact hP
  obtain ⟨a, ha, hae⟩ := mem_paths.1 hin
  have hia : a.2 = idsAt (l.map keyK) (pth f) := by have := idsAt_of hP ha; rw [hae, hpi] at this; exact this.symm
  have hid2 : idsAt (addAt (preKeys (l.map keyK) [] (pth f)) (pth f) id) (pth f) = into (idsAt (l.map keyK) (pth f)) id := by
    have hmem : (a.1, into a.2 id) ∈ addAt (preKeys (l.map keyK) [] (pth f)) (pth f) id := List.mem_map.2 ⟨a, ha, by rw [if_pos hae]⟩
    have := idsAt_of hPA hmem
    rw [hae] at this
    rw [this, hia]
  have hhas : hasId (into (idsAt (l.map keyK) (pth f)) id) id = true := hasId_iff.2 (into_mem.2 (.inl rfl))
  have hrem : remAt (addAt (preKeys (l.map keyK) [] (pth f)) (pth f) id) (pth f) id = preKeys (l.map keyK) [] (pth f) := by
    unfold remAt addAt
    rw [List.map_map]
    conv => rhs; rw [← List.map_id (preKeys (l.map keyK) [] (pth f))]
    apply List.map_congr_left
    intro b hb3
    simp only [Function.comp, id_eq]
    by_cases e : b.1 = pth f
    · rw [if_pos e]
      have hbi : hasId b.2 id = false := by
        have h1 := idsAt_of hP hb3
        rw [e, hpi] at h1
        rw [← h1]; exact hh
      have h2 := rem_into hbi
      unfold remI at h2
      rw [if_pos e, h2]
    · rw [if_neg e, if_neg e]
  rw [hk, take_root id hPA (by rw [addAt_paths]; exact root_in hP hin), hid2, if_pos hhas, hrem] at w1 w2
  have hpp := prune_pre hPO h0 (trie_needed ht) hgf (pth f).length (Nat.le_refl _)
  rw [List.take_length] at hpp
  rw [hpp] at w1
  exact Prod.ext (keys_inj w1) w2

theorem trie_of_keys {l : List KnotM} (hPO : PathsOk (paths (l.map keyK))) (h0 : headOk l = true) (hf : ∀ x ∈ l, pth x.1 ≠ [] → filterP (parts x.1 47) = true ∧ rises x.2 = true ∧ emptyAt (l.map keyK) (pth x.1) = false) : trieB l = true := by
  have hroot : ([] : PathM) ∈ paths (l.map keyK) := by
    cases l with
    | nil => simp [headOk] at h0
    | cons a l =>
      rw [headOk, Bool.and_eq_true, beq_iff_eq] at h0
      exact mem_paths.2 ⟨keyK a, by simp, pth_nil.2 h0.1⟩
  obtain ⟨b, L, hbl, hb, hL⟩ := head_root hPO hroot
  rw [trieB, h0, Bool.true_and]
  unfold knotsTo
  rw [List.all_eq_true]
  intro j hj
  rw [List.mem_range] at hj
  rw [Bool.or_eq_true, decide_eq_true_iff]
  by_cases h1 : j = 0
  · exact .inl h1
  · right
    have hj1 : j - 1 < l.length := by omega
    rw [knot_at hj, knot_at hj1]
    have hne : pth l[j].1 ≠ [] := by
      subst hbl
      obtain ⟨i, rfl⟩ : ∃ i, j = i + 1 := ⟨j - 1, by omega⟩
      rw [List.getElem_cons_succ]
      exact hL _ (List.getElem_mem _)
    obtain ⟨f1, f2, f3⟩ := hf _ (List.getElem_mem hj) hne
    have hin : pth l[j].1 ∈ paths (l.map keyK) := mem_paths.2 ⟨keyK l[j], List.mem_map_of_mem (List.getElem_mem hj), rfl⟩
    have hlt : less l[j - 1].1.toList l[j].1.toList = true := by
      have := rising_of hPO
      rw [List.pairwise_iff_getElem] at this
      have := this (j - 1) j (by simpa using hj1) (by simpa using hj) (by omega)
      simp only [List.getElem_map, keyK] at this
      rw [before_pth] at this; exact this
    have hab : 0 ≤ find l (above l[j].1) := by
      rw [find_paths, pth_above (hPO.good _ hin) hne]
      exact hPO.closed _ hin hne
    have hnd : (!(l[j].2.isEmpty) || childB l l[j].1) = true := by
      unfold emptyAt at f3
      rw [show idsAt (l.map keyK) (pth l[j].1) = l[j].2 from idsAt_of hPO (List.mem_map_of_mem (f := keyK) (List.getElem_mem hj)), ← child_keys hPO hroot] at f3
      cases h2 : l[j].2.isEmpty
      · rfl
      · rw [h2] at f3
        cases h3 : childB l l[j].1
        · rw [h3] at f3; cases f3
        · rfl
    rw [knotOk, leB_less, f1, f2, hnd, decide_eq_true hab, hlt]; rfl

theorem filter_take_ok {l : List ByteArray} {n : Nat} (h : filterP l = true) (h1 : 0 < n) (h2 : n ≤ l.length) : filterP (l.take n) = true := by
  have h6 : l.length ≤ 6 := by unfold filterP at h; rw [Bool.and_eq_true, decide_eq_true_iff] at h; exact h.1
  have hp : ∀ j (hj : j < l.length), partF l[j] (decide (j + 1 = l.length)) = true := fun j hj => by
    cases e : partF l[j] (decide (j + 1 = l.length))
    · rw [filterP_bad hj e] at h; cases h
    · rfl
  have hl : (l.take n).length = n := by rw [List.length_take]; omega
  rw [filterP_end]
  · rw [hl, decide_eq_true_iff]; omega
  · unfold filterTo
    rw [List.all_eq_true]
    intro j hj
    rw [List.mem_range, hl] at hj
    have e : (l.take n).getD j ByteArray.empty = l[j] := by rw [List.getD_eq_getElem?_getD, List.getElem?_take_of_lt hj, List.getElem?_eq_getElem (by omega)]; rfl
    rw [e, hl]
    have hq := hp j (by omega)
    by_cases hlast : j + 1 = l.length
    · rw [decide_eq_true (by omega : j + 1 = n)]
      rw [decide_eq_true hlast] at hq
      exact hq
    · rw [decide_eq_false hlast] at hq
      unfold partF at hq ⊢
      rw [Bool.false_and, Bool.or_false] at hq
      rw [hq]; rfl

theorem parts_of_pth {x f : ByteArray} {n : Nat} (hf : filterP (parts f 47) = true) (h1 : 0 < n) (hx : pth x = (pth f).take n) : parts x 47 = (parts f 47).take n := by
  obtain ⟨e1, _, hne⟩ := filter_good hf
  have hxn : x.data.toList ≠ [] := fun e => by
    have : pth x = [] := by unfold pth; rw [if_pos e]
    rw [this] at hx
    have := congrArg List.length hx
    rw [List.length_take, List.length_nil] at this
    have := List.length_pos_iff.2 hne
    omega
  have e2 : pth x = (parts x 47).map (·.data.toList) := by unfold pth; rw [if_neg hxn, parts_data]
  rw [e2, e1, ← List.map_take] at hx
  have inj : ∀ (a b : List ByteArray), a.map (·.data.toList) = b.map (·.data.toList) → a = b := fun a b h => by
    apply List.ext_getElem
    · have := congrArg List.length h; simpa using this
    · intro i h1 h2
      have := congrArg (fun L => L[i]?) h
      simp only [List.getElem?_map, List.getElem?_eq_getElem h1, List.getElem?_eq_getElem h2, Option.map_some, Option.some.injEq] at this
      exact name_eq (by rw [list_toList, list_toList]; exact this)
  exact inj _ _ hx

/-- A right trie with a number more is right. -/
theorem withL_right {l : List KnotM} {f : ByteArray} {id : Int} (ht : trieB l = true) : trieB (withL l f id).1 = true := by
  have hPO := trie_paths ht
  have h0 := trie_root_ids ht
  cases hb : badId l f id
  · have hb2 := hb
    rw [bad_id hPO, Bool.or_eq_false_iff, Bool.or_eq_false_iff, Bool.not_eq_false', Bool.not_eq_false'] at hb2
    obtain ⟨hf, hid, hh⟩ := hb2
    obtain ⟨_, hgf, hne⟩ := filter_good hf
    obtain ⟨hk, _⟩ := with_keys ht hPO h0 hf hid
    rw [put_root id hPO h0 hgf, if_neg (by rw [hh]; simp)] at hk
    dsimp only at hk
    obtain ⟨hP, hm⟩ := preKeys_spec (pth f) (l.map keyK) [] hPO h0 hgf
    have hpi := pre_ids hPO h0 hgf
    obtain ⟨M, hM⟩ : ∃ M, (withL l f id).1 = M := ⟨_, rfl⟩
    rw [hM] at hk ⊢
    have hPM : PathsOk (paths (M.map keyK)) := by rw [hk, addAt_paths]; exact hP
    have hpm : ∀ Q, Q ∈ paths (M.map keyK) ↔ Q ∈ paths (preKeys (l.map keyK) [] (pth f)) := fun Q => by rw [hk, addAt_paths]
    have hsub : ∀ Q ∈ paths (l.map keyK), Q ∈ paths (M.map keyK) := fun Q hQ => by
      rw [hpm]
      obtain ⟨a, ha, rfl⟩ := mem_paths.1 hQ
      exact mem_paths.2 ⟨a, (hm a).2 (.inl ha), rfl⟩
    have hFM : pth f ∈ paths (M.map keyK) := by rw [hpm]; exact pre_has hPO h0 hgf
    -- what each key is
    have hkey : ∀ x ∈ M, (pth x.1 = pth f ∧ x.2 = into (idsAt (l.map keyK) (pth f)) id) ∨ (pth x.1 ≠ pth f ∧ (keyK x ∈ l.map keyK ∨ (x.2 = [] ∧ pth x.1 ∉ paths (l.map keyK) ∧ ∃ n, 0 < n ∧ n ≤ (pth f).length ∧ pth x.1 = (pth f).take n))) := fun x hx => by
      have hx2 : keyK x ∈ addAt (preKeys (l.map keyK) [] (pth f)) (pth f) id := by rw [← hk]; exact List.mem_map_of_mem hx
      obtain ⟨b, hb3, e⟩ := List.mem_map.1 hx2
      by_cases e2 : b.1 = pth f
      · rw [if_pos e2] at e
        left
        have h1 : pth x.1 = b.1 := (congrArg Prod.fst e).symm
        have h2 : x.2 = into b.2 id := (congrArg Prod.snd e).symm
        have h3 := idsAt_of hP hb3
        rw [e2, hpi] at h3
        exact ⟨h1.trans e2, by rw [h2, h3]⟩
      · rw [if_neg e2] at e
        right
        subst e
        refine ⟨e2, ?_⟩
        rcases (hm (keyK x)).1 hb3 with h | ⟨h1, h2, n, h3, h4, h5⟩
        · exact .inl h
        · exact .inr ⟨h1, h2, n, by simpa using h3, by simpa using h4, by rw [List.nil_append] at h5; exact h5⟩
    refine trie_of_keys hPM ?_ fun x hx hxn => ?_
    · have hrM := hsub _ h0
      obtain ⟨b, L, rfl, hbb, _⟩ := head_root hPM hrM
      rw [headOk, Bool.and_eq_true, beq_iff_eq]
      refine ⟨pth_nil.1 hbb, ?_⟩
      rcases hkey b (by simp) with ⟨h1, _⟩ | ⟨_, h2 | ⟨_, h3, _⟩⟩
      · rw [hbb] at h1; exact absurd h1.symm hne
      · obtain ⟨y, hy, e⟩ := List.mem_map.1 h2
        have e1 : pth y.1 = [] := (congrArg Prod.fst e).trans hbb
        have e2 : y.2 = b.2 := congrArg (fun a : KeyM => a.2) e
        obtain ⟨c, L2, rfl, hcc, hcL⟩ := head_root hPO h0
        rcases List.mem_cons.1 hy with rfl | hy
        · have := trie_head ht
          rw [headOk, Bool.and_eq_true] at this
          rw [← e2]; exact this.2
        · exact absurd e1 (hcL y hy)
      · rw [hbb] at h3; exact absurd h0 h3
    · have hold : keyK x ∈ l.map keyK → filterP (parts x.1 47) = true ∧ rises x.2 = true := fun h => by
        obtain ⟨y, hy, e⟩ := List.mem_map.1 h
        have e1 : y.1 = x.1 := pth_same (congrArg Prod.fst e)
        have e2 : y.2 = x.2 := congrArg (fun a : KeyM => a.2) e
        obtain ⟨j, hj, rfl⟩ := List.mem_iff_getElem.1 hy
        obtain ⟨c, L2, rfl, hcc, _⟩ := head_root hPO h0
        have h1 : 1 ≤ j := by
          rcases Nat.lt_or_ge 0 j with h | h
          · exact h
          · obtain rfl : j = 0 := by omega
            rw [← e1] at hxn; exact absurd hcc hxn
        have := trie_at ht hj h1
        rw [← e1, ← e2]
        exact ⟨this.2.1, this.2.2.1⟩
      have hkid : ∀ Q, hasKid (l.map keyK) Q = true → hasKid (M.map keyK) Q = true := fun Q h => by
        obtain ⟨R, hR, h2⟩ := kid_has.1 h
        exact kid_has.2 ⟨R, hsub R hR, h2⟩
      have hidx : idsAt (M.map keyK) (pth x.1) = x.2 := idsAt_of hPM (List.mem_map_of_mem (f := keyK) hx)
      rcases hkey x hx with ⟨h1, h2⟩ | ⟨h1, h2 | ⟨h2, h3, n, h4, h5, h6⟩⟩
      · have hff : x.1 = f := pth_same h1
        refine ⟨by rw [hff]; exact hf, ?_, ?_⟩
        · rw [h2]
          refine into_rises ?_ hid hh
          by_cases hin : pth f ∈ paths (l.map keyK)
          · obtain ⟨a, ha, e⟩ := mem_paths.1 hin
            have := idsAt_of hPO ha
            rw [e] at this
            rw [this]
            obtain ⟨y, hy, rfl⟩ := List.mem_map.1 ha
            obtain ⟨j, hj, rfl⟩ := List.mem_iff_getElem.1 hy
            by_cases h1j : 1 ≤ j
            · exact (trie_at ht hj h1j).2.2.1
            · obtain rfl : j = 0 := by omega
              obtain ⟨c, L2, rfl, hcc, _⟩ := head_root hPO h0
              exact absurd (e.symm.trans hcc) hne
          · rw [idsAt_none hin]; rfl
        · unfold emptyAt
          rw [hidx, h2]
          have : (into (idsAt (l.map keyK) (pth f)) id).isEmpty = false := by
            rw [List.isEmpty_eq_false_iff]; intro e
            have := congrArg List.length e
            rw [into_length] at this; simp at this
          rw [this]; rfl
      · obtain ⟨a1, a2⟩ := hold h2
        refine ⟨a1, a2, ?_⟩
        have hn := trie_needed ht (pth x.1) (mem_paths.2 ⟨_, h2, rfl⟩) hxn
        unfold emptyAt at hn ⊢
        rw [show idsAt (l.map keyK) (pth x.1) = x.2 from idsAt_of hPO h2] at hn
        rw [hidx]
        cases he : x.2.isEmpty
        · rfl
        · rw [he] at hn
          cases hk2 : hasKid (l.map keyK) (pth x.1)
          · rw [hk2] at hn; cases hn
          · rw [hkid _ hk2]; rfl
      · refine ⟨?_, by rw [h2]; rfl, ?_⟩
        · rw [parts_of_pth hf h4 h6]
          refine filter_take_ok hf h4 ?_
          have := congrArg List.length (filter_good hf).1
          rw [List.length_map] at this; omega
        · have hlt : n < (pth f).length := by
            rcases Nat.lt_or_ge n (pth f).length with h | h
            · exact h
            · rw [List.take_of_length_le h] at h6; exact absurd h6 h1
          have hkd : hasKid (M.map keyK) (pth x.1) = true := by
            refine kid_has.2 ⟨(pth f).take (n + 1), ?_, fun e => ?_, ?_⟩
            · have := front_in hPM hFM ((pth f).length - (n + 1)) (n + 1) (by omega)
              exact this
            · have := congrArg List.length e; rw [List.length_take, List.length_nil] at this; omega
            · rw [h6, List.dropLast_eq_take, List.length_take, List.take_take, show min (min (n + 1) (pth f).length - 1) (n + 1) = n by omega]
          unfold emptyAt
          rw [hkd]; simp
  · unfold withL
    rw [if_pos ht, hb]; exact ht

end Go.Proofs.YtmfbffhbgelnnaaGreatDoor
