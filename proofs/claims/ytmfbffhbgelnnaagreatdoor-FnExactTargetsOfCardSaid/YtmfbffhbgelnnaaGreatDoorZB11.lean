/- Small texts, laid together. -/
import Derived.Test.YtmfbffhbgelnnaaGreatDoorZTrieB
set_option linter.unusedSimpArgs false
set_option linter.unusedVariables false
/- A right trie with a number less is right. -/
namespace Go.Proofs.YtmfbffhbgelnnaaGreatDoor
open Go.RowKit

theorem full_iff {K : List KeyM} {a : KeyM} (hK : PathsOk (paths K)) (ha : a ∈ K) : emptyAt K a.1 = false ↔ a.2 ≠ [] ∨ ∃ Q ∈ paths K, Q ≠ [] ∧ Q.dropLast = a.1 := by
  unfold emptyAt
  rw [idsAt_of hK ha, ← kid_has]
  cases hasKid K a.1 <;> cases a.2 <;> simp

theorem prune_right : ∀ (n : Nat) (K : List KeyM) (P : PathM), PathsOk (paths K) → P ∈ paths K → P.length ≤ n → (∀ a ∈ K, a.1 ≠ [] → a.1 ≠ P → emptyAt K a.1 = false) →
    PathsOk (paths (pruneK n K P)) ∧ (∀ a ∈ pruneK n K P, a ∈ K) ∧ (∀ a ∈ pruneK n K P, a.1 ≠ [] → emptyAt (pruneK n K P) a.1 = false) ∧ ∀ a ∈ K, a.1 = [] → a ∈ pruneK n K P
  | 0, K, P, hK, hP, hn, hI => by
    obtain rfl : P = [] := List.length_eq_zero_iff.1 (by omega)
    exact ⟨hK, fun a h => h, fun a ha hne => hI a ha hne hne, fun a h _ => h⟩
  | n + 1, K, P, hK, hP, hn, hI => by
    rw [pruneK]
    by_cases h1 : P = []
    · subst h1
      rw [if_pos rfl]
      exact ⟨hK, fun a h => h, fun a ha hne => hI a ha hne hne, fun a h _ => h⟩
    rw [if_neg h1]
    cases he : emptyAt K P
    · rw [if_neg (by simp)]
      refine ⟨hK, fun a h => h, fun a ha hne => ?_, fun a h _ => h⟩
      by_cases h2 : a.1 = P
      · rw [h2]; exact he
      · exact hI a ha hne h2
    · rw [if_pos rfl]
      have hC := cut_ok hK he
      have hmem : ∀ a, a ∈ cutAt K P ↔ a ∈ K ∧ a.1 ≠ P := fun a => by unfold cutAt; rw [List.mem_filter, decide_eq_true_iff]
      have hdl : P.dropLast ∈ paths (cutAt K P) := (cut_paths K P _).2 ⟨hK.closed P hP h1, empty_kid he P hP h1⟩
      obtain ⟨r1, r2, r3, r4⟩ := prune_right n (cutAt K P) P.dropLast hC hdl (by rw [List.length_dropLast]; omega) fun a ha hne hnd => by
        obtain ⟨ha1, ha2⟩ := (hmem a).1 ha
        have hf := (full_iff hK ha1).1 (hI a ha1 hne ha2)
        rw [full_iff hC ha]
        rcases hf with h | ⟨Q, hQ, hQ1, hQ2⟩
        · exact .inl h
        · refine .inr ⟨Q, (cut_paths K P Q).2 ⟨hQ, fun e => ?_⟩, hQ1, hQ2⟩
          rw [e] at hQ2; exact hnd hQ2.symm
      exact ⟨r1, fun a h => ((hmem a).1 (r2 a h)).1, r3, fun a ha h => r4 a ((hmem a).2 ⟨ha, fun e => h1 (e.symm.trans h)⟩) h⟩

theorem rises_filter {l : List Int} (p : Int → Bool) (h : rises l = true) : rises (l.filter p) = true := by
  rw [rises_pair] at h ⊢
  exact ⟨fun x hx => h.1 x (List.mem_filter.1 hx).1, h.2.filter _⟩

/-- A right trie with a number less is right. -/
theorem withoutL_right {l : List KnotM} {f : ByteArray} {id : Int} (ht : trieB l = true) : trieB (withoutL l f id).1 = true := by
  have hPO := trie_paths ht
  have h0 := trie_root_ids ht
  obtain ⟨hk, _⟩ := without_keys (f := f) (id := id) ht hPO h0
  rw [take_root id hPO h0] at hk
  by_cases hh : hasId (idsAt (l.map keyK) (pth f)) id = true
  · rw [if_pos hh] at hk
    dsimp only at hk
    have hF : pth f ∈ paths (l.map keyK) := by
      by_cases h : pth f ∈ paths (l.map keyK)
      · exact h
      · rw [idsAt_none h] at hh; cases hh
    have hRO : PathsOk (paths (remAt (l.map keyK) (pth f) id)) := by rw [remAt_paths]; exact hPO
    have hof : ∀ a ∈ remAt (l.map keyK) (pth f) id, ∃ b ∈ l.map keyK, a.1 = b.1 ∧ (a.2 = b.2 ∨ a.2 = b.2.filter (fun y => decide (y ≠ id))) ∧ (a.1 ≠ pth f → a = b) := fun a ha => by
      obtain ⟨b, hb, e⟩ := List.mem_map.1 ha
      refine ⟨b, hb, ?_⟩
      by_cases e2 : b.1 = pth f
      · rw [if_pos e2] at e; subst e
        exact ⟨rfl, .inr rfl, fun h => absurd e2 h⟩
      · rw [if_neg e2] at e; subst e
        exact ⟨rfl, .inl rfl, fun _ => rfl⟩
    obtain ⟨r1, r2, r3, r4⟩ := prune_right (pth f).length (remAt (l.map keyK) (pth f) id) (pth f) hRO (by rw [remAt_paths]; exact hF) (Nat.le_refl _) fun a ha hne hnf => by
      obtain ⟨b, hb, e1, _, e3⟩ := hof a ha
      have := e3 hnf
      subst this
      have hf := (full_iff hPO hb).1 (trie_needed ht a.1 (mem_paths.2 ⟨a, hb, rfl⟩) hne)
      rw [full_iff hRO ha, remAt_paths]
      exact hf
    obtain ⟨M, hM⟩ : ∃ M, (withoutL l f id).1 = M := ⟨_, rfl⟩
    rw [hM] at hk ⊢
    rw [← hk] at r1 r2 r3 r4
    have hroot : ([] : PathM) ∈ paths (M.map keyK) := by
      rw [← remAt_paths (l.map keyK) (pth f) id] at h0
      obtain ⟨a, ha, e⟩ := mem_paths.1 h0
      exact mem_paths.2 ⟨a, r4 a ha e, e⟩
    have hsrc : ∀ x ∈ M, ∃ y ∈ l, x.1 = y.1 ∧ (x.2 = y.2 ∨ x.2 = y.2.filter (fun z => decide (z ≠ id))) := fun x hx => by
      obtain ⟨b, hb, e1, e2, _⟩ := hof _ (r2 _ (List.mem_map_of_mem (f := keyK) hx))
      obtain ⟨y, hy, rfl⟩ := List.mem_map.1 hb
      exact ⟨y, hy, pth_same e1, e2⟩
    refine trie_of_keys r1 ?_ fun x hx hxn => ?_
    · obtain ⟨b, L, rfl, hbb, _⟩ := head_root r1 hroot
      rw [headOk, Bool.and_eq_true, beq_iff_eq]
      refine ⟨pth_nil.1 hbb, ?_⟩
      obtain ⟨y, hy, e1, e2⟩ := hsrc b (by simp)
      obtain ⟨c, L2, rfl, hcc, hcL⟩ := head_root hPO h0
      have hyc : y = c := by
        rcases List.mem_cons.1 hy with h | h
        · exact h
        · rw [e1] at hbb; exact absurd hbb (hcL y h)
      subst hyc
      have h := trie_head ht
      rw [headOk, Bool.and_eq_true] at h
      have hz : y.2 = [] := List.isEmpty_iff.1 h.2
      rcases e2 with e | e
      · rw [e]; exact h.2
      · rw [e, hz]; rfl
    · obtain ⟨y, hy, e1, e2⟩ := hsrc x hx
      obtain ⟨j, hj, rfl⟩ := List.mem_iff_getElem.1 hy
      have h1 : 1 ≤ j := by
        obtain ⟨c, L2, rfl, hcc, _⟩ := head_root hPO h0
        rcases Nat.lt_or_ge 0 j with h | h
        · exact h
        · obtain rfl : j = 0 := by omega
          rw [e1] at hxn; exact absurd hcc hxn
      have hta := trie_at ht hj h1
      refine ⟨by rw [e1]; exact hta.2.1, ?_, r3 (keyK x) (List.mem_map_of_mem (f := keyK) hx) hxn⟩
      rcases e2 with e | e
      · rw [e]; exact hta.2.2.1
      · rw [e]; exact rises_filter _ hta.2.2.1
  · rw [if_neg hh] at hk
    rw [keys_inj hk]; exact ht

theorem withoutL_done {l : List KnotM} {f : ByteArray} {id : Int} (h : (withoutL l f id).2 = true) : trieB l = true := by
  unfold withoutL at h
  split at h
  · assumption
  · cases h
theorem withL_done {l : List KnotM} {f : ByteArray} {id : Int} (h : (withL l f id).2 = true) : trieB l = true := by
  unfold withL at h
  split at h
  · assumption
  · cases h

end Go.Proofs.YtmfbffhbgelnnaaGreatDoor

/- What numbers stand at what path: with a number more, with a number less; the bare trie. -/
namespace Go.Proofs.YtmfbffhbgelnnaaGreatDoor
open Go.RowKit

theorem mem_ids {K : List KeyM} (hK : PathsOk (paths K)) {F : PathM} {x : Int} : x ∈ idsAt K F ↔ ∃ a ∈ K, a.1 = F ∧ x ∈ a.2 := by
  constructor
  · intro h
    by_cases hF : F ∈ paths K
    · obtain ⟨a, ha, rfl⟩ := mem_paths.1 hF
      exact ⟨a, ha, rfl, by rw [idsAt_of hK ha] at h; exact h⟩
    · rw [idsAt_none hF] at h; cases h
  · rintro ⟨a, ha, rfl, hx⟩
    rw [idsAt_of hK ha]; exact hx

/-- A number that is not there yet, at a right filter, is put in. -/
theorem withL_ok {l : List KnotM} {f : ByteArray} {id : Int} (ht : trieB l = true) (hf : filterP (parts f 47) = true) (hid : idOk id = true) (hn : id ∉ idsAt (l.map keyK) (pth f)) : (withL l f id).2 = true := by
  have hb : badId l f id = false := by
    rw [bad_id (trie_paths ht), hf, hid]
    cases h : hasId (idsAt (l.map keyK) (pth f)) id
    · rfl
    · exact absurd (hasId_iff.1 h) hn
  unfold withL
  rw [if_pos ht, hb]; rfl

theorem withL_has {l : List KnotM} {f : ByteArray} {id : Int} (ht : trieB l = true) (hw : (withL l f id).2 = true) (F : PathM) (x : Int) :
    x ∈ idsAt ((withL l f id).1.map keyK) F ↔ x ∈ idsAt (l.map keyK) F ∨ (F = pth f ∧ x = id) := by
  have hPO := trie_paths ht
  have h0 := trie_root_ids ht
  have hPM := trie_paths (withL_right (f := f) (id := id) ht)
  have hb : badId l f id = false := by
    cases e : badId l f id
    · rfl
    · unfold withL at hw; rw [if_pos ht, e] at hw; cases hw
  rw [bad_id hPO, Bool.or_eq_false_iff, Bool.or_eq_false_iff, Bool.not_eq_false', Bool.not_eq_false'] at hb
  obtain ⟨hf, hid, hh⟩ := hb
  obtain ⟨_, hgf, hne⟩ := filter_good hf
  obtain ⟨hk, _⟩ := with_keys ht hPO h0 hf hid
  rw [put_root id hPO h0 hgf, if_neg (by rw [hh]; simp)] at hk
  dsimp only at hk
  obtain ⟨hP, hm⟩ := preKeys_spec (pth f) (l.map keyK) [] hPO h0 hgf
  rw [mem_ids hPM, mem_ids hPO, hk]
  constructor
  · rintro ⟨a, ha, rfl, hx⟩
    obtain ⟨b, hb, e⟩ := List.mem_map.1 ha
    have hbk : ∀ y, y ∈ b.2 → b ∈ l.map keyK := fun y hy => by
      rcases (hm b).1 hb with h | ⟨h, _⟩
      · exact h
      · rw [h] at hy; cases hy
    by_cases e2 : b.1 = pth f
    · rw [if_pos e2] at e; subst e
      rcases into_mem.1 hx with h | h
      · exact .inr ⟨e2, h⟩
      · exact .inl ⟨b, hbk _ h, rfl, h⟩
    · rw [if_neg e2] at e; subst e
      exact .inl ⟨b, hbk _ hx, rfl, hx⟩
  · rintro (⟨b, hb, rfl, hx⟩ | ⟨rfl, rfl⟩)
    · refine ⟨if b.1 = pth f then (b.1, into b.2 id) else b, List.mem_map_of_mem ((hm b).2 (.inl hb)), ?_, ?_⟩
      · split <;> rfl
      · split
        · exact into_mem.2 (.inr hx)
        · exact hx
    · obtain ⟨b, hb, e⟩ := mem_paths.1 (pre_has hPO h0 hgf)
      refine ⟨if b.1 = pth f then (b.1, into b.2 x) else b, List.mem_map_of_mem hb, ?_, ?_⟩
      · rw [if_pos e]; exact e
      · rw [if_pos e]; exact into_mem.2 (.inl rfl)

theorem prune_keeps : ∀ (n : Nat) (K : List KeyM) (P : PathM) (a : KeyM), PathsOk (paths K) → a ∈ K → a.2 ≠ [] → a ∈ pruneK n K P
  | 0, _, _, _, _, ha, _ => ha
  | n + 1, K, P, a, hK, ha, h2 => by
    rw [pruneK]
    split
    · exact ha
    · split
      · rename_i he
        refine prune_keeps n (cutAt K P) P.dropLast a (cut_ok hK he) ?_ h2
        unfold cutAt
        rw [List.mem_filter, decide_eq_true_iff]
        refine ⟨ha, fun e => ?_⟩
        rw [← e] at he
        unfold emptyAt at he
        rw [idsAt_of hK ha, Bool.and_eq_true, List.isEmpty_iff] at he
        exact h2 he.1
      · exact ha

theorem withoutL_has {l : List KnotM} {f : ByteArray} {id : Int} (ht : trieB l = true) (F : PathM) (x : Int) :
    x ∈ idsAt ((withoutL l f id).1.map keyK) F ↔ x ∈ idsAt (l.map keyK) F ∧ ¬ (F = pth f ∧ x = id) := by
  have hPO := trie_paths ht
  have h0 := trie_root_ids ht
  have hPM := trie_paths (withoutL_right (f := f) (id := id) ht)
  obtain ⟨hk, _⟩ := without_keys (f := f) (id := id) ht hPO h0
  rw [take_root id hPO h0] at hk
  by_cases hh : hasId (idsAt (l.map keyK) (pth f)) id = true
  · rw [if_pos hh] at hk
    dsimp only at hk
    have hF : pth f ∈ paths (l.map keyK) := by
      by_cases h : pth f ∈ paths (l.map keyK)
      · exact h
      · rw [idsAt_none h] at hh; cases hh
    have hRO : PathsOk (paths (remAt (l.map keyK) (pth f) id)) := by rw [remAt_paths]; exact hPO
    obtain ⟨_, r2, _, _⟩ := prune_right (pth f).length (remAt (l.map keyK) (pth f) id) (pth f) hRO (by rw [remAt_paths]; exact hF) (Nat.le_refl _) fun a ha hne hnf => by
      obtain ⟨b, hb, e⟩ := List.mem_map.1 ha
      have hbf : b.1 ≠ pth f := fun e2 => by rw [if_pos e2] at e; subst e; exact hnf e2
      rw [if_neg hbf] at e; subst e
      have hf := (full_iff hPO hb).1 (trie_needed ht b.1 (mem_paths.2 ⟨b, hb, rfl⟩) hne)
      rw [full_iff hRO ha, remAt_paths]
      exact hf
    rw [mem_ids hPM, mem_ids hPO, hk]
    constructor
    · rintro ⟨a, ha, rfl, hx⟩
      obtain ⟨b, hb, e⟩ := List.mem_map.1 (r2 a ha)
      by_cases e2 : b.1 = pth f
      · rw [if_pos e2] at e; subst e
        obtain ⟨h1, h2⟩ := List.mem_filter.1 hx
        rw [decide_eq_true_iff] at h2
        exact ⟨⟨b, hb, rfl, h1⟩, fun h => h2 h.2⟩
      · rw [if_neg e2] at e; subst e
        exact ⟨⟨b, hb, rfl, hx⟩, fun h => e2 h.1⟩
    · rintro ⟨⟨b, hb, rfl, hx⟩, hn⟩
      have hin : (if b.1 = pth f then (b.1, b.2.filter (fun y => decide (y ≠ id))) else b) ∈ remAt (l.map keyK) (pth f) id := List.mem_map_of_mem hb
      by_cases e2 : b.1 = pth f
      · rw [if_pos e2] at hin
        have hx2 : x ∈ b.2.filter (fun y => decide (y ≠ id)) := List.mem_filter.2 ⟨hx, decide_eq_true fun e => hn ⟨e2, e⟩⟩
        exact ⟨_, prune_keeps _ _ _ _ hRO hin (List.ne_nil_of_mem hx2), rfl, hx2⟩
      · rw [if_neg e2] at hin
        exact ⟨b, prune_keeps _ _ _ _ hRO hin (List.ne_nil_of_mem hx), rfl, hx⟩
  · rw [if_neg hh] at hk
    rw [hk]
    refine ⟨fun h => ⟨h, fun ⟨e1, e2⟩ => ?_⟩, fun h => h.1⟩
    subst e1; subst e2
    exact hh (hasId_iff.2 h)

/-- A right trie without a number is the bare one. -/
theorem trie_bare {l : List KnotM} (ht : trieB l = true) (h : ∀ F x, x ∉ idsAt (l.map keyK) F) : l = [knotZ] := by
  have hPO := trie_paths ht
  have h0 := trie_root_ids ht
  have hall : ∀ n, ∀ Q ∈ paths (l.map keyK), Q ≠ [] → Q.length = n → ∃ R ∈ paths (l.map keyK), R.length = n + 1 := fun n Q hQ hne hn => by
    obtain ⟨a, ha, rfl⟩ := mem_paths.1 hQ
    rcases (full_iff hPO ha).1 (trie_needed ht _ hQ hne) with h1 | ⟨R, hR, hR1, hR2⟩
    · cases e : a.2 with
      | nil => exact absurd e h1
      | cons y ys => exact absurd ((mem_ids hPO).2 ⟨a, ha, rfl, by rw [e]; simp⟩) (h a.1 y)
    · refine ⟨R, hR, ?_⟩
      have := congrArg List.length hR2
      rw [List.length_dropLast] at this
      have := List.length_pos_iff.2 hR1
      omega
  have hno : ∀ Q ∈ paths (l.map keyK), Q = [] := fun Q hQ => by
    by_cases hne : Q = []
    · exact hne
    · have hup : ∀ d, ∃ R ∈ paths (l.map keyK), R.length = Q.length + d := fun d => by
        induction d with
        | zero => exact ⟨Q, hQ, rfl⟩
        | succ d ih =>
          obtain ⟨R, hR, hl⟩ := ih
          have hRn : R ≠ [] := fun e => by rw [e] at hl; have := List.length_pos_iff.2 hne; simp at hl; omega
          obtain ⟨S, hS, hS2⟩ := hall _ R hR hRn rfl
          exact ⟨S, hS, by omega⟩
      have hb : ∃ b, ∀ R ∈ paths (l.map keyK), R.length ≤ b := by
        generalize paths (l.map keyK) = L
        induction L with
        | nil => exact ⟨0, fun R hR => by cases hR⟩
        | cons A L ih =>
          obtain ⟨b, hb⟩ := ih
          exact ⟨b + A.length, fun R hR => by
            rcases List.mem_cons.1 hR with rfl | hR
            · omega
            · have := hb R hR; omega⟩
      obtain ⟨b, hb⟩ := hb
      obtain ⟨R, hR, hl⟩ := hup (b + 1)
      have := hb R hR
      omega
  obtain ⟨c, L, rfl, hc, hL⟩ := head_root hPO h0
  have hLn : L = [] := by
    cases L with
    | nil => rfl
    | cons y L => exact absurd (hno (pth y.1) (mem_paths.2 ⟨keyK y, by simp, rfl⟩)) (hL y (by simp))
  subst hLn
  have hh := trie_head ht
  rw [headOk, Bool.and_eq_true, beq_iff_eq] at hh
  have e1 : c.1 = ⟨#[]⟩ := name_eq (by rw [hh.1, list_toList])
  have e2 : c.2 = [] := List.isEmpty_iff.1 hh.2
  have : c = knotZ := Prod.ext e1 e2
  rw [this]

theorem bare_ids (F : PathM) : idsAt ([knotZ].map keyK) F = [] := by
  unfold idsAt
  rw [List.map_cons, List.map_nil]
  by_cases e : (keyK knotZ).1 = F
  · rw [List.find?_cons_of_pos (by simpa using e)]; rfl
  · rw [List.find?_cons_of_neg (by simpa using e)]; rfl

end Go.Proofs.YtmfbffhbgelnnaaGreatDoor
