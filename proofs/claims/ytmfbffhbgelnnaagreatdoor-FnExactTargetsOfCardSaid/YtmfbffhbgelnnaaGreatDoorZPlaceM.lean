/- Where subs stand in a trie: the places of a trie, of who is live; a trie has just those of the live ones where the two lists are alike. -/
import Derived.Test.YtmfbffhbgelnnaaGreatDoorZB8
import Derived.Test.YtmfbffhbgelnnaaGreatDoorZB11
import Derived.Test.YtmfbffhbgelnnaaGreatDoorZB2
set_option linter.unusedSimpArgs false
set_option linter.unusedVariables false
namespace Go.Proofs.YtmfbffhbgelnnaaGreatDoor
open Go.RowKit Go.Sort

/-- A place: a filter, a number. -/
abbrev PlaceM := ByteArray × Int
def placeC (a b : PlaceM) : Int := if cmpT a.1 b.1 = 0 then cmpI a.2 b.2 else cmpT a.1 b.1
def placeLt (a b : PlaceM) : Bool := ltT a.1 b.1 || (sameT a.1 b.1 && decide (a.2 < b.2))

theorem sameT_eq {a b : ByteArray} : sameT a b = true ↔ a = b := by
  constructor
  · intro h; exact bytes_same h
  · rintro rfl; exact bytes_self _

theorem placeC_lt (a b : PlaceM) : ltOf placeC a b = placeLt a b := by
  unfold ltOf placeC placeLt
  have h1 := cmpT_lt a.1 b.1
  rcases ltT_tri a.1 b.1 with h | h | h
  · have hc : cmpT a.1 b.1 = -1 := by unfold cmpT; rw [if_pos h]
    rw [hc, h]; simp
  · have e := sameT_eq.1 h
    have hc : cmpT a.1 b.1 = 0 := by unfold cmpT; rw [e, ltT_irrefl]; simp
    rw [hc, if_pos rfl, h, e, ltT_irrefl, Bool.false_or, Bool.true_and]
    unfold cmpI
    by_cases h2 : a.2 < b.2
    · simp [h2]
    · by_cases h3 : b.2 < a.2
      · simp [h2, h3]
      · simp [h2, h3]
  · have hc : cmpT a.1 b.1 = 1 := by unfold cmpT; rw [ltT_asymm h, h]; simp
    rw [hc, ltT_asymm h, ltT_not_same2 h]; simp

theorem placeLt_irrefl (a : PlaceM) : placeLt a a = false := by
  unfold placeLt; rw [ltT_irrefl]; simp
theorem placeLt_trans {a b c : PlaceM} (h : placeLt a b = true) (k : placeLt b c = true) : placeLt a c = true := by
  unfold placeLt at *
  simp only [Bool.or_eq_true, Bool.and_eq_true, decide_eq_true_eq] at *
  rcases h with h | ⟨h, h2⟩
  · rcases k with k | ⟨k, k2⟩
    · left; exact ltT_trans h k
    · left; rw [← sameT_eq.1 k]; exact h
  · rcases k with k | ⟨k, k2⟩
    · left; rw [sameT_eq.1 h]; exact k
    · right; exact ⟨by rw [sameT_eq.1 h]; exact k, by omega⟩
theorem placeLt_tri (a b : PlaceM) : placeLt a b = true ∨ a = b ∨ placeLt b a = true := by
  unfold placeLt
  simp only [Bool.or_eq_true, Bool.and_eq_true, decide_eq_true_eq]
  rcases ltT_tri a.1 b.1 with h | h | h
  · exact .inl (.inl h)
  · have e := sameT_eq.1 h
    rcases Int.lt_trichotomy a.2 b.2 with h2 | h2 | h2
    · exact .inl (.inr ⟨h, h2⟩)
    · exact .inr (.inl (Prod.ext e h2))
    · exact .inr (.inr (.inr ⟨by rw [e]; exact bytes_self _, h2⟩))
  · exact .inr (.inr (.inl h))

theorem placeC_swo : SWO (ltOf placeC) where
  irrefl x := by rw [placeC_lt]; exact placeLt_irrefl _
  trans x y z h1 h2 := by rw [placeC_lt] at *; exact placeLt_trans h1 h2
  ntrans x y z h1 h2 := by
    rw [placeC_lt] at *
    cases h : placeLt x z
    · rfl
    · rcases placeLt_tri x y with k | k | k
      · rw [k] at h1; cases h1
      · rw [k, h2] at h; cases h
      · rw [placeLt_trans k h] at h2; cases h2

/-- The places of a trie. -/
def placesT (T : List KnotM) : List PlaceM := T.flatMap fun k => k.2.map fun i => (k.1, i)
/-- The places of the live ones of the first k subs. -/
def livesTo : List SubM → Nat → List PlaceM
  | _, 0 => []
  | l, k + 1 => match l[k]? with
    | some s => if s.live then livesTo l k ++ [(s.fil, (k : Int))] else livesTo l k
    | none => livesTo l k
theorem livesTo_live {l : List SubM} {k : Nat} (h : k < l.length) (hl : l[k].live = true) : livesTo l (k + 1) = livesTo l k ++ [(l[k].fil, (k : Int))] := by
  rw [livesTo, List.getElem?_eq_getElem h]
  simp only [hl, if_true]
theorem livesTo_dead {l : List SubM} {k : Nat} (h : k < l.length) (hl : l[k].live = false) : livesTo l (k + 1) = livesTo l k := by
  rw [livesTo, List.getElem?_eq_getElem h]
  simp [hl]
theorem livesTo_out {l : List SubM} {k : Nat} (h : ¬ k < l.length) : livesTo l (k + 1) = livesTo l k := by
  rw [livesTo, List.getElem?_eq_none (by omega)]
theorem livesTo_num {l : List SubM} : ∀ k, ∀ x ∈ livesTo l k, 0 ≤ x.2 ∧ x.2 < (k : Int)
  | 0, x, hx => by cases hx
  | k + 1, x, hx => by
    by_cases h : k < l.length
    · cases hl : l[k].live
      · rw [livesTo_dead h hl] at hx
        have := livesTo_num k x hx
        omega
      · rw [livesTo_live h hl] at hx
        rcases List.mem_append.1 hx with hx | hx
        · have := livesTo_num k x hx
          omega
        · rw [List.mem_singleton.1 hx]
          show (0 : Int) ≤ (k : Int) ∧ (k : Int) < _
          omega
    · rw [livesTo_out h] at hx
      have := livesTo_num k x hx
      omega
theorem livesTo_len {l : List SubM} : ∀ k, (livesTo l k).length ≤ k
  | 0 => by simp [livesTo]
  | k + 1 => by
    have := livesTo_len (l := l) k
    by_cases h : k < l.length
    · cases hl : l[k].live
      · rw [livesTo_dead h hl]; omega
      · rw [livesTo_live h hl, List.length_append]; simp; omega
    · rw [livesTo_out h]
      omega
theorem livesTo_nodup {l : List SubM} : ∀ k, (livesTo l k).Nodup
  | 0 => by simp [livesTo]
  | k + 1 => by
    have ih := livesTo_nodup (l := l) k
    by_cases h : k < l.length
    · cases hl : l[k].live
      · rw [livesTo_dead h hl]; exact ih
      · rw [livesTo_live h hl]
        refine List.nodup_append.2 ⟨ih, by simp, ?_⟩
        rintro a ha b hb rfl
        rw [List.mem_singleton.1 hb] at ha
        have := livesTo_num k _ ha
        dsimp only at this
        omega
    · rw [livesTo_out h]
      exact ih
theorem livesTo_fil {l : List SubM} : ∀ k, ∀ x ∈ livesTo l k, ∃ (j : Nat) (h : j < l.length), j < k ∧ x = (l[j].fil, (j : Int)) ∧ l[j].live = true
  | 0, x, hx => by cases hx
  | k + 1, x, hx => by
    by_cases h : k < l.length
    · cases hl : l[k].live
      · rw [livesTo_dead h hl] at hx
        obtain ⟨j, hj, h1, h2⟩ := livesTo_fil k x hx
        exact ⟨j, hj, by omega, h2⟩
      · rw [livesTo_live h hl] at hx
        rcases List.mem_append.1 hx with hx | hx
        · obtain ⟨j, hj, h1, h2⟩ := livesTo_fil k x hx
          exact ⟨j, hj, by omega, h2⟩
        · exact ⟨k, h, by omega, List.mem_singleton.1 hx, hl⟩
    · rw [livesTo_out h] at hx
      obtain ⟨j, hj, h1, h2⟩ := livesTo_fil k x hx
      exact ⟨j, hj, by omega, h2⟩

theorem keys_mem {T : List KnotM} (ht : trieB T = true) {f : ByteArray} {i : Int} : (f, i) ∈ placesT T ↔ i ∈ idsAt (T.map keyK) (pth f) := by
  rw [mem_ids (trie_paths ht)]
  unfold placesT
  rw [List.mem_flatMap]
  constructor
  · rintro ⟨k, hk, h⟩
    obtain ⟨y, hy, e⟩ := List.mem_map.1 h
    injection e with e1 e2
    subst e1 e2
    exact ⟨keyK k, List.mem_map_of_mem hk, rfl, hy⟩
  · rintro ⟨a, ha, e, hx⟩
    obtain ⟨k, hk, rfl⟩ := List.mem_map.1 ha
    have := pth_same e
    subst this
    exact ⟨k, hk, List.mem_map.2 ⟨i, hx, rfl⟩⟩

/-- The trie that the subs make has just the live ones' places. -/
theorem trieTo_lives {l : List SubM} {n : Int} {c : Bool} : ∀ k, k ≤ l.length → k ≤ 100 → subsB (l.take k) n c = true →
    trieB (trieTo l k) = true ∧ ∀ F x, x ∈ idsAt ((trieTo l k).map keyK) F ↔ ∃ f, (f, x) ∈ livesTo l k ∧ F = pth f
  | 0, _, _, _ => ⟨by rw [trieTo]; decide +kernel, fun F x => by rw [trieTo, bare_ids]; simp [livesTo]⟩
  | k + 1, hk, hc, hs => by
    have h : k < l.length := by omega
    have hs2 : subsB (l.take k) n c = true := by
      unfold subsB at hs ⊢
      rw [List.take_succ_eq_append_getElem h, List.all_append, Bool.and_eq_true] at hs
      exact hs.1
    have hsk : subB l[k] n c = true := by
      unfold subsB at hs
      rw [List.take_succ_eq_append_getElem h, List.all_append, Bool.and_eq_true] at hs
      simpa using hs.2
    have hf : filterP (parts l[k].fil 47) = true := by
      unfold subB at hsk
      rw [Bool.and_eq_true] at hsk
      exact hsk.1
    obtain ⟨ih, ihm⟩ := trieTo_lives k (by omega) (by omega) hs2
    rw [trieTo_succ h]
    cases hl : l[k].live
    · rw [stepT_dead hl, livesTo_dead h hl]
      exact ⟨ih, ihm⟩
    · rw [stepT_live hl, livesTo_live h hl]
      have hw : (withL (trieTo l k) l[k].fil (k : Int)).2 = true := withL_ok ih hf (idOk_iff.2 ⟨by omega, by omega⟩) fun hx => by
        obtain ⟨f, hm, _⟩ := (ihm _ _).1 hx
        have := livesTo_num k _ hm
        dsimp only at this
        omega
      refine ⟨withL_right ih, fun F x => ?_⟩
      rw [withL_has ih hw, ihm]
      constructor
      · rintro (⟨f, hm, e⟩ | ⟨e1, e2⟩)
        · exact ⟨f, List.mem_append.2 (.inl hm), e⟩
        · exact ⟨l[k].fil, List.mem_append.2 (.inr (by rw [e2]; simp)), e1⟩
      · rintro ⟨f, hm, e⟩
        rcases List.mem_append.1 hm with hm | hm
        · exact .inl ⟨f, hm, e⟩
        · have := List.mem_singleton.1 hm
          injection this with e1 e2
          exact .inr ⟨by rw [e, e1], e2⟩

/-- Each path of a right trie is the front part of one with numbers. -/
theorem trie_reach {l : List KnotM} (ht : trieB l = true) {Q : PathM} (hQ : Q ∈ paths (l.map keyK)) (hne : Q ≠ []) : ∃ R n x, x ∈ idsAt (l.map keyK) R ∧ Q = R.take n := by
  have hPO := trie_paths ht
  have hb : ∃ b, ∀ R ∈ paths (l.map keyK), R.length ≤ b := by
    generalize paths (l.map keyK) = L
    induction L with
    | nil => exact ⟨0, fun R hR => by cases hR⟩
    | cons A L ih =>
      obtain ⟨b, hb⟩ := ih
      exact ⟨b + A.length, fun R hR => by
        rcases List.mem_cons.1 hR with rfl | hR
        · omega
        · have := hb R hR; omega⟩
  obtain ⟨b, hb⟩ := hb
  have hall : ∀ d (Q : PathM), Q ∈ paths (l.map keyK) → Q ≠ [] → b < Q.length + d → ∃ R n x, x ∈ idsAt (l.map keyK) R ∧ Q = R.take n := fun d => by
    induction d with
    | zero => intro Q hQ _ h; have := hb Q hQ; omega
    | succ d ih =>
      intro Q hQ hne h
      obtain ⟨a, ha, rfl⟩ := mem_paths.1 hQ
      rcases (full_iff hPO ha).1 (trie_needed ht _ hQ hne) with h1 | ⟨R, hR, hR1, hR2⟩
      · cases e : a.2 with
        | nil => exact absurd e h1
        | cons y ys => exact ⟨a.1, a.1.length, y, (mem_ids hPO).2 ⟨a, ha, rfl, by rw [e]; simp⟩, by rw [List.take_length]⟩
      · have hlen := congrArg List.length hR2
        rw [List.length_dropLast] at hlen
        have := List.length_pos_iff.2 hR1
        obtain ⟨S, n, x, hx, e⟩ := ih R hR hR1 (by omega)
        refine ⟨S, min (R.length - 1) n, x, hx, ?_⟩
        rw [← hR2, List.dropLast_eq_take, e, List.take_take, ← e]
  exact hall (b + 1) Q hQ hne (by omega)

theorem trie_paths_iff {l : List KnotM} (ht : trieB l = true) (Q : PathM) : Q ∈ paths (l.map keyK) ↔ Q = [] ∨ ∃ R n x, x ∈ idsAt (l.map keyK) R ∧ Q = R.take n := by
  constructor
  · intro h
    by_cases hne : Q = []
    · exact .inl hne
    · exact .inr (trie_reach ht h hne)
  · rintro (rfl | ⟨R, n, x, hx, rfl⟩)
    · exact trie_root_ids ht
    · obtain ⟨a, ha, rfl, _⟩ := (mem_ids (trie_paths ht)).1 hx
      have hin : a.1 ∈ paths (l.map keyK) := mem_paths.2 ⟨a, ha, rfl⟩
      by_cases hn : n ≤ a.1.length
      · exact front_in (trie_paths ht) hin (a.1.length - n) n (by omega)
      · rw [List.take_of_length_le (by omega)]; exact hin

theorem trie_rises {T : List KnotM} (ht : trieB T = true) {k : KnotM} (hk : k ∈ T) : rises k.2 = true := by
  obtain ⟨j, hj, rfl⟩ := List.mem_iff_getElem.1 hk
  rcases Nat.eq_zero_or_pos j with h0 | h1
  · subst h0
    have hh := trie_head ht
    cases T with
    | nil => simp at hj
    | cons a T =>
      rw [headOk, Bool.and_eq_true] at hh
      show rises a.2 = true
      rw [List.isEmpty_iff.1 hh.2]; rfl
  · exact (trie_at ht hj h1).2.2.1

/-- A right trie is told by what numbers stand where. -/
theorem trie_ext {l m : List KnotM} (hl : trieB l = true) (hm : trieB m = true) (h : ∀ F x, x ∈ idsAt (l.map keyK) F ↔ x ∈ idsAt (m.map keyK) F) : l = m := by
  have hp : ∀ Q, Q ∈ paths (l.map keyK) ↔ Q ∈ paths (m.map keyK) := fun Q => by
    rw [trie_paths_iff hl, trie_paths_iff hm]
    simp only [h]
  have hr : ∀ {t : List KnotM} (ht : trieB t = true) {a : KeyM}, a ∈ t.map keyK → rises a.2 = true := fun {t} ht {a} ha => by
    obtain ⟨k, hk, rfl⟩ := List.mem_map.1 ha
    exact trie_rises ht hk
  have hs : ∀ {s t : List KnotM} (hs : trieB s = true) (ht : trieB t = true) (_ : ∀ F x, x ∈ idsAt (s.map keyK) F ↔ x ∈ idsAt (t.map keyK) F) (_ : ∀ Q, Q ∈ paths (s.map keyK) → Q ∈ paths (t.map keyK)) (a : KeyM), a ∈ s.map keyK → a ∈ t.map keyK := fun {s t} hs ht hi hq a ha => by
    obtain ⟨b, hb, e⟩ := mem_paths.1 (hq a.1 (mem_paths.2 ⟨a, ha, rfl⟩))
    have e2 : a.2 = b.2 := rises_ext (hr hs ha) (hr ht hb) fun x => by
      have := hi a.1 x
      rw [idsAt_of (trie_paths hs) ha, ← e, idsAt_of (trie_paths ht) hb] at this
      exact this
    have : a = b := Prod.ext e.symm e2
    rw [this]; exact hb
  exact keys_inj (keys_ext (trie_paths hl) (trie_paths hm) fun a => ⟨hs hl hm h (fun Q => (hp Q).1) a, hs hm hl (fun F x => (h F x).symm) (fun Q => (hp Q).2) a⟩)

/-- The places of a right trie rise. -/
theorem placesT_rise {T : List KnotM} (ht : trieB T = true) : (placesT T).Pairwise fun a b => placeLt a b = true := by
  have hs := rising_of (trie_paths ht)
  have hr : ∀ k ∈ T, k.2.Pairwise (· < ·) := fun k hk => (rises_pair.1 (trie_rises ht hk)).2
  clear ht
  unfold placesT
  induction T with
  | nil => simp
  | cons a T ih =>
    rw [List.flatMap_cons, List.pairwise_append]
    rw [List.map_cons, List.pairwise_cons] at hs
    refine ⟨?_, ih hs.2 fun k hk => hr k (List.mem_cons_of_mem _ hk), ?_⟩
    · rw [List.pairwise_map]
      refine (hr a (by simp)).imp fun h => ?_
      unfold placeLt
      rw [show sameT a.1 a.1 = true from bytes_self _, decide_eq_true h]; simp
    · intro x hx y hy
      obtain ⟨i, hi, rfl⟩ := List.mem_map.1 hx
      obtain ⟨k, hk, hy⟩ := List.mem_flatMap.1 hy
      obtain ⟨j, hj, rfl⟩ := List.mem_map.1 hy
      have h := hs.1 (keyK k) (List.mem_map_of_mem hk)
      have h2 : ltT a.1 k.1 = true := by
        have h3 : before (pth a.1) (pth k.1) = true := h
        rw [before_pth] at h3
        exact h3
      unfold placeLt
      dsimp only
      rw [h2]; rfl

/-- What the program asks of a trie: its places are the sorted live ones'. -/
theorem places_iff {l : List SubM} {n : Int} {c : Bool} {T : List KnotM} {S : List PlaceM} (hl : l.length ≤ 100) (hs : subsB l n c = true) (ht : trieB T = true)
    (hp : S.Perm (livesTo l l.length)) (ho : S.Pairwise fun x y => ltOf placeC y x = false) : placesT T = S ↔ trieTo l l.length = T := by
  obtain ⟨h1, h2⟩ := trieTo_lives (l := l) (n := n) (c := c) l.length (Nat.le_refl _) hl (by rw [List.take_length]; exact hs)
  have hm : ∀ f i, (f, i) ∈ livesTo l l.length ↔ i ∈ idsAt ((trieTo l l.length).map keyK) (pth f) := fun f i => by
    rw [h2]
    constructor
    · intro h; exact ⟨f, h, rfl⟩
    · rintro ⟨g, h, e⟩; rw [pth_same e]; exact h
  constructor
  · intro e
    refine trie_ext h1 ht fun F x => ?_
    rw [h2]
    constructor
    · rintro ⟨f, h, rfl⟩
      rw [← keys_mem ht, e]
      exact hp.mem_iff.2 h
    · intro h
      obtain ⟨a, ha, rfl, hx⟩ := (mem_ids (trie_paths ht)).1 h
      obtain ⟨k, hk, rfl⟩ := List.mem_map.1 ha
      refine ⟨k.1, ?_, rfl⟩
      rw [← hp.mem_iff, ← e, keys_mem ht]
      exact h
  · intro e
    have hso : S.Pairwise fun a b => placeLt a b = true := by
      have hnd : S.Nodup := hp.nodup_iff.2 (livesTo_nodup _)
      refine (List.pairwise_and_iff.2 ⟨ho, hnd⟩).imp fun {a b} h => ?_
      obtain ⟨h3, h4⟩ := h
      rw [placeC_lt] at h3
      rcases placeLt_tri a b with h | h | h
      · exact h
      · exact absurd h h4
      · rw [h] at h3; cases h3
    refine sorted_ext (fun a b => placeLt a b = true) (fun a h => by rw [placeLt_irrefl] at h; cases h) (fun a b c => placeLt_trans) (placesT_rise ht) hso fun x => ?_
    obtain ⟨f, i⟩ := x
    rw [keys_mem ht, ← e, ← hm, hp.mem_iff]

end Go.Proofs.YtmfbffhbgelnnaaGreatDoor
