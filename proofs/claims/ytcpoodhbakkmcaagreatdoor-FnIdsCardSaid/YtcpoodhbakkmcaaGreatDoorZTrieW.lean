/- WithId as mathematics, as the program's tree has it. -/
import Derived.Test.YtcpoodhbakkmcaaGreatDoorZTrieK
import Derived.Test.YtcpoodhbakkmcaaGreatDoorZNodeI
import Derived.Test.YtcpoodhbakkmcaaGreatDoorZB6
set_option linter.unusedSimpArgs false
set_option linter.unusedVariables false
namespace Go.Proofs.YtcpoodhbakkmcaaGreatDoor
open Go.RowKit

theorem before_pth (a b : ByteArray) : before (pth a) (pth b) = less a.toList b.toList := by unfold before; rw [jl_pth, jl_pth, list_toList, list_toList]

theorem pth_same {a b : ByteArray} (h : pth a = pth b) : a = b := by
  have := Array.toList_inj.1 (pth_inj h)
  cases a; cases b; congr

theorem pth_nil {p : ByteArray} : pth p = [] ↔ p.toList = [] := by
  rw [list_toList]
  unfold pth
  constructor
  · intro h
    by_cases e : p.data.toList = []
    · exact e
    · rw [if_neg e] at h
      have := congrArg jl h
      rw [jl_cut] at this
      exact this
  · intro h; rw [if_pos h]

theorem find_paths {l : List KnotM} {p : ByteArray} : 0 ≤ find l p ↔ pth p ∈ paths (l.map keyK) := by
  rw [find_ge, mem_paths]
  constructor
  · rintro ⟨x, hx, e⟩
    refine ⟨keyK x, List.mem_map_of_mem hx, ?_⟩
    have : x.1 = p := by
      rw [list_toList, list_toList] at e
      have := Array.toList_inj.1 e
      cases h1 : x.1; cases p; rw [h1] at this; congr
    show pth x.1 = pth p
    rw [this]
  · rintro ⟨a, ha, e⟩
    obtain ⟨x, hx, rfl⟩ := List.mem_map.1 ha
    exact ⟨x, hx, by rw [pth_same e]⟩

theorem putAt_spec {l : List KnotM} {p : ByteArray} (hs : (l.map keyK).Pairwise fun a b => before a.1 b.1 = true) : ∀ k, k ≤ l.length → (∀ j (h : j < l.length), k ≤ j → less p.toList l[j].1.toList = true) →
    (∀ j (h : j < l.length), putAt l p k ≤ j → less p.toList l[j].1.toList = true) ∧ (∀ j (h : j < l.length), j < putAt l p k → less p.toList l[j].1.toList = false)
  | 0, _, h => by
    rw [putAt]
    exact ⟨h, fun j _ hj => absurd hj (Nat.not_lt_zero _)⟩
  | k + 1, hk, h => by
    have hlt : k < l.length := by omega
    have e : l.getD k knotZ = l[k] := by rw [List.getD_eq_getElem?_getD, List.getElem?_eq_getElem hlt]; rfl
    rw [putAt, e]
    split
    · rename_i hb
      refine putAt_spec hs k (by omega) fun j hj hkj => ?_
      rcases Nat.lt_or_ge k j with h1 | h1
      · exact h j hj h1
      · obtain rfl : j = k := by omega
        exact hb
    · rename_i hb
      rw [Bool.not_eq_true] at hb
      refine ⟨h, fun j hj hjk => ?_⟩
      rcases Nat.lt_or_ge j k with h1 | h1
      · rw [List.pairwise_iff_getElem] at hs
        have h2 := hs j k (by simpa using hj) (by simpa using hlt) h1
        simp only [List.getElem_map, keyK] at h2
        rw [before_pth] at h2
        cases h3 : less p.toList l[j].1.toList
        · rfl
        · have := less_trans h3 h2; rw [show less p.toList l[k].1.toList = false from hb] at this; cases this
      · obtain rfl : j = k := by omega
        exact hb

theorem putAt_le (l : List KnotM) (p : ByteArray) : ∀ k, putAt l p k ≤ k
  | 0 => Nat.le_refl _
  | k + 1 => by
    rw [putAt]
    split
    · exact Nat.le_succ_of_le (putAt_le l p k)
    · exact Nat.le_refl _

/-- 'l3Put', as keys. -/
theorem put1_keys {l : List KnotM} {p : ByteArray} (hg : ∀ Q ∈ paths (l.map keyK), Good Q) (hs : (l.map keyK).Pairwise fun a b => before a.1 b.1 = true) (hp : Good (pth p)) : (put1 l p).map keyK = insP (l.map keyK) (pth p) := by
  unfold put1 insP
  by_cases h : pth p ∈ paths (l.map keyK)
  · rw [if_pos (find_paths.2 h), if_pos h]
  · rw [if_neg (fun e => h (find_paths.1 e)), if_neg h]
    obtain ⟨h1, h2⟩ := putAt_spec (p := p) hs l.length (Nat.le_refl _) (fun j hj h => by omega)
    have hmono : (l.map keyK).Pairwise (fun a b => before b.1 (pth p) = true → before a.1 (pth p) = true) := hs.imp (fun h h2 => before_trans h h2)
    have hc : (l.map keyK).countP (fun a => before a.1 (pth p)) = putAt l p l.length := by
      refine countP_edge _ _ _ (by rw [List.length_map]; exact putAt_le _ _ _) (fun t ht hlt => ?_) (fun t ht hle => ?_)
      · rw [List.length_map] at ht
        simp only [List.getElem_map, keyK]
        rcases before_tri (hg (pth l[t].1) (mem_paths.2 ⟨keyK l[t], List.mem_map_of_mem (List.getElem_mem ht), rfl⟩)) hp with h3 | h3 | h3
        · exact h3
        · exact absurd (mem_paths.2 ⟨keyK l[t], List.mem_map_of_mem (List.getElem_mem ht), h3⟩) h
        · rw [before_pth, h2 t ht hlt] at h3; cases h3
      · rw [List.length_map] at ht
        simp only [List.getElem_map, keyK]
        rw [before_pth]
        exact less_asymm (h1 t ht hle)
    rw [filter_take _ _ hmono, filter_drop (fun a : KeyM => before a.1 (pth p)) (fun a => before (pth p) a.1) _ hmono (fun a ha => ?_), hc]
    · unfold putK
      rw [List.map_append, List.map_cons, List.map_take, List.map_drop]; rfl
    · rcases before_tri (hg a.1 (mem_paths.2 ⟨a, ha, rfl⟩)) hp with h3 | h3 | h3
      · rw [h3, show before (pth p) a.1 = false from less_asymm h3]; rfl
      · exact absurd (mem_paths.2 ⟨a, ha, h3⟩) h
      · rw [h3, show before a.1 (pth p) = false from less_asymm h3]; rfl

theorem putsN_keys : ∀ (n : Nat) (l : List KnotM) (p : ByteArray), (∀ Q ∈ paths (l.map keyK), Good Q) → ((l.map keyK).Pairwise fun a b => before a.1 b.1 = true) → Good (pth p) → (putsN n l p).map keyK = upKeys n (l.map keyK) (pth p)
  | 0, _, _, _, _, _ => rfl
  | n + 1, l, p, hg, hs, hp => by
    rw [putsN, upKeys]
    by_cases h0 : pth p = []
    · rw [if_pos (pth_nil.1 h0), if_pos h0]
    · rw [if_neg (fun e => h0 (pth_nil.2 e)), if_neg h0]
      have e := put1_keys hg hs hp
      rw [putsN_keys n (put1 l p) (above p) (by
        rw [e]; intro Q hQ
        rcases (insP_paths hg hp Q).1 hQ with h | rfl
        · exact hg Q h
        · exact hp) (by rw [e]; exact insP_rising hs) (by rw [pth_above hp h0]; exact hp.dropLast), e, pth_above hp h0]

/-- One knot's numbers changed, as keys. -/
theorem set_keys {l : List KnotM} {k : Nat} {p : ByteArray} {I : List Int} (f : List Int → List Int) (hk : k < l.length) (hs : (l.map keyK).Pairwise fun a b => before a.1 b.1 = true) (hp : l[k].1.toList = p.toList) (hI : f l[k].2 = I) :
    (l.set k (l[k].1, I)).map keyK = (l.map keyK).map fun a => if a.1 = pth p then (a.1, f a.2) else a := by
  have e1 : l[k].1 = p := by
    rw [list_toList, list_toList] at hp
    have := Array.toList_inj.1 hp
    cases h1 : l[k].1; cases p; rw [h1] at this; congr
  apply List.ext_getElem
  · simp
  · intro j h1 h2
    simp only [List.length_map, List.length_set] at h1
    simp only [List.getElem_map, List.getElem_set]
    by_cases hj : k = j
    · subst hj
      rw [if_pos rfl, if_pos (show (keyK l[k]).1 = pth p by show pth l[k].1 = _; rw [e1]), ← hI]; rfl
    · rw [if_neg hj, if_neg]
      intro e
      have e2 : pth l[j].1 = pth l[k].1 := by rw [e1]; exact e
      rw [List.pairwise_iff_getElem] at hs
      rcases Nat.lt_or_gt_of_ne hj with h3 | h3
      · have := hs k j (by simpa using hk) (by simpa using h1) h3
        simp only [List.getElem_map, keyK] at this
        rw [e2, before_irrefl] at this; cases this
      · have := hs j k (by simpa using h1) (by simpa using hk) h3
        simp only [List.getElem_map, keyK] at this
        rw [e2, before_irrefl] at this; cases this

theorem good_len {P : PathM} (h : Good P) : P.length ≤ (jl P).length := by
  induction P with
  | nil => exact Nat.zero_le _
  | cons a P ih =>
    have ha := (h a (by simp)).1
    have := ih (fun p hp => h p (List.mem_cons_of_mem _ hp))
    have hl : 1 ≤ a.length := by cases a with | nil => exact absurd rfl ha | cons => simp
    cases P with
    | nil => simpa [jl] using hl
    | cons b P => rw [jl]; simp only [List.length_append, List.length_cons] at *; omega

/-- The reference's numbers at a path. -/
theorem ids_at {l : List KnotM} (hPO : PathsOk (paths (l.map keyK))) (p : ByteArray) : (if 0 ≤ find l p then (l.getD (find l p).toNat knotZ).2 else []) = idsAt (l.map keyK) (pth p) := by
  by_cases h : 0 ≤ find l p
  · rw [if_pos h]
    obtain ⟨j, hj, e, e2⟩ := find_pos h
    have e3 : l.getD (find l p).toNat knotZ = l[j] := by rw [e, Int.toNat_natCast, List.getD_eq_getElem?_getD, List.getElem?_eq_getElem hj]; rfl
    rw [e3]
    have e4 : l[j].1 = p := by
      rw [list_toList, list_toList] at e2
      have := Array.toList_inj.1 e2
      cases h1 : l[j].1; cases p; rw [h1] at this; congr
    have := idsAt_of hPO (List.mem_map_of_mem (f := keyK) (List.getElem_mem hj))
    rw [show (keyK l[j]).1 = pth p by show pth l[j].1 = _; rw [e4]] at this
    exact this.symm
  · rw [if_neg h, idsAt_none (fun e => h (find_paths.2 e))]

theorem bad_id {l : List KnotM} (hPO : PathsOk (paths (l.map keyK))) (f : ByteArray) (id : Int) : badId l f id = (!(filterP (parts f 47)) || (!(idOk id) || hasId (idsAt (l.map keyK) (pth f)) id)) := by
  unfold badId
  congr 2
  rw [← ids_at hPO]
  by_cases h : 0 ≤ find l f
  · rw [if_pos h, decide_eq_true h]; rfl
  · rw [if_neg h, decide_eq_false h]; rfl

/-- 'WithId' of the reference is what the program's put makes. -/
theorem with_keys {l : List KnotM} {f : ByteArray} {id : Int} (ht : trieB l = true) (hPO : PathsOk (paths (l.map keyK))) (h0 : ([] : PathM) ∈ paths (l.map keyK)) (hf : filterP (parts f 47) = true) (hid : idOk id = true) :
    (withL l f id).1.map keyK = (putKeys id (l.map keyK) [] (pth f)).1 ∧ (withL l f id).2 = (putKeys id (l.map keyK) [] (pth f)).2 := by
  obtain ⟨_, hgf, hne⟩ := filter_good hf
  rw [put_root id hPO h0 hgf]
  unfold withL
  rw [if_pos ht, bad_id hPO, hf, hid]
  simp only [Bool.not_true, Bool.false_or]
  by_cases hh : hasId (idsAt (l.map keyK) (pth f)) id = true
  · rw [if_pos hh, if_pos hh]; exact ⟨rfl, rfl⟩
  · rw [if_neg hh, if_neg hh]
    refine ⟨?_, rfl⟩
    have hk := putsN_keys f.size l f hPO.good (rising_of hPO) hgf
    have hn : (pth f).length ≤ f.size := by
      have := good_len hgf
      rw [jl_pth] at this
      simpa using this
    rw [up_pre hPO h0 hgf hn] at hk
    have hM : PathsOk (paths ((putsN f.size l f).map keyK)) := by rw [hk]; exact (preKeys_spec (pth f) (l.map keyK) [] hPO h0 hgf).1
    have hin : pth f ∈ paths ((putsN f.size l f).map keyK) := by rw [hk]; exact pre_has hPO h0 hgf
    obtain ⟨j, hj, e, e2⟩ := find_pos (find_paths.2 hin)
    show (setIds (putsN f.size l f) (find (putsN f.size l f) f).toNat id).map keyK = _
    unfold setIds
    rw [e, Int.toNat_natCast]
    have e3 : (putsN f.size l f).getD j knotZ = (putsN f.size l f)[j] := by rw [List.getD_eq_getElem?_getD, List.getElem?_eq_getElem hj]; rfl
    rw [e3, set_keys (fun I => into I id) hj (rising_of hM) e2 rfl, hk]
    rfl

/-- What a list of keys is as knots. -/
theorem keys_inj {l m : List KnotM} (h : l.map keyK = m.map keyK) : l = m := by
  apply List.ext_getElem
  · have := congrArg List.length h; simpa using this
  · intro i h1 h2
    have := congrArg (fun L => L[i]?) h
    simp only [List.getElem?_map, List.getElem?_eq_getElem h1, List.getElem?_eq_getElem h2, Option.map_some, Option.some.injEq] at this
    have e1 : pth l[i].1 = pth m[i].1 := congrArg (fun a : KeyM => a.1) this
    have e2 : l[i].2 = m[i].2 := congrArg (fun a : KeyM => a.2) this
    exact Prod.ext (pth_same e1) e2

end Go.Proofs.YtcpoodhbakkmcaaGreatDoor
