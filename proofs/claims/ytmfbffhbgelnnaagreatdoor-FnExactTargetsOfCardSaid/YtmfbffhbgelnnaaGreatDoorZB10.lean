/- Small texts, laid together. -/
import Derived.Test.YtmfbffhbgelnnaaGreatDoorZTrieK
import Derived.Test.YtmfbffhbgelnnaaGreatDoorZNodeI
import Derived.Test.YtmfbffhbgelnnaaGreatDoorZB8
set_option linter.unusedSimpArgs false
set_option linter.unusedVariables false
/- WithId as mathematics, as the program's tree has it. -/
namespace Go.Proofs.YtmfbffhbgelnnaaGreatDoor
open Go.RowKit

theorem before_pth (a b : ByteArray) : before (pth a) (pth b) = less a.toList b.toList := by unfold before; rw [jl_pth, jl_pth, list_toList, list_toList]

theorem pth_same {a b : ByteArray} (h : pth a = pth b) : a = b := by
  have := Array.toList_inj.1 (pth_inj h)
  cases a; cases b; congr

theorem pth_nil {p : ByteArray} : pth p = [] ↔ p.toList = [] := by
  rw [list_toList]
  unfold pth
  constructor
  · intro h
    by_cases e : p.data.toList = []
    · exact e
    · rw [if_neg e] at h
      have := congrArg jl h
      rw [jl_cut] at this
      exact this
  · intro h; rw [if_pos h]

theorem find_paths {l : List KnotM} {p : ByteArray} : 0 ≤ find l p ↔ pth p ∈ paths (l.map keyK) := by
  rw [find_ge, mem_paths]
  constructor
  · rintro ⟨x, hx, e⟩
    refine ⟨keyK x, List.mem_map_of_mem hx, ?_⟩
    have : x.1 = p := by
      rw [list_toList, list_toList] at e
      have := Array.toList_inj.1 e
      cases h1 : x.1; cases p; rw [h1] at this; congr
    show pth x.1 = pth p
    rw [this]
  · rintro ⟨a, ha, e⟩
    obtain ⟨x, hx, rfl⟩ := List.mem_map.1 ha
    exact ⟨x, hx, by rw [pth_same e]⟩

theorem putAt_spec {l : List KnotM} {p : ByteArray} (hs : (l.map keyK).Pairwise fun a b => before a.1 b.1 = true) : ∀ k, k ≤ l.length → (∀ j (h : j < l.length), k ≤ j → less p.toList l[j].1.toList = true) →
    (∀ j (h : j < l.length), putAt l p k ≤ j → less p.toList l[j].1.toList = true) ∧ (∀ j (h : j < l.length), j < putAt l p k → less p.toList l[j].1.toList = false)
  | 0, _, h => by
    rw [putAt]
    exact ⟨h, fun j _ hj => absurd hj (Nat.not_lt_zero _)⟩
  | k + 1, hk, h => by
    have hlt : k < l.length := by omega
    have e : l.getD k knotZ = l[k] := by rw [List.getD_eq_getElem?_getD, List.getElem?_eq_getElem hlt]; rfl
    rw [putAt, e]
    split
    · rename_i hb
      refine putAt_spec hs k (by omega) fun j hj hkj => ?_
      rcases Nat.lt_or_ge k j with h1 | h1
      · exact h j hj h1
      · obtain rfl : j = k := by omega
        exact hb
    · rename_i hb
      rw [Bool.not_eq_true] at hb
      refine ⟨h, fun j hj hjk => ?_⟩
      rcases Nat.lt_or_ge j k with h1 | h1
      · rw [List.pairwise_iff_getElem] at hs
        have h2 := hs j k (by simpa using hj) (by simpa using hlt) h1
        simp only [List.getElem_map, keyK] at h2
        rw [before_pth] at h2
        cases h3 : less p.toList l[j].1.toList
        · rfl
        · have := less_trans h3 h2; rw [show less p.toList l[k].1.toList = false from hb] at this; cases this
      · obtain rfl : j = k := by omega
        exact hb

theorem putAt_le (l : List KnotM) (p : ByteArray) : ∀ k, putAt l p k ≤ k
  | 0 => Nat.le_refl _
  | k + 1 => by
    rw [putAt]
    split
    · exact Nat.le_succ_of_le (putAt_le l p k)
    · exact Nat.le_refl _

/-- 'l3Put', as keys. -/
theorem put1_keys {l : List KnotM} {p : ByteArray} (hg : ∀ Q ∈ paths (l.map keyK), Good Q) (hs : (l.map keyK).Pairwise fun a b => before a.1 b.1 = true) (hp : Good (pth p)) : (put1 l p).map keyK = insP (l.map keyK) (pth p) := by
  unfold put1 insP
  by_cases h : pth p ∈ paths (l.map keyK)
  · rw [if_pos (find_paths.2 h), if_pos h]
  · rw [if_neg (fun e => h (find_paths.1 e)), if_neg h]
    obtain ⟨h1, h2⟩ := putAt_spec (p := p) hs l.length (Nat.le_refl _) (fun j hj h => by omega)
    have hmono : (l.map keyK).Pairwise (fun a b => before b.1 (pth p) = true → before a.1 (pth p) = true) := hs.imp (fun h h2 => before_trans h h2)
    have hc : (l.map keyK).countP (fun a => before a.1 (pth p)) = putAt l p l.length := by
      refine countP_edge _ _ _ (by rw [List.length_map]; exact putAt_le _ _ _) (fun t ht hlt => ?_) (fun t ht hle => ?_)
      · rw [List.length_map] at ht
        simp only [List.getElem_map, keyK]
        rcases before_tri (hg (pth l[t].1) (mem_paths.2 ⟨keyK l[t], List.mem_map_of_mem (List.getElem_mem ht), rfl⟩)) hp with h3 | h3 | h3
        · exact h3
        · exact absurd (mem_paths.2 ⟨keyK l[t], List.mem_map_of_mem (List.getElem_mem ht), h3⟩) h
        · rw [before_pth, h2 t ht hlt] at h3; cases h3
      · rw [List.length_map] at ht
        simp only [List.getElem_map, keyK]
        rw [before_pth]
        exact less_asymm (h1 t ht hle)
    rw [filter_take _ _ hmono, filter_drop (fun a : KeyM => before a.1 (pth p)) (fun a => before (pth p) a.1) _ hmono (fun a ha => ?_), hc]
    · unfold putK
      rw [List.map_append, List.map_cons, List.map_take, List.map_drop]; rfl
    · rcases before_tri (hg a.1 (mem_paths.2 ⟨a, ha, rfl⟩)) hp with h3 | h3 | h3
      · rw [h3, show before (pth p) a.1 = false from less_asymm h3]; rfl
      · exact absurd (mem_paths.2 ⟨a, ha, h3⟩) h
      · rw [h3, show before a.1 (pth p) = false from less_asymm h3]; rfl

theorem putsN_keys : ∀ (n : Nat) (l : List KnotM) (p : ByteArray), (∀ Q ∈ paths (l.map keyK), Good Q) → ((l.map keyK).Pairwise fun a b => before a.1 b.1 = true) → Good (pth p) → (putsN n l p).map keyK = upKeys n (l.map keyK) (pth p)
  | 0, _, _, _, _, _ => rfl
  | n + 1, l, p, hg, hs, hp => by
    rw [putsN, upKeys]
    by_cases h0 : pth p = []
    · rw [if_pos (pth_nil.1 h0), if_pos h0]
    · rw [if_neg (fun e => h0 (pth_nil.2 e)), if_neg h0]
      have e := put1_keys hg hs hp
      rw [putsN_keys n (put1 l p) (above p) (by
        rw [e]; intro Q hQ
        rcases (insP_paths hg hp Q).1 hQ with h | rfl
        · exact hg Q h
        · exact hp) (by rw [e]; exact insP_rising hs) (by rw [pth_above hp h0]; exact hp.dropLast), e, pth_above hp h0]

/-- One knot's numbers changed, as keys. -/
theorem set_keys {l : List KnotM} {k : Nat} {p : ByteArray} {I : List Int} (f : List Int → List Int) (hk : k < l.length) (hs : (l.map keyK).Pairwise fun a b => before a.1 b.1 = true) (hp : l[k].1.toList = p.toList) (hI : f l[k].2 = I) :
    (l.set k (l[k].1, I)).map keyK = (l.map keyK).map fun a => if a.1 = pth p then (a.1, f a.2) else a := by
  have e1 : l[k].1 = p := by
    rw [list_toList, list_toList] at hp
    have := Array.toList_inj.1 hp
    cases h1 : l[k].1; cases p; rw [h1] at this; congr
  apply List.ext_getElem
  · simp
  · intro j h1 h2
    simp only [List.length_map, List.length_set] at h1
    simp only [List.getElem_map, List.getElem_set]
    by_cases hj : k = j
    · subst hj
      rw [if_pos rfl, if_pos (show (keyK l[k]).1 = pth p by show pth l[k].1 = _; rw [e1]), ← hI]; rfl
    · rw [if_neg hj, if_neg]
      intro e
      have e2 : pth l[j].1 = pth l[k].1 := by rw [e1]; exact e
      rw [List.pairwise_iff_getElem] at hs
      rcases Nat.lt_or_gt_of_ne hj with h3 | h3
      · have := hs k j (by simpa using hk) (by simpa using h1) h3
        simp only [List.getElem_map, keyK] at this
        rw [e2, before_irrefl] at this; cases this
      · have := hs j k (by simpa using h1) (by simpa using hk) h3
        simp only [List.getElem_map, keyK] at this
        rw [e2, before_irrefl] at this; cases this

theorem good_len {P : PathM} (h : Good P) : P.length ≤ (jl P).length := by
  induction P with
  | nil => exact Nat.zero_le _
  | cons a P ih =>
    have ha := (h a (by simp)).1
    have := ih (fun p hp => h p (List.mem_cons_of_mem _ hp))
    have hl : 1 ≤ a.length := by cases a with | nil => exact absurd rfl ha | cons => simp
    cases P with
    | nil => simpa [jl] using hl
    | cons b P => rw [jl]; simp only [List.length_append, List.length_cons] at *; omega

/-- The reference's numbers at a path. -/
theorem ids_at {l : List KnotM} (hPO : PathsOk (paths (l.map keyK))) (p : ByteArray) : (if 0 ≤ find l p then (l.getD (find l p).toNat knotZ).2 else []) = idsAt (l.map keyK) (pth p) := by
  by_cases h : 0 ≤ find l p
  · rw [if_pos h]
    obtain ⟨j, hj, e, e2⟩ := find_pos h
    have e3 : l.getD (find l p).toNat knotZ = l[j] := by rw [e, Int.toNat_natCast, List.getD_eq_getElem?_getD, List.getElem?_eq_getElem hj]; rfl
    rw [e3]
    have e4 : l[j].1 = p := by
      rw [list_toList, list_toList] at e2
      have := Array.toList_inj.1 e2
      cases h1 : l[j].1; cases p; rw [h1] at this; congr
    have := idsAt_of hPO (List.mem_map_of_mem (f := keyK) (List.getElem_mem hj))
    rw [show (keyK l[j]).1 = pth p by show pth l[j].1 = _; rw [e4]] at this
    exact this.symm
  · rw [if_neg h, idsAt_none (fun e => h (find_paths.2 e))]

theorem bad_id {l : List KnotM} (hPO : PathsOk (paths (l.map keyK))) (f : ByteArray) (id : Int) : badId l f id = (!(filterP (parts f 47)) || (!(idOk id) || hasId (idsAt (l.map keyK) (pth f)) id)) := by
  unfold badId
  congr 2
  rw [← ids_at hPO]
  by_cases h : 0 ≤ find l f
  · rw [if_pos h, decide_eq_true h]; rfl
  · rw [if_neg h, decide_eq_false h]; rfl

/-- 'WithId' of the reference is what the program's put makes. -/
theorem with_keys {l : List KnotM} {f : ByteArray} {id : Int} (ht : trieB l = true) (hPO : PathsOk (paths (l.map keyK))) (h0 : ([] : PathM) ∈ paths (l.map keyK)) (hf : filterP (parts f 47) = true) (hid : idOk id = true) :
    (withL l f id).1.map keyK = (putKeys id (l.map keyK) [] (pth f)).1 ∧ (withL l f id).2 = (putKeys id (l.map keyK) [] (pth f)).2 := by
  obtain ⟨_, hgf, hne⟩ := filter_good hf
  rw [put_root id hPO h0 hgf]
  unfold withL
  rw [if_pos ht, bad_id hPO, hf, hid]
  simp only [Bool.not_true, Bool.false_or]
  by_cases hh : hasId (idsAt (l.map keyK) (pth f)) id = true
  · rw [if_pos hh, if_pos hh]; exact ⟨rfl, rfl⟩
  · rw [if_neg hh, if_neg hh]
    refine ⟨?_, rfl⟩
    have hk := putsN_keys f.size l f hPO.good (rising_of hPO) hgf
    have hn : (pth f).length ≤ f.size := by
      have := good_len hgf
      rw [jl_pth] at this
      simpa using this
    rw [up_pre hPO h0 hgf hn] at hk
    have hM : PathsOk (paths ((putsN f.size l f).map keyK)) := by rw [hk]; exact (preKeys_spec (pth f) (l.map keyK) [] hPO h0 hgf).1
    have hin : pth f ∈ paths ((putsN f.size l f).map keyK) := by rw [hk]; exact pre_has hPO h0 hgf
    obtain ⟨j, hj, e, e2⟩ := find_pos (find_paths.2 hin)
    show (setIds (putsN f.size l f) (find (putsN f.size l f) f).toNat id).map keyK = _
    unfold setIds
    rw [e, Int.toNat_natCast]
    have e3 : (putsN f.size l f).getD j knotZ = (putsN f.size l f)[j] := by rw [List.getD_eq_getElem?_getD, List.getElem?_eq_getElem hj]; rfl
    rw [e3, set_keys (fun I => into I id) hj (rising_of hM) e2 rfl, hk]
    rfl

/-- What a list of keys is as knots. -/
theorem keys_inj {l m : List KnotM} (h : l.map keyK = m.map keyK) : l = m := by
  apply List.ext_getElem
  · have := congrArg List.length h; simpa using this
  · intro i h1 h2
    have := congrArg (fun L => L[i]?) h
    simp only [List.getElem?_map, List.getElem?_eq_getElem h1, List.getElem?_eq_getElem h2, Option.map_some, Option.some.injEq] at this
    have e1 : pth l[i].1 = pth m[i].1 := congrArg (fun a : KeyM => a.1) this
    have e2 : l[i].2 = m[i].2 := congrArg (fun a : KeyM => a.2) this
    exact Prod.ext (pth_same e1) e2

end Go.Proofs.YtmfbffhbgelnnaaGreatDoor

/- WithoutId as mathematics. -/
namespace Go.Proofs.YtmfbffhbgelnnaaGreatDoor
open Go.RowKit

def dropK (l : List KnotM) (j : Nat) : List KnotM := l.take j ++ l.drop (j + 1)
def needK (l : List KnotM) (p : ByteArray) : Bool := decide (0 < (l.getD (find l p).toNat knotZ).2.length) || childB l p
/-- The nodes that nothing needs, from p up, taken out (at most n). -/
def pruneL : Nat → List KnotM → ByteArray → List KnotM
  | 0, l, _ => l
  | n + 1, l, p => if p.toList = [] then l else if needK l p then l else pruneL n (dropK l (find l p).toNat) (above p)
def badW (l : List KnotM) (f : ByteArray) (id : Int) : Bool := decide (find l f < 0) || !(hasId (l.getD (find l f).toNat knotZ).2 id)
def remI (l : List Int) (id : Int) : List Int := l.filter fun y => decide (y ≠ id)
def remK (l : List KnotM) (k : Nat) (id : Int) : List KnotM := l.set k ((l.getD k knotZ).1, remI (l.getD k knotZ).2 id)
def withoutL (l : List KnotM) (f : ByteArray) (id : Int) : List KnotM × Bool :=
  if trieB l then (if badW l f id then (l, false) else (pruneL f.size (remK l (find l f).toNat id) f, true)) else ([], false)

theorem name_eq {a p : ByteArray} (h : a.toList = p.toList) : a = p := by
  rw [list_toList, list_toList] at h
  have := Array.toList_inj.1 h
  cases a; cases p; congr

theorem drop_keys {l : List KnotM} {j : Nat} {p : ByteArray} (hs : (l.map keyK).Pairwise fun a b => before a.1 b.1 = true) (hj : j < l.length) (e : l[j].1 = p) : (dropK l j).map keyK = cutAt (l.map keyK) (pth p) := by
  have hsplit : l = l.take j ++ l[j] :: l.drop (j + 1) := by rw [← List.drop_eq_getElem_cons hj, List.take_append_drop]
  have hpw := hs
  rw [hsplit, List.map_append, List.map_cons, List.pairwise_append, List.pairwise_cons] at hpw
  have hk : (keyK l[j]).1 = pth p := by show pth l[j].1 = _; rw [e]
  unfold dropK cutAt
  conv => rhs; rw [hsplit]
  rw [List.map_append, List.map_append, List.map_cons, List.filter_append, List.filter_cons_of_neg (by rw [hk]; simp)]
  congr 1
  · rw [eq_comm, List.filter_eq_self]
    intro a ha
    have := hpw.2.2 a ha (keyK l[j]) (List.mem_cons_self ..)
    rw [hk] at this
    rw [decide_eq_true_iff]; intro e2; rw [e2, before_irrefl] at this; cases this
  · rw [eq_comm, List.filter_eq_self]
    intro a ha
    have := hpw.2.1.1 a ha
    rw [hk] at this
    rw [decide_eq_true_iff]; intro e2; rw [e2, before_irrefl] at this; cases this

theorem less_nil_of : ∀ b : List UInt8, less b [] = false
  | [] => less_irrefl _
  | _ :: _ => rfl

theorem head_root {l : List KnotM} (hPO : PathsOk (paths (l.map keyK))) (h0 : ([] : PathM) ∈ paths (l.map keyK)) : ∃ a L, l = a :: L ∧ pth a.1 = [] ∧ ∀ x ∈ L, pth x.1 ≠ [] := by
  cases l with
  | nil => cases h0
  | cons a L =>
    have hr := rising_of hPO
    rw [List.map_cons, List.pairwise_cons] at hr
    have ha : pth a.1 = [] := by
      obtain ⟨b, hb, e⟩ := mem_paths.1 h0
      rcases List.mem_cons.1 hb with h | h
      · rw [h] at e; exact e
      · have h1 := hr.1 b h
        rw [e] at h1
        have h2 : before (keyK a).1 [] = false := less_nil_of _
        rw [h2] at h1; cases h1
    refine ⟨a, L, rfl, ha, fun x hx e => ?_⟩
    have h1 := hr.1 (keyK x) (List.mem_map_of_mem hx)
    rw [show (keyK a).1 = [] from ha, show (keyK x).1 = [] from e, before_irrefl] at h1; cases h1

theorem child_keys {l : List KnotM} (hPO : PathsOk (paths (l.map keyK))) (h0 : ([] : PathM) ∈ paths (l.map keyK)) (p : ByteArray) : childB l p = hasKid (l.map keyK) (pth p) := by
  obtain ⟨a, L, rfl, ha, hL⟩ := head_root hPO h0
  unfold childB hasKid
  rw [List.drop_succ_cons, List.drop_zero, List.map_cons, List.any_cons, List.any_map]
  have h1 : (decide ((keyK a).1 ≠ []) && decide ((keyK a).1.dropLast = pth p)) = false := by rw [show (keyK a).1 = [] from ha]; simp
  rw [h1, Bool.false_or]
  have e : ∀ x ∈ L, ((above x.1).toList == p.toList) = ((fun a : KeyM => decide (a.1 ≠ []) && decide (a.1.dropLast = pth p)) ∘ keyK) x := fun x hx => by
    have hg : Good (pth x.1) := hPO.good _ (mem_paths.2 ⟨keyK x, List.mem_map_of_mem (List.mem_cons_of_mem _ hx), rfl⟩)
    have hp := pth_above hg (hL x hx)
    simp only [Function.comp]
    show _ = (decide (pth x.1 ≠ []) && decide ((pth x.1).dropLast = pth p))
    rw [decide_eq_true (hL x hx), Bool.true_and, ← hp, Bool.eq_iff_iff, beq_iff_eq, decide_eq_true_iff]
    constructor
    · intro h; rw [name_eq h]
    · intro h; rw [pth_same h]
  rw [Bool.eq_iff_iff, List.any_eq_true, List.any_eq_true]
  constructor
  · rintro ⟨x, hx, h⟩; exact ⟨x, hx, by rw [← e x hx]; exact h⟩
  · rintro ⟨x, hx, h⟩; exact ⟨x, hx, by rw [e x hx]; exact h⟩

theorem root_in {K : List KeyM} (hK : PathsOk (paths K)) {P : PathM} (h : P ∈ paths K) : ([] : PathM) ∈ paths K := by
  have := front_in hK h P.length 0 (by omega)
  simpa using this

theorem need_keys {l : List KnotM} {p : ByteArray} (hPO : PathsOk (paths (l.map keyK))) (hp : pth p ∈ paths (l.map keyK)) : needK l p = !(emptyAt (l.map keyK) (pth p)) := by
  have h0 := root_in hPO hp
  have hi := ids_at hPO p
  rw [if_pos (find_paths.2 hp)] at hi
  unfold needK emptyAt
  rw [hi, child_keys hPO h0, Bool.not_and, Bool.not_not]
  congr 1
  cases idsAt (l.map keyK) (pth p) <;> simp

theorem prune_keys : ∀ (n : Nat) (l : List KnotM) (p : ByteArray), PathsOk (paths (l.map keyK)) → pth p ∈ paths (l.map keyK) → (pruneL n l p).map keyK = pruneK n (l.map keyK) (pth p)
  | 0, _, _, _, _ => rfl
  | n + 1, l, p, hPO, hp => by
    rw [pruneL, pruneK]
    by_cases h0 : pth p = []
    · rw [if_pos (pth_nil.1 h0), if_pos h0]
    · rw [if_neg (fun e => h0 (pth_nil.2 e)), if_neg h0, need_keys hPO hp]
      cases he : emptyAt (l.map keyK) (pth p)
      · rw [if_pos (by simp), if_neg (by simp)]
      · rw [if_neg (by simp), if_pos rfl]
        obtain ⟨j, hj, e, e2⟩ := find_pos (find_paths.2 hp)
        have hdk : (dropK l (find l p).toNat).map keyK = cutAt (l.map keyK) (pth p) := by rw [e, Int.toNat_natCast]; exact drop_keys (rising_of hPO) hj (name_eq e2)
        have hab := pth_above (hPO.good _ hp) h0
        rw [prune_keys n _ (above p) (by rw [hdk]; exact cut_ok hPO he) (by
          rw [hdk, hab, cut_paths]
          exact ⟨hPO.closed _ hp h0, fun e => by have := congrArg List.length e; rw [List.length_dropLast] at this; have := List.length_pos_iff.2 h0; omega⟩), hdk, hab]

theorem prune_more : ∀ (n : Nat) (K : List KeyM) (P : PathM), P.length ≤ n → pruneK n K P = pruneK P.length K P
  | 0, K, P, h => by rw [show P = [] from List.length_eq_zero_iff.1 (by omega)]; rfl
  | n + 1, K, P, h => by
    by_cases h0 : P = []
    · subst h0; rw [prune_nil, prune_nil]
    · obtain ⟨m, hm⟩ : ∃ m, P.length = m + 1 := ⟨P.length - 1, by have := List.length_pos_iff.2 h0; omega⟩
      rw [hm, pruneK, pruneK, if_neg h0, if_neg h0]
      have hd : P.dropLast.length = m := by rw [List.length_dropLast]; omega
      rw [prune_more n _ P.dropLast (by omega), hd]

theorem bad_w {l : List KnotM} (hPO : PathsOk (paths (l.map keyK))) (f : ByteArray) (id : Int) : badW l f id = !(hasId (idsAt (l.map keyK) (pth f)) id) := by
  unfold badW
  rw [← ids_at hPO]
  by_cases h : 0 ≤ find l f
  · rw [if_pos h, decide_eq_false (by omega)]; rfl
  · rw [if_neg h, decide_eq_true (by omega)]; rfl

/-- 'WithoutId' of the reference is what the program's take makes. -/
theorem without_keys {l : List KnotM} {f : ByteArray} {id : Int} (ht : trieB l = true) (hPO : PathsOk (paths (l.map keyK))) (h0 : ([] : PathM) ∈ paths (l.map keyK)) :
    (withoutL l f id).1.map keyK = (takeKeys id (l.map keyK) [] (pth f)).1 ∧ (withoutL l f id).2 = (takeKeys id (l.map keyK) [] (pth f)).2 := by
  rw [take_root id hPO h0]
  unfold withoutL
  rw [if_pos ht, bad_w hPO]
  by_cases hh : hasId (idsAt (l.map keyK) (pth f)) id = true
  · rw [if_neg (by rw [hh]; simp), if_pos hh]
    refine ⟨?_, rfl⟩
    have hin : pth f ∈ paths (l.map keyK) := by
      refine Classical.byContradiction fun hn => ?_
      rw [idsAt_none hn] at hh; simp [hasId] at hh
    obtain ⟨j, hj, e, e2⟩ := find_pos (find_paths.2 hin)
    have e3 : l.getD j knotZ = l[j] := by rw [List.getD_eq_getElem?_getD, List.getElem?_eq_getElem hj]; rfl
    have hrk : (remK l (find l f).toNat id).map keyK = remAt (l.map keyK) (pth f) id := by
      unfold remK
      rw [e, Int.toNat_natCast, e3]
      exact set_keys (fun I => remI I id) hj (rising_of hPO) e2 rfl
    have hgf := hPO.good _ hin
    have hn : (pth f).length ≤ f.size := by
      have := good_len hgf
      rw [jl_pth] at this
      simpa using this
    show (pruneL f.size (remK l (find l f).toNat id) f).map keyK = _
    rw [prune_keys f.size _ f (by rw [hrk, remAt_paths]; exact hPO) (by rw [hrk, remAt_paths]; exact hin), hrk, prune_more _ _ _ hn]
  · rw [if_pos (by rw [Bool.not_eq_true] at hh; rw [hh]; rfl), if_neg hh]
    exact ⟨rfl, rfl⟩

end Go.Proofs.YtmfbffhbgelnnaaGreatDoor

/- The paths of a right trie. -/
namespace Go.Proofs.YtmfbffhbgelnnaaGreatDoor
open Go.RowKit

theorem trie_paths {l : List KnotM} (h : trieB l = true) : PathsOk (paths (l.map keyK)) := by
  have h0 : ∀ (hl : 0 < l.length), pth (l[0]'hl).1 = [] := fun hl => by
    have hh := trie_head h
    cases l with
    | nil => simp at hl
    | cons a l =>
      rw [headOk, Bool.and_eq_true, beq_iff_eq] at hh
      exact pth_nil.2 hh.1
  refine ⟨fun P hP hne => ?_, fun P hP => ?_, ?_⟩
  · obtain ⟨a, ha, rfl⟩ := mem_paths.1 hP
    obtain ⟨k, hk, rfl⟩ := List.mem_map.1 ha
    obtain ⟨j, hj, rfl⟩ := List.mem_iff_getElem.1 hk
    by_cases h1 : 1 ≤ j
    · obtain ⟨_, hf, _, ⟨x, hx, e⟩, _⟩ := trie_at h hj h1
      obtain ⟨_, hg, hne2⟩ := filter_good hf
      exact mem_paths.2 ⟨keyK x, List.mem_map_of_mem hx, by show pth x.1 = (pth l[j].1).dropLast; rw [name_eq e, pth_above hg hne2]⟩
    · obtain rfl : j = 0 := by omega
      exact absurd (h0 hj) hne
  · obtain ⟨a, ha, rfl⟩ := mem_paths.1 hP
    obtain ⟨k, hk, rfl⟩ := List.mem_map.1 ha
    obtain ⟨j, hj, rfl⟩ := List.mem_iff_getElem.1 hk
    by_cases h1 : 1 ≤ j
    · exact (filter_good (trie_at h hj h1).2.1).2.1
    · obtain rfl : j = 0 := by omega
      show Good (pth l[0].1)
      rw [h0 hj]; intro p hp; cases hp
  · refine List.pairwise_map.2 (List.pairwise_map.2 (List.pairwise_iff_getElem.2 fun i j hi hj hij => ?_))
    have := trie_lt h (j - i - 1) i (by omega)
    have e : i + (j - i - 1) + 1 = j := by omega
    simp only [e] at this
    show before (pth l[i].1) (pth l[j].1) = true
    rw [before_pth]; exact this

end Go.Proofs.YtmfbffhbgelnnaaGreatDoor
