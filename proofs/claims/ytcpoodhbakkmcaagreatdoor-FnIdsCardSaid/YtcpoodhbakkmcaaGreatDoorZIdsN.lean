/- Plain mathematics of chapter 3: what the tree tells of a topic is what the list of knots does. -/
import Derived.Test.YtcpoodhbakkmcaaGreatDoorZIMatN
import Derived.Test.YtcpoodhbakkmcaaGreatDoorZSTrie9
import Derived.Test.YtcpoodhbakkmcaaGreatDoorZNodeL
set_option linter.unusedSimpArgs false
set_option linter.unusedVariables false
namespace Go.Proofs.YtcpoodhbakkmcaaGreatDoor

/-- A # is the last part of a path. -/
def HashLast (T : List NodeM) : Prop := ∀ z ∈ T, ∀ (p : List (List UInt8)) (a : List UInt8) (q : List (List UInt8)), z.path = p ++ a :: q → isHash (bts a) = true → q = []

theorem partC_word {p q : ByteArray} (hq : isWord q = true) : partC p q = (isPlus p || alike p q) := by
  unfold partC
  cases h : isPlus p
  · simp
  · rw [hq]; simp

theorem matchP_cons {p : ByteArray} {ps r : List ByteArray} (h : isHash p = true) : matchP (p :: ps) r = true := by
  cases r <;> simp [matchP, h]

/-- What is told below a node. -/
theorem matN_mem {T : List NodeM} (hT : TreeOk T) (hH : HashLast T) : ∀ (n : Nat) (x : NodeM), x ∈ T → (∀ y ∈ T, x.path <+: y.path → y.path.length ≤ x.path.length + n) → ∀ (r : List ByteArray), (∀ t ∈ r, isWord t = true) → ∀ i : Int,
    i ∈ matN T n x r ↔ ∃ z ∈ T, ∃ q, z.path = x.path ++ q ∧ matchP (q.map bts) r = true ∧ i ∈ z.ids
  | n, x, hx, hd, r, hr, i => by
    have hbase : i ∈ baseM x r ↔ r = [] ∧ i ∈ x.ids := by
      unfold baseM; cases r <;> simp
    have hself : ∀ z ∈ T, z.path = x.path ++ [] → z = x := fun z hz e => hT.same hz hx (by rw [e, List.append_nil])
    cases n with
    | zero =>
      rw [matN, hbase]
      constructor
      · rintro ⟨rfl, hi⟩; exact ⟨x, hx, [], by simp, rfl, hi⟩
      · rintro ⟨z, hz, q, e, hm, hi⟩
        have hq : q = [] := by
          have := hd z hz (by rw [e]; exact List.prefix_append _ _)
          rw [e, List.length_append] at this
          exact List.length_eq_zero_iff.1 (by omega)
        subst hq
        rw [hself z hz e] at hi
        cases r with
        | nil => exact ⟨rfl, hi⟩
        | cons t r => simp [matchP] at hm
    | succ n =>
      have hdk : ∀ c ∈ kids T x.path, ∀ z ∈ T, c.path <+: z.path → z.path.length ≤ c.path.length + n := fun c hc z hz hp => by
        have h1 := hd z hz (List.IsPrefix.trans (by rw [(kids_mem.1 hc).2]; exact List.prefix_append _ _) hp)
        rw [(kids_mem.1 hc).2]; simp; omega
      rw [matN, List.mem_append, hbase, List.mem_flatMap]
      constructor
      · rintro (⟨rfl, hi⟩ | ⟨c, hc, hi⟩)
        · exact ⟨x, hx, [], by simp, rfl, hi⟩
        · have IH := matN_mem hT hH n c (kids_mem.1 hc).1 (hdk c hc)
          have ec := (kids_mem.1 hc).2
          unfold kidM at hi
          cases hh : isHash (bts c.last)
          · rw [hh] at hi
            cases r with
            | nil => simp at hi
            | cons t r =>
              simp only [Bool.false_eq_true, if_false] at hi
              cases hp : partC (bts c.last) t
              · rw [hp] at hi; simp at hi
              · rw [hp, if_pos rfl] at hi
                obtain ⟨z, hz, q, e, hm, hi⟩ := (IH r (fun u hu => hr u (List.mem_cons_of_mem _ hu)) i).1 hi
                rw [partC_word (hr t (by simp))] at hp
                refine ⟨z, hz, c.last :: q, by rw [e, ec]; simp, ?_, hi⟩
                rw [List.map_cons, matchP, hm, hp]; simp
          · rw [hh, if_pos rfl] at hi
            obtain ⟨z, hz, q, e, hm, hi⟩ := (IH [] (fun u hu => by cases hu) i).1 hi
            refine ⟨z, hz, c.last :: q, by rw [e, ec]; simp, ?_, hi⟩
            rw [List.map_cons]; exact matchP_cons hh
      · rintro ⟨z, hz, q, e, hm, hi⟩
        cases q with
        | nil =>
          left
          rw [hself z hz e] at hi
          cases r with
          | nil => exact ⟨rfl, hi⟩
          | cons t r => simp [matchP] at hm
        | cons a q =>
          right
          obtain ⟨c, hcT, ec0⟩ := hT.front (z.path.length - (x.path.length + 1)) (x.path.length + 1) z hz (by rw [e]; simp)
          have ec : c.path = x.path ++ [a] := by rw [ec0, e, List.take_length_add_append]; rfl
          have hc := kids_snoc hcT ec
          have hl := last_snoc ec
          have IH := matN_mem hT hH n c hcT (hdk c hc)
          have e2 : z.path = c.path ++ q := by rw [e, ec]; simp
          refine ⟨c, hc, ?_⟩
          unfold kidM
          rw [hl]
          cases hh : isHash (bts a)
          · rw [List.map_cons] at hm
            cases r with
            | nil => simp [matchP, hh] at hm
            | cons t r =>
              rw [matchP, hh, Bool.false_or, Bool.and_eq_true] at hm
              simp only [Bool.false_eq_true, if_false]
              rw [partC_word (hr t (by simp)), hm.1, if_pos rfl]
              exact (IH r (fun u hu => hr u (List.mem_cons_of_mem _ hu)) i).2 ⟨z, hz, q, e2, hm.2, hi⟩
          · rw [if_pos rfl]
            have hq : q = [] := hH z hz x.path a q e hh
            subst hq
            exact (IH [] (fun u hu => by cases hu) i).2 ⟨z, hz, [], e2, rfl, hi⟩

theorem foldl_mem : ∀ (ids out : List Int) (i : Int), i ∈ ids.foldl addId out ↔ i ∈ out ∨ i ∈ ids
  | [], out, i => by simp
  | x :: ids, out, i => by
    rw [List.foldl_cons, foldl_mem ids, addId_mem, List.mem_cons]
    constructor
    · rintro ((h | h) | h)
      · exact .inr (.inl h)
      · exact .inl h
      · exact .inr (.inr h)
    · rintro (h | h | h)
      · exact .inl (.inr h)
      · exact .inl (.inl h)
      · exact .inr h

theorem steps_mem (t : ByteArray) : ∀ (l : List KnotM) (out : List Int) (i : Int), i ∈ l.foldl (idsStep t) out ↔ i ∈ out ∨ ∃ k ∈ l, matchB k.1 t = true ∧ i ∈ k.2
  | [], out, i => by simp
  | x :: l, out, i => by
    rw [List.foldl_cons, steps_mem t l]
    unfold idsStep
    cases h : matchB x.1 t
    · simp [h]
    · rw [if_pos rfl, foldl_mem]
      simp [h, or_assoc]

/-- The numbers of a topic. -/
theorem idsL_mem {l : List KnotM} {t : ByteArray} (h : trieB l = true) (i : Int) : i ∈ idsL l t ↔ ∃ k ∈ l.drop 1, matchB k.1 t = true ∧ i ∈ k.2 := by
  rw [idsL, h, if_pos rfl, steps_mem]; simp

theorem steps_rise (t : ByteArray) : ∀ (l : List KnotM) (out : List Int), (∀ k ∈ l, rises k.2 = true) → rises out = true → rises (l.foldl (idsStep t) out) = true
  | [], _, _, h => h
  | x :: l, out, h1, h => by
    rw [List.foldl_cons]
    refine steps_rise t l _ (fun k hk => h1 k (List.mem_cons_of_mem _ hk)) ?_
    unfold idsStep
    split
    · exact foldl_rises _ _ (rises_pair.1 (h1 x (by simp))).1 h
    · exact h

theorem idsL_rises {l : List KnotM} {t : ByteArray} : rises (idsL l t) = true := by
  unfold idsL
  split
  · rename_i h
    refine steps_rise t _ _ (fun k hk => ?_) rfl
    obtain ⟨j, hj, rfl⟩ := List.mem_iff_getElem.1 hk
    rw [List.length_drop] at hj
    rw [List.getElem_drop]
    exact knot_rises h (by omega) (by omega)
  · rfl

/-- In a filter a # is the last part. -/
theorem filter_hash {s : ByteArray} (h : filterP (parts s 47) = true) {p q : List (List UInt8)} {a : List UInt8} (e : pth s = p ++ a :: q) (ha : isHash (bts a) = true) : q = [] := by
  rw [(filter_good h).1] at e
  have hl := congrArg List.length e
  rw [List.length_map, List.length_append, List.length_cons] at hl
  have hj : p.length < (parts s 47).length := by omega
  have ea : (parts s 47)[p.length].data.toList = a := by
    have : ((parts s 47).map (·.data.toList))[p.length]'(by rw [List.length_map]; exact hj) = a := by
      simp only [e]; rw [List.getElem_append_right (Nat.le_refl _)]; simp
    rw [List.getElem_map] at this; exact this
  cases hq : q with
  | nil => rfl
  | cons b q2 =>
    have hb : partF (parts s 47)[p.length] (decide (p.length + 1 = (parts s 47).length)) = false := by
      have hne : decide (p.length + 1 = (parts s 47).length) = false := decide_eq_false (by rw [hl, hq]; simp)
      rw [hne]
      unfold isHash at ha
      rw [beq_iff_eq, Lib.toList_data, bts_list] at ha
      rw [ha] at ea
      have e35 : (parts s 47)[p.length].toList = [35] := by rw [Lib.toList_data]; exact ea
      have hw : isWord (parts s 47)[p.length] = false := by
        unfold isWord
        rw [show (parts s 47)[p.length].data.toList = [35] from ea]; rfl
      unfold partF
      rw [hw, e35]; rfl
    rw [filterP_bad hj hb] at h; cases h

/-- What the program gathers has the numbers that the reference tells. -/
theorem matN_ids {l : List KnotM} {T : List NodeM} {x : NodeM} {t : ByteArray} (hl : trieB l = true) (hT : TreeOk T) (hk : T.map keyOf = l.map keyK) (hx : x ∈ T) (hx0 : x.path = []) (ht : topicP (parts t 47) = true) (i : Int) :
    i ∈ matN T 6 x (parts t 47) ↔ i ∈ idsL l t := by
  have hroot : ∀ j (hj : j < l.length), j = 0 → pth l[j].1 = [] ∧ l[j].2 = [] := fun j hj e => by
    subst e
    have h0 := trie_head hl
    cases l with
    | nil => simp at hj
    | cons a l =>
      rw [headOk, Bool.and_eq_true, beq_iff_eq, list_toList, List.isEmpty_iff] at h0
      exact ⟨by simp [pth, h0.1], h0.2⟩
  have hfil : ∀ k ∈ l, pth k.1 ≠ [] → filterP (parts k.1 47) = true := fun k hk2 hne => by
    obtain ⟨j, hj, rfl⟩ := List.mem_iff_getElem.1 hk2
    by_cases h1 : 1 ≤ j
    · exact (trie_at hl hj h1).2.1
    · exact absurd (hroot j hj (by omega)).1 hne
  have hH : HashLast T := fun z hz p a q e ha => by
    obtain ⟨k, hk2, hkp, _⟩ := key_mem' hk hz
    exact filter_hash (hfil k hk2 (by rw [← hkp, e]; simp)) (by rw [← hkp]; exact e) ha
  have hd : ∀ y ∈ T, x.path <+: y.path → y.path.length ≤ x.path.length + 6 := fun y hy _ => by
    obtain ⟨k, hk2, hkp, _⟩ := key_mem' hk hy
    rw [hkp]
    by_cases h0 : pth k.1 = []
    · rw [h0]; simp
    · have := pth_len (hfil k hk2 h0); omega
  have hw : ∀ u ∈ parts t 47, isWord u = true := by
    rw [topicP, Bool.and_eq_true, List.all_eq_true] at ht; exact ht.2
  have hwpos := parts_pos t 47
  rw [matN_mem hT hH 6 x hx hd _ hw, idsL_mem hl]
  constructor
  · rintro ⟨z, hz, q, e, hm, hi⟩
    rw [hx0, List.nil_append] at e
    obtain ⟨k, hk2, hkp, hki⟩ := key_mem' hk hz
    have hne : pth k.1 ≠ [] := by
      rw [← hkp, e]
      intro h0; subst h0
      cases hp : parts t 47 with
      | nil => rw [hp] at hwpos; simp at hwpos
      | cons => rw [hp] at hm; simp [matchP] at hm
    have hf := hfil k hk2 hne
    refine ⟨k, ?_, ?_, by rw [← hki]; exact hi⟩
    · obtain ⟨j, hj, rfl⟩ := List.mem_iff_getElem.1 hk2
      have h1 : 1 ≤ j := by
        rcases Nat.lt_or_ge 0 j with h | h
        · exact h
        · exact absurd (hroot j hj (by omega)).1 hne
      exact List.mem_iff_getElem.2 ⟨j - 1, by rw [List.length_drop]; omega, by rw [List.getElem_drop]; congr 1; omega⟩
    · unfold matchB
      rw [hf, ht]
      have e2 : q.map bts = parts k.1 47 := lists_ext (by
        rw [List.map_map, ← (filter_good hf).1, ← hkp, e]
        conv => rhs; rw [← List.map_id q]
        rfl)
      rw [← e2, hm]; rfl
  · rintro ⟨k, hk2, hm, hi⟩
    have hkl : k ∈ l := List.mem_of_mem_drop hk2
    unfold matchB at hm
    rw [Bool.and_eq_true, Bool.and_eq_true] at hm
    obtain ⟨z, hz, hzp, hzi⟩ := key_mem hk hkl
    refine ⟨z, hz, pth k.1, by rw [hx0, hzp]; rfl, ?_, by rw [hzi]; exact hi⟩
    have e2 : (pth k.1).map bts = parts k.1 47 := lists_ext (by
      rw [List.map_map, (filter_good hm.1.1).1]
      conv => rhs; rw [← List.map_id ((parts k.1 47).map _)]
      rfl)
    rw [e2]; exact hm.2

end Go.Proofs.YtcpoodhbakkmcaaGreatDoor
