/- The mathematics of what is kept: a rising keep, and one message more. -/
import Derived.Test.YtgkfnmbjlfmcmaaGreatDoorZB3
import Derived.Test.YtgkfnmbjlfmcmaaGreatDoorZNodeM
set_option linter.unusedSimpArgs false
set_option linter.unusedVariables false
namespace Go.Proofs.YtgkfnmbjlfmcmaaGreatDoor

def ltT (a b : ByteArray) : Bool := less a.toList b.toList
/-- The topics rise. -/
def RiseK (l : List MsgM) : Prop := l.Pairwise fun x y => ltT x.2.2.1 y.2.2.1 = true

theorem leB_ltT (a b : ByteArray) : leB a b = !(ltT b a) := leB_less a b
theorem ltT_irrefl (a : ByteArray) : ltT a a = false := less_irrefl _
theorem ltT_not_same {a b : ByteArray} (h : ltT a b = true) : sameT a b = false := by
  unfold sameT; rw [beq_eq_false_iff_ne]; intro e; unfold ltT at h; rw [e, less_irrefl] at h; cases h
theorem ltT_not_same2 {a b : ByteArray} (h : ltT a b = true) : sameT b a = false := by
  unfold sameT; rw [beq_eq_false_iff_ne]; intro e; unfold ltT at h; rw [e, less_irrefl] at h; cases h
theorem ltT_tri (a b : ByteArray) : ltT a b = true ∨ sameT a b = true ∨ ltT b a = true := by
  rcases less_tri a.toList b.toList with h | h | h
  · exact .inl h
  · exact .inr (.inl (by unfold sameT; rw [h]; exact beq_self_eq_true _))
  · exact .inr (.inr h)
theorem sameT_lt {a b c : ByteArray} (h : sameT a b = true) (h2 : ltT a c = true) : ltT b c = true := by
  unfold sameT at h; unfold ltT at h2 ⊢; rw [← eq_of_beq h]; exact h2
theorem sameT_lt2 {a b c : ByteArray} (h : sameT a b = true) (h2 : ltT c a = true) : ltT c b = true := by
  unfold sameT at h; unfold ltT at h2 ⊢; rw [← eq_of_beq h]; exact h2
theorem ltT_trans {a b c : ByteArray} (h : ltT a b = true) (h2 : ltT b c = true) : ltT a c = true := less_trans h h2
theorem ltT_asymm {a b : ByteArray} (h : ltT a b = true) : ltT b a = false := less_asymm h

theorem keptFold_true (m : MsgM) : ∀ (l acc : List MsgM), l.foldl (keptStep m) (acc, true) = (acc ++ l.filter (fun x => !(sameT x.2.2.1 m.2.2.1)), true)
  | [], acc => by simp
  | x :: l, acc => by
    rw [List.foldl_cons]
    cases h : sameT x.2.2.1 m.2.2.1
    · rw [show keptStep m (acc, true) x = (acc ++ [x], true) by unfold keptStep keptPut; rw [h]; rfl, keptFold_true m l]
      rw [List.filter_cons, h]; simp
    · rw [show keptStep m (acc, true) x = (acc, true) by unfold keptStep keptPut; rw [h]; rfl, keptFold_true m l]
      rw [List.filter_cons, h]; simp

theorem filter_above {m : MsgM} {l : List MsgM} (h : ∀ x ∈ l, ltT m.2.2.1 x.2.2.1 = true) : l.filter (fun x => !(sameT x.2.2.1 m.2.2.1)) = l ∧ l.filter (fun x => ltT x.2.2.1 m.2.2.1) = [] ∧ l.filter (fun x => ltT m.2.2.1 x.2.2.1) = l :=
  ⟨List.filter_eq_self.2 fun x hx => by rw [ltT_not_same2 (h x hx)]; rfl, List.filter_eq_nil_iff.2 fun x hx => by rw [ltT_asymm (h x hx)]; simp, List.filter_eq_self.2 h⟩

/-- What is below, then the message, then what is above. -/
theorem keptFold_false (m : MsgM) : ∀ (l acc : List MsgM), RiseK l → (let s := l.foldl (keptStep m) (acc, false); if s.2 then s.1 else s.1 ++ [m]) = acc ++ l.filter (fun x => ltT x.2.2.1 m.2.2.1) ++ [m] ++ l.filter (fun x => ltT m.2.2.1 x.2.2.1)
  | [], acc, _ => by simp
  | x :: l, acc, hr => by
    obtain ⟨h1, h2⟩ := List.pairwise_cons.1 hr
    dsimp only
    rw [List.foldl_cons]
    rcases ltT_tri x.2.2.1 m.2.2.1 with h | h | h
    · have hle : leB m.2.2.1 x.2.2.1 = false := by rw [leB_ltT, h]; rfl
      have ih := keptFold_false m l (acc ++ [x]) h2
      rw [show keptStep m (acc, false) x = (acc ++ [x], false) by unfold keptStep keptPut; rw [ltT_not_same h, hle]; rfl]
      dsimp only at ih
      rw [ih, List.filter_cons, h, List.filter_cons, ltT_asymm h]
      simp
    · have hab := filter_above (m := m) (l := l) (fun y hy => sameT_lt h (h1 y hy))
      have e1 : ltT x.2.2.1 m.2.2.1 = false := by have := sameT_lt2 h (c := x.2.2.1); cases e : ltT x.2.2.1 m.2.2.1; rfl; rw [ltT_not_same e] at h; cases h
      have e2 : ltT m.2.2.1 x.2.2.1 = false := by cases e : ltT m.2.2.1 x.2.2.1; rfl; rw [ltT_not_same2 e] at h; cases h
      have hle : leB m.2.2.1 x.2.2.1 = true := by rw [leB_ltT, e1]; rfl
      rw [show keptStep m (acc, false) x = (acc ++ [m], true) by unfold keptStep keptPut; rw [h, hle]; rfl, keptFold_true]
      rw [List.filter_cons, e1, List.filter_cons, e2, hab.1]
      simp [hab.2.1, hab.2.2]
    · have hab := filter_above (m := m) (l := l) (fun y hy => ltT_trans h (h1 y hy))
      have e1 := ltT_asymm h
      have hle : leB m.2.2.1 x.2.2.1 = true := by rw [leB_ltT, e1]; rfl
      rw [show keptStep m (acc, false) x = (acc ++ [m] ++ [x], true) by unfold keptStep keptPut; rw [ltT_not_same2 h, hle]; rfl, keptFold_true]
      rw [List.filter_cons, e1, List.filter_cons, h, hab.1]
      simp [hab.2.1, hab.2.2]

/-- 'Kept', of a rising keep. -/
theorem keptOut_rise {l : List MsgM} (m : MsgM) (hr : RiseK l) : keptOut l m = if m.2.2.2 == 0 then l.filter (fun x => !(sameT x.2.2.1 m.2.2.1)) else l.filter (fun x => ltT x.2.2.1 m.2.2.1) ++ [m] ++ l.filter (fun x => ltT m.2.2.1 x.2.2.1) := by
  unfold keptOut keptTo
  rw [List.take_length]
  cases hb : (m.2.2.2 == 0)
  · have h := keptFold_false m l [] hr
    dsimp only at h
    rw [h]; simp
  · rw [keptFold_true]; simp

/-- A right keep, its number aside. -/
def GoodK (l : List MsgM) : Prop := RiseK l ∧ ∀ x ∈ l, msgB x = true ∧ x.2.2.2 ≠ 0

theorem keepB_good {l : List MsgM} (h : GoodK l) (hl : l.length ≤ 24) : keepB l = true := by
  unfold keepB
  rw [Bool.and_eq_true]
  refine ⟨?_, decide_eq_true hl⟩
  unfold keepTo
  rw [List.all_eq_true]
  intro k hk
  have hk2 : k < l.length := List.mem_range.1 hk
  rw [dif_pos hk2]
  obtain ⟨g1, g2⟩ := h.2 _ (List.getElem_mem hk2)
  unfold keepNext
  rw [g1, Bool.true_and, Bool.and_eq_true]
  refine ⟨by simpa using g2, ?_⟩
  by_cases h0 : k = 0
  · rw [decide_eq_true h0]; rfl
  · have := List.pairwise_iff_getElem.1 h.1 (k - 1) k (by omega) hk2 (by omega)
    rw [leB_ltT, this]; simp

theorem keptOut_good {l : List MsgM} {m : MsgM} (h : GoodK l) (hm : msgB m = true) : GoodK (keptOut l m) := by
  rw [keptOut_rise m h.1]
  split
  · exact ⟨h.1.filter _, fun x hx => h.2 x (List.mem_filter.1 hx).1⟩
  · rename_i hb
    refine ⟨?_, fun x hx => ?_⟩
    · unfold RiseK
      rw [List.append_assoc, List.pairwise_append]
      refine ⟨h.1.filter _, ?_, fun x hx y hy => ?_⟩
      · rw [List.singleton_append, List.pairwise_cons]
        exact ⟨fun y hy => (List.mem_filter.1 hy).2, h.1.filter _⟩
      · have h1 := (List.mem_filter.1 hx).2
        rcases List.mem_append.1 hy with h2 | h2
        · rw [List.mem_singleton.1 h2]; exact h1
        · exact ltT_trans h1 (List.mem_filter.1 h2).2
    · rcases List.mem_append.1 hx with h1 | h1
      · rcases List.mem_append.1 h1 with h1 | h1
        · exact h.2 x (List.mem_filter.1 h1).1
        · rw [List.mem_singleton.1 h1]; exact ⟨hm, by simpa using hb⟩
      · exact h.2 x (List.mem_filter.1 h1).1

theorem filters_len (m : MsgM) : ∀ l : List MsgM, (l.filter (fun x => ltT x.2.2.1 m.2.2.1)).length + (l.filter (fun x => ltT m.2.2.1 x.2.2.1)).length ≤ l.length
  | [] => by simp
  | x :: l => by
    have ih := filters_len m l
    rw [List.filter_cons, List.filter_cons]
    cases h : ltT x.2.2.1 m.2.2.1
    · simp only [Bool.false_eq_true, if_false]
      split <;> simp only [List.length_cons] <;> omega
    · rw [ltT_asymm h]
      simp only [if_true, Bool.false_eq_true, if_false, List.length_cons]; omega

theorem keptOut_len {l : List MsgM} (m : MsgM) (h : RiseK l) : (keptOut l m).length ≤ l.length + 1 := by
  rw [keptOut_rise m h]
  split
  · have := List.length_filter_le (fun x : MsgM => !(sameT x.2.2.1 m.2.2.1)) l; omega
  · have := filters_len m l
    simp only [List.length_append, List.length_singleton]; omega

/-- One message more to a right keep that has room. -/
theorem keptM_good {l : List MsgM} {m : MsgM} (h : GoodK l) (hl : l.length < 24) (hm : msgB m = true) : keptM l m = (keptOut l m, true) ∧ GoodK (keptOut l m) ∧ (keptOut l m).length ≤ l.length + 1 := by
  have h2 := keptOut_len m h.1
  refine ⟨?_, keptOut_good h hm, h2⟩
  unfold keptM
  rw [keepB_good h (by omega), hm, if_pos rfl, if_pos rfl, if_neg (by omega)]

theorem keptOut_has {l : List MsgM} {m : MsgM} (h : RiseK l) (hb : m.2.2.2 ≠ 0) : m ∈ keptOut l m ∧ ∀ x ∈ keptOut l m, sameT x.2.2.1 m.2.2.1 = true → x = m := by
  rw [keptOut_rise m h, if_neg (by simpa using hb)]
  refine ⟨by simp, fun x hx hs => ?_⟩
  rcases List.mem_append.1 hx with h1 | h1
  · rcases List.mem_append.1 h1 with h1 | h1
    · rw [ltT_not_same (List.mem_filter.1 h1).2] at hs; cases hs
    · exact List.mem_singleton.1 h1
  · rw [ltT_not_same2 (List.mem_filter.1 h1).2] at hs; cases hs

theorem keptOut_none {l : List MsgM} {m : MsgM} (h : RiseK l) (hb : m.2.2.2 = 0) : ∀ x ∈ keptOut l m, sameT x.2.2.1 m.2.2.1 = false := by
  rw [keptOut_rise m h, if_pos (by simpa using hb)]
  intro x hx
  have := (List.mem_filter.1 hx).2
  simpa using this

/-- None matches: nothing is told. -/
theorem forTo_none {f : ByteArray} {l : List MsgM} (h : ∀ x ∈ l, matchB f x.2.2.1 = false) : ∀ k, k ≤ l.length → forTo f l k = []
  | 0, _ => by simp [forTo]
  | k + 1, hk => by rw [forTo_succ f l k (by omega), forTo_none h k (by omega), h _ (List.getElem_mem _)]; rfl

theorem forTo_list {f : ByteArray} (l : List MsgM) : forTo f l l.length = l.foldl (fun out x => if matchB f x.2.2.1 then putSeq out x else out) [] := by unfold forTo; rw [List.take_length]

theorem forFold_skip {f : ByteArray} : ∀ (l out : List MsgM), (∀ x ∈ l, matchB f x.2.2.1 = false) → l.foldl (fun out x => if matchB f x.2.2.1 then putSeq out x else out) out = out
  | [], _, _ => rfl
  | x :: l, out, h => by
    rw [List.foldl_cons, h x (List.mem_cons_self ..)]
    exact forFold_skip l out fun y hy => h y (List.mem_cons_of_mem _ hy)

/-- Just one matches: it alone is told. -/
theorem forTo_one {f : ByteArray} {m : MsgM} (a b : List MsgM) (hm : matchB f m.2.2.1 = true) (ha : ∀ x ∈ a, matchB f x.2.2.1 = false) (hb : ∀ x ∈ b, matchB f x.2.2.1 = false) : forTo f (a ++ m :: b) (a ++ m :: b).length = [m] := by
  rw [forTo_list, List.foldl_append, forFold_skip a [] ha, List.foldl_cons, hm, if_pos rfl, forFold_skip b _ hb]
  rfl

/-! ### A topic as a filter -/

theorem word_plain {p : ByteArray} (h : isWord p = true) : isPlus p = false ∧ isHash p = false := by
  have hw : ∀ c : UInt8, low c = false → p.toList ≠ [c] := fun c hc e => by
    unfold isWord at h
    rw [Bool.and_eq_true] at h
    rw [Go.ByteArray.toList_eq] at e
    rw [e] at h
    simp [lowAll, hc] at h
  unfold isPlus isHash
  exact ⟨beq_eq_false_iff_ne.2 (hw 43 (by decide)), beq_eq_false_iff_ne.2 (hw 35 (by decide))⟩

theorem alike_eq {p q : ByteArray} (h : alike p q = true) : p = q := by
  unfold alike at h
  have e := eq_of_beq h
  rw [Go.ByteArray.toList_eq, Go.ByteArray.toList_eq] at e
  have := Array.toList_inj.1 e
  cases p; cases q; simpa using this

theorem matchP_words : ∀ (F T : List ByteArray), F.all isWord = true → matchP F T = true → F = T
  | [], [], _, _ => rfl
  | [], _ :: _, _, h => by simp [matchP] at h
  | p :: ps, [], hw, h => by
    simp only [List.all_cons, Bool.and_eq_true] at hw
    simp only [matchP] at h
    rw [(word_plain hw.1).2] at h; cases h
  | p :: ps, t :: ts, hw, h => by
    simp only [List.all_cons, Bool.and_eq_true] at hw
    simp only [matchP] at h
    rw [(word_plain hw.1).1, (word_plain hw.1).2, Bool.false_or, Bool.false_or, Bool.and_eq_true] at h
    rw [alike_eq h.1, matchP_words ps ts hw.2 h.2]

theorem parts_eq {a b : ByteArray} (h : parts a 47 = parts b 47) : a = b := by
  have e : cut 47 a.data.toList = cut 47 b.data.toList := by rw [← parts_data, ← parts_data, h]
  have e2 : a.data.toList = b.data.toList := by rw [← jl_cut a.data.toList, ← jl_cut b.data.toList, e]
  have := Array.toList_inj.1 e2
  cases a; cases b; simpa using this

/-- A topic, as a filter, matches itself alone. -/
theorem matchB_topic {f t : ByteArray} (hf : topicP (parts f 47) = true) (h : matchB f t = true) : f = t := by
  unfold topicP at hf
  rw [Bool.and_eq_true] at hf
  unfold matchB at h
  rw [Bool.and_eq_true] at h
  exact parts_eq (matchP_words _ _ hf.2 h.2)

/-- What was kept last of a topic is what is told of it. -/
theorem keeps_one {l : List MsgM} {m : MsgM} (h : GoodK l) (hl : l.length < 24) (hm : msgB m = true) (hb : m.2.2.2 ≠ 0) (ht : topicP (parts m.2.2.1 47) = true) (hf : filterP (parts m.2.2.1 47) = true) : forM (keptOut l m) m.2.2.1 = [m] := by
  obtain ⟨_, hg, hlen⟩ := keptM_good h hl hm
  unfold forM
  rw [keepB_good hg (by omega), if_pos rfl]
  obtain ⟨a, b, e⟩ := List.append_of_mem (keptOut_has h.1 hb).1
  have hr := hg.1
  rw [e] at hr ⊢
  unfold RiseK at hr
  rw [List.pairwise_append] at hr
  obtain ⟨_, h2, h3⟩ := hr
  obtain ⟨h4, _⟩ := List.pairwise_cons.1 h2
  refine forTo_one a b (matchB_self ht hf) (fun x hx => ?_) (fun x hx => ?_)
  · have hlt := h3 x hx m (List.mem_cons_self ..)
    cases hmb : matchB m.2.2.1 x.2.2.1
    · rfl
    · rw [← matchB_topic ht hmb, ltT_irrefl] at hlt; cases hlt
  · have hlt := h4 x hx
    cases hmb : matchB m.2.2.1 x.2.2.1
    · rfl
    · rw [← matchB_topic ht hmb, ltT_irrefl] at hlt; cases hlt

/-- What was cleared is not told. -/
theorem keeps_none {l : List MsgM} {m : MsgM} (h : GoodK l) (hl : l.length < 24) (hm : msgB m = true) (hb : m.2.2.2 = 0) (ht : topicP (parts m.2.2.1 47) = true) : forM (keptOut l m) m.2.2.1 = [] := by
  obtain ⟨_, hg, hlen⟩ := keptM_good h hl hm
  unfold forM
  rw [keepB_good hg (by omega), if_pos rfl]
  refine forTo_none (fun x hx => ?_) _ (Nat.le_refl _)
  have hs := keptOut_none h.1 hb x hx
  cases hmb : matchB m.2.2.1 x.2.2.1
  · rfl
  · have e := matchB_topic ht hmb
    unfold sameT at hs
    rw [e] at hs
    rw [beq_self_eq_true] at hs; cases hs

theorem goodK_nil : GoodK [] := ⟨List.Pairwise.nil, by simp⟩

end Go.Proofs.YtgkfnmbjlfmcmaaGreatDoor
