/- Plain mathematics of chapter 3: the list of nodes is the tree told from the root on, each node ahead of its children. -/
import Derived.Test.YtmfbffhbgelnnaaGreatDoorZB2
import Derived.Test.YtmfbffhbgelnnaaGreatDoorZNode2
set_option linter.unusedSimpArgs false
set_option linter.unusedVariables false
namespace Go.Proofs.YtmfbffhbgelnnaaGreatDoor

/-- A part of two bytes or more bears no byte up to the slash. -/
def Fine (P : List (List UInt8)) : Prop := ∀ p ∈ P, 2 ≤ p.length → ∀ b ∈ p, (47 : UInt8) < b

theorem low_gt {b : UInt8} (h : low b = true) : (47 : UInt8) < b := by
  unfold low at h
  rw [UInt8.lt_iff_toNat_lt]
  simp at h
  show 47 < b.toNat
  omega

theorem partF_fine {p : ByteArray} {l : Bool} (h : partF p l = true) (h2 : 2 ≤ p.data.toList.length) : ∀ b ∈ p.data.toList, (47 : UInt8) < b := by
  intro b hb
  unfold partF at h
  rw [Bool.or_eq_true, Bool.or_eq_true] at h
  rcases h with (h | h) | h
  · unfold isWord lowAll at h
    rw [Bool.and_eq_true, List.all_eq_true] at h
    exact low_gt (h.1 b hb)
  · rw [beq_iff_eq, Lib.toList_data] at h; rw [h] at h2; simp at h2
  · rw [Bool.and_eq_true, beq_iff_eq, Lib.toList_data] at h; rw [h.2] at h2; simp at h2

theorem filter_fine {s : ByteArray} (h : filterP (parts s 47) = true) : Fine (pth s) := by
  rw [(filter_good h).1]
  intro q hq h2
  obtain ⟨p, hp, rfl⟩ := List.mem_map.1 hq
  obtain ⟨j, hj, rfl⟩ := List.mem_iff_getElem.1 hp
  cases e : partF (parts s 47)[j] (decide (j + 1 = (parts s 47).length))
  · rw [filterP_bad hj e] at h; cases h
  · exact partF_fine e h2

/-- Of two parts the lesser one stays ahead whatever follows behind a slash. -/
theorem less_parts : ∀ (a b : List UInt8) (u v : List UInt8), less a b = true → (∀ c ∈ b.tail, (47 : UInt8) < c) → (47 : UInt8) ∉ a → (u = [] ∨ ∃ u', u = 47 :: u') → a ≠ [] → less (a ++ u) (b ++ v) = true
  | [], _, _, _, _, _, _, _, h => absurd rfl h
  | x :: a, [], _, _, h, _, _, _, _ => by simp [less, Op.bytesLess] at h
  | x :: a, y :: b, u, v, h, hb, hs, hu, _ => by
    simp only [less, Op.bytesLess, List.cons_append, Bool.or_eq_true, Bool.and_eq_true, decide_eq_true_iff, beq_iff_eq] at h ⊢
    rcases h with h | ⟨rfl, h⟩
    · exact .inl h
    · right
      refine ⟨rfl, ?_⟩
      rw [List.mem_cons, not_or] at hs
      cases a with
      | nil =>
        cases b with
        | nil => simp [Op.bytesLess] at h
        | cons c b =>
          have hc : (47 : UInt8) < c := hb c (by simp)
          rcases hu with rfl | ⟨u', rfl⟩
          · simp [Op.bytesLess]
          · simp [Op.bytesLess, hc]
      | cons z a =>
        cases b with
        | nil => simp [Op.bytesLess] at h
        | cons c b =>
          exact less_parts (z :: a) (c :: b) u v h (fun d hd => hb d (List.mem_cons_of_mem _ hd)) hs.2 hu (by simp)

/-- At or below a path. -/
def under (p : List (List UInt8)) (y : NodeM) : Bool := decide (y.path.take p.length = p)
def sub (T : List NodeM) (p : List (List UInt8)) : List NodeM := T.filter (under p)

theorem under_iff {p : List (List UInt8)} {y : NodeM} : under p y = true ↔ ∃ q, y.path = p ++ q := by
  unfold under
  rw [decide_eq_true_iff]
  constructor
  · intro h; exact ⟨y.path.drop p.length, by conv => lhs; rw [← List.take_append_drop p.length y.path, h]⟩
  · rintro ⟨q, e⟩; rw [e, List.take_left]

/-- Two lists that rise by the same order, with the same members, are one. -/
theorem sorted_ext {α : Type} (r : α → α → Prop) (hir : ∀ a, ¬ r a a) (htr : ∀ a b c, r a b → r b c → r a c) : ∀ {l m : List α}, l.Pairwise r → m.Pairwise r → (∀ x, x ∈ l ↔ x ∈ m) → l = m
  | [], [], _, _, _ => rfl
  | [], y :: m, _, _, h => by have := (h y).2 (by simp); cases this
  | x :: l, [], _, _, h => by have := (h x).1 (by simp); cases this
  | x :: l, y :: m, h1, h2, h => by
    rw [List.pairwise_cons] at h1 h2
    have e : x = y := by
      rcases List.mem_cons.1 ((h x).1 (by simp)) with e | e
      · exact e
      · rcases List.mem_cons.1 ((h y).2 (by simp)) with e2 | e2
        · exact e2.symm
        · exact absurd (htr _ _ _ (h1.1 y e2) (h2.1 x e)) (hir x)
    subst e
    rw [sorted_ext r hir htr h1.2 h2.2 (fun z => ?_)]
    constructor
    · intro hz
      rcases List.mem_cons.1 ((h z).1 (List.mem_cons_of_mem _ hz)) with e | e
      · subst e; exact absurd (h1.1 z hz) (hir z)
      · exact e
    · intro hz
      rcases List.mem_cons.1 ((h z).2 (List.mem_cons_of_mem _ hz)) with e | e
      · subst e; exact absurd (h2.1 z hz) (hir z)
      · exact e

theorem jl_head (a : List UInt8) : ∀ q : List (List UInt8), ∃ u, (u = [] ∨ ∃ u', u = 47 :: u') ∧ jl (a :: q) = a ++ u
  | [] => ⟨[], .inl rfl, by simp [jl]⟩
  | b :: q => ⟨47 :: jl (b :: q), .inr ⟨_, rfl⟩, rfl⟩

theorem jl_append : ∀ (p r : List (List UInt8)), p ≠ [] → r ≠ [] → jl (p ++ r) = jl p ++ 47 :: jl r
  | [], _, h, _ => absurd rfl h
  | [x], y :: r, _, _ => rfl
  | [x], [], _, h => absurd rfl h
  | x :: y :: p, r, _, h => by
    have ih := jl_append (y :: p) r (by simp) h
    rw [List.cons_append, List.cons_append, jl, ← List.cons_append, ih, jl, List.append_assoc, List.cons_append]

theorem jl_snoc_append (p : List (List UInt8)) (a : List UInt8) (q : List (List UInt8)) : ∃ u, (u = [] ∨ ∃ u', u = 47 :: u') ∧ jl (p ++ [a] ++ q) = (if p = [] then [] else jl p ++ [47]) ++ (a ++ u) := by
  obtain ⟨u, hu, e⟩ := jl_head a q
  refine ⟨u, hu, ?_⟩
  rw [List.append_assoc, List.singleton_append]
  by_cases h : p = []
  · subst h; rw [if_pos rfl]; exact e
  · rw [if_neg h, jl_append p (a :: q) h (by simp), e]; simp

/-- Below one child all is ahead of what is below a later one. -/
theorem under_less {T : List NodeM} (hT : TreeOk T) (hF : ∀ y ∈ T, Fine y.path) {p : List (List UInt8)} {c d y z : NodeM} (hc : c ∈ kids T p) (hd : d ∈ kids T p) (hcd : less c.last d.last = true) (hy : under c.path y = true) (hz : under d.path z = true) :
    less (jl y.path) (jl z.path) = true := by
  obtain ⟨hcT, ec⟩ := kids_mem.1 hc
  obtain ⟨hdT, ed⟩ := kids_mem.1 hd
  obtain ⟨q, eq⟩ := under_iff.1 hy
  obtain ⟨r, er⟩ := under_iff.1 hz
  rw [eq, er, ec, ed]
  obtain ⟨u, hu, e1⟩ := jl_snoc_append p c.last q
  obtain ⟨v, hv, e2⟩ := jl_snoc_append p d.last r
  rw [e1, e2, less_prefix]
  have hgc := hT.good c hcT c.last (by rw [ec]; simp)
  have hfd := hF d hdT d.last (by rw [ed]; simp)
  refine less_parts c.last d.last u v hcd (fun b hb => ?_) hgc.2 hu hgc.1
  have h2 : 2 ≤ d.last.length := by
    cases e : d.last with
    | nil => rw [e] at hb; cases hb
    | cons a l => rw [e] at hb; cases l with
      | nil => cases hb
      | cons => simp
  exact hfd h2 b (List.mem_of_mem_tail hb)

/-- A node, then what is below its children, one after the other. -/
theorem sub_cons {T : List NodeM} (hT : TreeOk T) (hF : ∀ y ∈ T, Fine y.path) {x : NodeM} (hx : x ∈ T) : sub T x.path = x :: (kids T x.path).flatMap fun c => sub T c.path := by
  refine sorted_ext (fun a b => less (jl a.path) (jl b.path) = true) (fun a h => by rw [less_irrefl] at h; cases h) (fun a b c => less_trans) (hT.sorted.filter _) ?_ fun y => ?_
  · rw [List.pairwise_cons]
    refine ⟨fun y hy => ?_, ?_⟩
    · obtain ⟨c, hc, hy⟩ := List.mem_flatMap.1 hy
      obtain ⟨_, hu⟩ := List.mem_filter.1 hy
      obtain ⟨q, e⟩ := under_iff.1 hu
      rw [e, (kids_mem.1 hc).2]
      have hg := hT.good c (kids_mem.1 hc).1 c.last (by rw [(kids_mem.1 hc).2]; simp)
      obtain ⟨u, _, e2⟩ := jl_snoc_append x.path c.last q
      rw [e2]
      by_cases h0 : x.path = []
      · rw [if_pos h0, h0]
        cases e3 : c.last with
        | nil => exact absurd e3 hg.1
        | cons => rfl
      · rw [if_neg h0, List.append_assoc]
        exact less_longer _ (by simp)
    · rw [List.pairwise_flatMap]
      refine ⟨fun c _ => hT.sorted.filter _, ?_⟩
      refine List.Pairwise.imp_of_mem ?_ (hT.kids_rise x.path)
      intro c d hc hd hcd y hy z hz
      exact under_less hT hF hc hd hcd (List.mem_filter.1 hy).2 (List.mem_filter.1 hz).2
  · constructor
    · intro hy
      obtain ⟨hyT, hu⟩ := List.mem_filter.1 hy
      obtain ⟨q, e⟩ := under_iff.1 hu
      cases q with
      | nil =>
        rw [List.append_nil] at e
        rw [hT.same hyT hx e]; simp
      | cons a q =>
        obtain ⟨z, hz, ez⟩ := hT.front (y.path.length - (x.path.length + 1)) (x.path.length + 1) y hyT (by rw [e]; simp)
        have e2 : z.path = x.path ++ [a] := by rw [ez, e, List.take_length_add_append]; rfl
        refine List.mem_cons_of_mem _ (List.mem_flatMap.2 ⟨z, kids_snoc hz e2, List.mem_filter.2 ⟨hyT, under_iff.2 ⟨q, by rw [e, e2]; simp⟩⟩⟩)
    · intro hy
      rcases List.mem_cons.1 hy with rfl | hy
      · exact List.mem_filter.2 ⟨hx, under_iff.2 ⟨[], by simp⟩⟩
      · obtain ⟨c, hc, hy⟩ := List.mem_flatMap.1 hy
        obtain ⟨hyT, hu⟩ := List.mem_filter.1 hy
        obtain ⟨q, e⟩ := under_iff.1 hu
        exact List.mem_filter.2 ⟨hyT, under_iff.2 ⟨[c.last] ++ q, by rw [e, (kids_mem.1 hc).2]; simp⟩⟩

theorem sub_root (T : List NodeM) : sub T [] = T := by
  unfold sub
  rw [List.filter_eq_self]
  intro y _
  exact under_iff.2 ⟨y.path, rfl⟩

end Go.Proofs.YtmfbffhbgelnnaaGreatDoor
