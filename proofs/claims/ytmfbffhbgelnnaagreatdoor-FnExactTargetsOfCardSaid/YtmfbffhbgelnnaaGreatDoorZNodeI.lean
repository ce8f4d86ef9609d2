/- The program's tree: a node's numbers changed, a child put between the others, a child taken out. -/
import Derived.Test.YtmfbffhbgelnnaaGreatDoorZTrieK
import Derived.Test.YtmfbffhbgelnnaaGreatDoorZB8
set_option linter.unusedSimpArgs false
set_option linter.unusedVariables false
namespace Go.Proofs.YtmfbffhbgelnnaaGreatDoor
open Go.RowKit

/-- Rows of texts stay as they were. -/
def KeepsS (w w' : World) : Prop := ∀ (g : Nat) (cur : Array Value) (f : Nat × Nat), w.heap[g]? = some (.cells cur 9 f) → w'.heap[g]? = some (.cells cur 9 f)

theorem KeepsS.refl (w : World) : KeepsS w w := fun _ _ _ h => h
theorem KeepsS.trans {a b c : World} (h : KeepsS a b) (k : KeepsS b c) : KeepsS a c := fun g cur f e => k g cur f (h g cur f e)
theorem KeepsS.below {a b : World} (h : Below a.heap.size a b) : KeepsS a b := fun g _ _ e => (h.block g (Array.getElem?_eq_some_iff.1 e).1).trans e
theorem KeepsS.grown {w w' : World} {vs : List Value} (h : GrownL w w' vs) (hv : ∀ x ∈ vs, ∀ g cur f, w.heap[g]? = some (.cells cur 9 f) → x.ownBlock ≠ some g) : KeepsS w w' := fun g cur f e =>
  (h.block g (Array.getElem?_eq_some_iff.1 e).1 fun x hx => hv x hx g cur f e).trans e

theorem Nodes.noText {w : World} {B : Nat} {T : List NodeM} (h : Nodes w B T) {x : NodeM} (hx : x ∈ T) : ∀ v ∈ [boxV x, x.idsV, x.kidsV], ∀ g cur f, w.heap[g]? = some (.cells cur 9 f) → v.ownBlock ≠ some g := by
  intro v hv g cur f e
  rcases List.mem_cons.1 hv with rfl | hv
  · rw [boxV_block]
    intro e2; cases e2
    have := (h.box x hx).2
    unfold BoxAt at this
    rw [this] at e
    have e3 : 146 = 9 := by injection e with e; injection e
    exact absurd e3 (by decide)
  · rcases List.mem_cons.1 hv with rfl | hv
    · exact own_not_at (h.ids x hx) e (by decide)
    · rw [List.mem_singleton.1 hv]; exact own_not_at (h.kid x hx) e (by decide)

theorem Nodes.from {w : World} {B : Nat} {T : List NodeM} (h : Nodes w B T) {x : NodeM} (hx : x ∈ T) : ∀ v ∈ [boxV x, x.idsV, x.kidsV], ∀ k, v.ownBlock = some k → B ≤ k := by
  intro v hv k hk
  rcases List.mem_cons.1 hv with rfl | hv
  · rw [boxV_block] at hk; cases hk; exact (h.box x hx).1
  · rcases List.mem_cons.1 hv with rfl | hv
    · exact ((h.ids x hx).lt k hk).1
    · rw [List.mem_singleton.1 hv] at hk; exact ((h.kid x hx).lt k hk).1

/-- The numbers of one node laid anew. -/
def setI (T : List NodeM) (P : PathM) (ids : List Int) (v : Value) : List NodeM := T.map fun y => if y.path = P then { y with ids := ids, idsV := v } else y

/-- Each node's path and block. -/
def pp (T : List NodeM) : List (PathM × Nat) := T.map fun y => (y.path, y.ptr)

theorem setI_pp (T : List NodeM) (P : PathM) (ids : List Int) (v : Value) : pp (setI T P ids v) = pp T := by
  unfold pp setI; rw [List.map_map]; apply List.map_congr_left; intro y _; simp only [Function.comp]; split <;> rfl
theorem setI_paths (T : List NodeM) (P : PathM) (ids : List Int) (v : Value) : (setI T P ids v).map (·.path) = T.map (·.path) := by
  unfold setI; rw [List.map_map]; apply List.map_congr_left; intro y _; simp only [Function.comp]; split <;> rfl
theorem setI_kids (T : List NodeM) (P Q : PathM) (ids : List Int) (v : Value) : ptrs (kids (setI T P ids v) Q) = ptrs (kids T Q) :=
  kids_map (fun y _ => by constructor <;> (split <;> rfl)) Q
theorem setKids_pp (T : List NodeM) (P : PathM) (v : Value) : pp (setKids T P v) = pp T := by
  unfold pp setKids; rw [List.map_map]; apply List.map_congr_left; intro y _; simp only [Function.comp]; split <;> rfl

theorem own_ids_eq {w : World} {B n m : Nat} {e : TypeId} {v : Value} {a b : List Value} (h : w.ownsRow B e 1 v n a) (e1 : n = m) (e2 : a = b) : w.ownsRow B e 1 v m b := by rw [← e1, ← e2]; exact h

theorem ptrs_len {K L : List NodeM} (h : ptrs K = ptrs L) : K.length = L.length := by have := congrArg List.length h; simpa [ptrs] using this

theorem Nodes.reids {w w3 : World} {B : Nat} {T : List NodeM} {x : NodeM} {ids : List Int} {v : Value} (h : Nodes w B T) (hT : TreeOk T) (hx : x ∈ T) (hB : B ≤ w.heap.size) (hg : GrownL w w3 [x.idsV])
    (hr : w3.ownsRow B 2 1 v ids.length (ints ids)) (hv : v.ownBlock = x.idsV.ownBlock ∨ NewRow w v) :
    TreeOk (setI T x.path ids v) ∧ Nodes (w3.setCell ⟨x.ptr, 1, none⟩ v) B (setI T x.path ids v) ∧ Below B w (w3.setCell ⟨x.ptr, 1, none⟩ v) ∧ KeepsS w (w3.setCell ⟨x.ptr, 1, none⟩ v) := by
  have n1 : 2 ≠ 146 := by decide
  have n3 : 2 ≠ 122 := by decide
  have n2 : 122 ≠ 146 := by decide
  have hbox := (h.box x hx).2
  have hlt : x.ptr < w.heap.size := (Array.getElem?_eq_some_iff.1 hbox).1
  have hbox3 : w3.heap[x.ptr]? = some (.cells #[.string (bts x.last), x.idsV, x.kidsV] 146 (0, 0)) :=
    (hg.block x.ptr hlt (fun y hy => by rw [List.mem_singleton.1 hy]; exact own_not_at (h.ids x hx) hbox n1)).trans hbox
  have hG : GrownL w (w3.setCell ⟨x.ptr, 1, none⟩ v) [boxV x, x.idsV, x.kidsV] := (hg.sub (us := [boxV x, x.idsV, x.kidsV]) (by simp)).setCell (x := boxV x) (by simp) rfl 1 v
  have hT' : TreeOk (setI T x.path ids v) := by rw [treeOk_iff, setI_paths]; exact treeOk_iff.1 hT
  have hkid : (w3.setCell ⟨x.ptr, 1, none⟩ v).ownsRow B 122 1 x.kidsV (kids T x.path).length (ptrs (kids T x.path)) := by
    have h3 := own_keptL (h.kid x hx) hg (fun y hy => by rw [List.mem_singleton.1 hy]; exact apart_types (h.kid x hx) (h.ids x hx) (Ne.symm n3))
    exact own_kept h3 (own_not_at h3 hbox3 n2)
  refine ⟨hT', h.turn (x' := { x with ids := ids, idsV := v }) (N := { x with ids := ids, idsV := v }) hT' hx hG rfl rfl (by unfold BoxAt; rw [heap_setCell hbox3]; rfl) (own_kept hr (own_not_at hr hbox3 n1))
    (own_ids_eq hkid (ptrs_len (setI_kids T x.path x.path ids v)).symm (setI_kids T x.path x.path ids v).symm) hv (.inl rfl) (fun y hy => ?_) (fun _ hne => absurd rfl hne), hG.toBelow hB (h.from hx), KeepsS.grown hG (h.noText hx)⟩
  obtain ⟨z, hz, rfl⟩ := List.mem_map.1 hy
  by_cases e : z.path = x.path
  · right; left
    simp only [if_pos e]
    rw [hT.same hz hx e]
  · left
    simp only [if_neg e]
    exact ⟨hz, e, setI_kids T x.path z.path ids v⟩

/-! ### A child between the others -/

theorem filter_take {α : Type} (q : α → Bool) : ∀ (l : List α), l.Pairwise (fun a b => q b = true → q a = true) → l.filter q = l.take (l.countP q)
  | [], _ => rfl
  | a :: l, h => by
    rw [List.pairwise_cons] at h
    cases e : q a
    · have h0 : ∀ b ∈ l, q b = false := fun b hb => by
        cases e2 : q b
        · rfl
        · have := h.1 b hb e2; rw [e] at this; cases this
      have hc : (a :: l).countP q = 0 := by
        rw [List.countP_eq_zero]
        intro b hb
        rcases List.mem_cons.1 hb with rfl | hb
        · rw [e]; simp
        · rw [h0 b hb]; simp
      rw [hc, List.take_zero, List.filter_eq_nil_iff]
      intro b hb
      rcases List.mem_cons.1 hb with rfl | hb
      · rw [e]; simp
      · rw [h0 b hb]; simp
    · rw [List.filter_cons_of_pos e, List.countP_cons_of_pos e, List.take_succ_cons, filter_take q l h.2]

theorem filter_drop {α : Type} (q r : α → Bool) : ∀ (l : List α), l.Pairwise (fun a b => q b = true → q a = true) → (∀ a ∈ l, r a = !(q a)) → l.filter r = l.drop (l.countP q)
  | [], _, _ => rfl
  | a :: l, h, hr => by
    rw [List.pairwise_cons] at h
    have ha := hr a (by simp)
    cases e : q a
    · have h0 : ∀ b ∈ l, q b = false := fun b hb => by
        cases e2 : q b
        · rfl
        · have := h.1 b hb e2; rw [e] at this; cases this
      have hc : (a :: l).countP q = 0 := by
        rw [List.countP_eq_zero]
        intro b hb
        rcases List.mem_cons.1 hb with rfl | hb
        · rw [e]; simp
        · rw [h0 b hb]; simp
      rw [hc, List.drop_zero, List.filter_eq_self]
      intro b hb
      rcases List.mem_cons.1 hb with rfl | hb
      · rw [ha, e]; rfl
      · rw [hr b (List.mem_cons_of_mem _ hb), h0 b hb]; rfl
    · rw [List.filter_cons_of_neg (by rw [ha, e]; simp), List.countP_cons_of_pos e, List.drop_succ_cons, filter_drop q r l h.2 (fun b hb => hr b (List.mem_cons_of_mem _ hb))]

def insT (T : List NodeM) (N : NodeM) : List NodeM := T.filter (fun y => before y.path N.path) ++ N :: T.filter (fun y => before N.path y.path)

theorem before_last {p : PathM} {a b : List UInt8} (P Q : PathM) (hP : P = p ++ [a]) (hQ : Q = p ++ [b]) : before P Q = less a b := by
  subst hP hQ
  unfold before
  by_cases hp : p = []
  · subst hp; simp [jl]
  · rw [jl_snoc _ _ hp, jl_snoc _ _ hp, show jl p ++ 47 :: a = (jl p ++ [47]) ++ a by simp, show jl p ++ 47 :: b = (jl p ++ [47]) ++ b by simp, less_prefix]

theorem found_no {K : List NodeM} {p : List UInt8} (hs : K.Pairwise fun x y => less x.last y.last = true) (h : found K p = false) : ∀ y ∈ K, y.last ≠ p := fun y hy e => by
  have := found_mem hs hy
  rw [e, h] at this; cases this

theorem insT_kids {T : List NodeM} (hT : TreeOk T) {N : NodeM} {P : PathM} (hN : N.path = P ++ [N.last]) (hf : found (kids T P) N.last = false) :
    kids (insT T N) P = (kids T P).take (idx (kids T P) N.last) ++ N :: (kids T P).drop (idx (kids T P) N.last) := by
  have hs := hT.kids_rise P
  have hno := found_no hs hf
  have hNk : N.isKid P = true := isKid_iff.2 hN
  have hq : ∀ y ∈ kids T P, before y.path N.path = less y.last N.last := fun y hy => before_last _ _ (kids_mem.1 hy).2 hN
  have hr : ∀ y ∈ kids T P, before N.path y.path = !(less y.last N.last) := fun y hy => by
    rw [before_last _ _ hN (kids_mem.1 hy).2]
    rcases less_tri y.last N.last with h | h | h
    · rw [h, less_asymm h]; rfl
    · exact absurd h (hno y hy)
    · rw [h, less_asymm h]; rfl
  have hmono : (kids T P).Pairwise (fun a b => less b.last N.last = true → less a.last N.last = true) := hs.imp (fun h h2 => less_trans h h2)
  have e1 : (T.filter (fun y => before y.path N.path)).filter (NodeM.isKid P) = (kids T P).take (idx (kids T P) N.last) := by
    rw [List.filter_filter, show (fun a : NodeM => NodeM.isKid P a && before a.path N.path) = (fun a => before a.path N.path && NodeM.isKid P a) from funext fun a => Bool.and_comm _ _, ← List.filter_filter]
    show (kids T P).filter _ = _
    rw [List.filter_congr hq]
    exact filter_take _ _ hmono
  have e2 : (T.filter (fun y => before N.path y.path)).filter (NodeM.isKid P) = (kids T P).drop (idx (kids T P) N.last) := by
    rw [List.filter_filter, show (fun a : NodeM => NodeM.isKid P a && before N.path a.path) = (fun a => before N.path a.path && NodeM.isKid P a) from funext fun a => Bool.and_comm _ _, ← List.filter_filter]
    show (kids T P).filter _ = _
    exact filter_drop _ _ _ hmono hr
  unfold insT
  rw [kids_append]
  unfold kids at e1 e2 ⊢
  rw [List.filter_cons_of_pos hNk, e1, e2]

theorem insT_keys {T : List NodeM} {N : NodeM} (hn : N.path ∉ paths (T.map keyOf)) (hi : N.ids = []) : (insT T N).map keyOf = insP (T.map keyOf) N.path := by
  unfold insT insP
  rw [if_neg hn, List.map_append, List.map_cons, List.filter_map, List.filter_map]
  show _ ++ (N.path, N.ids) :: _ = _
  rw [hi]; rfl

theorem insT_mem {T : List NodeM} {N : NodeM} {y : NodeM} (h : y ∈ insT T N) : y ∈ T ∨ y = N := by
  unfold insT at h
  rw [List.mem_append, List.mem_cons] at h
  rcases h with h | h | h
  · exact .inl ((List.mem_filter.1 h).1)
  · exact .inr h
  · exact .inl ((List.mem_filter.1 h).1)

theorem paths_keys (T : List NodeM) : paths (T.map keyOf) = T.map (·.path) := by unfold paths; rw [List.map_map]; rfl

theorem setKids_keyOf (T : List NodeM) (P : PathM) (v : Value) : (setKids T P v).map keyOf = T.map keyOf := setKids_keys T P v

/-- Two lists of nodes of the same paths and blocks have the same children. -/
theorem kids_pp {S T : List NodeM} (h : pp S = pp T) (Q : PathM) : pp (kids S Q) = pp (kids T Q) := by
  have e : ∀ T : List NodeM, pp (kids T Q) = (pp T).filter (fun a => decide (a.1 ≠ []) && decide (a.1.dropLast = Q)) := fun T => by
    unfold pp kids; rw [List.filter_map]; rfl
  rw [e, e, h]

theorem last_map {S T : List NodeM} (h : pp S = pp T) : S.map (·.last) = T.map (·.last) := by
  have := congrArg (List.map fun a : PathM × Nat => a.1.getLastD []) h
  unfold pp at this
  rw [List.map_map, List.map_map] at this
  exact this

theorem idx_pp {S T : List NodeM} (h : pp S = pp T) (p : List UInt8) : idx S p = idx T p := by
  have e : ∀ T : List NodeM, idx T p = (T.map (·.last)).countP (fun y => less y p) := fun T => by unfold idx; rw [List.countP_map]; rfl
  rw [e, e, last_map h]

theorem found_pp {S T : List NodeM} (h : pp S = pp T) (p : List UInt8) : found S p = found T p := by
  have e : ∀ T : List NodeM, found T p = (match (T.map (·.last))[idx T p]? with | some y => y == p | none => false) := fun T => by
    unfold found; rw [List.getElem?_map]; cases T[idx T p]? <;> rfl
  rw [e, e, last_map h, idx_pp h]

theorem ptrs_pp {S T : List NodeM} (h : pp S = pp T) : ptrs S = ptrs T := by
  have e : ∀ T : List NodeM, ptrs T = (pp T).map (fun a => .pointer (some ⟨a.2, 0, none⟩)) := fun T => by unfold ptrs pp; rw [List.map_map]; rfl
  rw [e, e, h]

theorem split_at {T : List NodeM} (hT : TreeOk T) {P : PathM} (hP : Good P) (hn : P ∉ paths (T.map keyOf)) : T.filter (fun y => before y.path P) ++ T.filter (fun y => before P y.path) = T := by
  have hmono : T.Pairwise (fun a b => before b.path P = true → before a.path P = true) := hT.sorted.imp (fun h h2 => before_trans h h2)
  rw [filter_take _ _ hmono, filter_drop (fun y => before y.path P) (fun y => before P y.path) T hmono (fun y hy => ?_), List.take_append_drop]
  rcases before_tri (hT.good y hy) hP with h | h | h
  · rw [h, show before P y.path = false from less_asymm h]; rfl
  · exact absurd (by rw [paths_keys]; exact List.mem_map.2 ⟨y, hy, h⟩) hn
  · rw [h, show before y.path P = false from less_asymm h]; rfl

theorem insT_other {T : List NodeM} (hT : TreeOk T) {N : NodeM} {P Q : PathM} (hgN : Good N.path) (hN : N.path = P ++ [N.last]) (hn : N.path ∉ paths (T.map keyOf)) (hQ : Q ≠ P) : kids (insT T N) Q = kids T Q := by
  have hNk : N.isKid Q = false := by
    cases e : N.isKid Q
    · rfl
    · rw [isKid_iff, hN] at e
      rw [last_snoc hN] at e
      exact absurd (List.append_inj_left e (by have := congrArg List.length e; simpa using this)).symm hQ
  unfold insT
  rw [kids_append]
  unfold kids
  rw [List.filter_cons_of_neg (by rw [hNk]; simp), ← List.filter_append, split_at hT hgN hn]

/-- A child put between the others: the tree in memory. -/
theorem Nodes.put {w W : World} {B b : Nat} {T : List NodeM} {x : NodeM} {p : List UInt8} {kv : Value} (h : Nodes w B T) (hT : TreeOk T) (hx : x ∈ T) (hp : Good (x.path ++ [p])) (hB : B ≤ w.heap.size)
    (hf : found (kids T x.path) p = false) (hg : GrownL w W [boxV x, x.idsV, x.kidsV]) (hbx : W.heap[x.ptr]? = some (.cells #[.string (bts x.last), x.idsV, kv] 146 (0, 0)))
    (hids : W.ownsRow B 2 1 x.idsV x.ids.length (ints x.ids))
    (hkid : W.ownsRow B 122 1 kv ((kids T x.path).length + 1) ((ptrs (kids T x.path)).take (idx (kids T x.path) p) ++ .pointer (some ⟨b, 0, none⟩) :: (ptrs (kids T x.path)).drop (idx (kids T x.path) p)))
    (hk : kv.ownBlock = x.kidsV.ownBlock ∨ NewRow w kv) (hb : w.heap.size ≤ b) (hbn : W.heap[b]? = some (.cells #[.string (bts p), .slice none 0 0, .slice none 0 0] 146 (0, 0))) :
    ∃ T', TreeOk T' ∧ Nodes W B T' ∧ T'.map keyOf = insP (T.map keyOf) (x.path ++ [p]) ∧ T'.length = T.length + 1 ∧ (∀ y ∈ T, ∃ z ∈ T', z.path = y.path ∧ z.ptr = y.ptr) ∧ found (kids T' x.path) p = true ∧ idx (kids T' x.path) p = idx (kids T x.path) p := by
  obtain ⟨N, hNd⟩ : ∃ N : NodeM, N = ⟨x.path ++ [p], [], b, .slice none 0 0, .slice none 0 0⟩ := ⟨_, rfl⟩
  have hNp : N.path = x.path ++ [p] := by rw [hNd]
  have hNl : N.last = p := last_snoc hNp
  have hN2 : N.path = x.path ++ [N.last] := by rw [hNl]; exact hNp
  have hnew : ∀ y ∈ T, y.path ≠ N.path := fun y hy e => found_no (hT.kids_rise x.path) hf y (kids_mem.2 ⟨hy, by rw [last_snoc (e.trans hNp)]; exact e.trans hNp⟩) (last_snoc (e.trans hNp))
  have hK : (setKids T x.path kv).map keyOf = T.map keyOf := setKids_keyOf _ _ _
  have hTk : TreeOk (setKids T x.path kv) := by rw [treeOk_iff, setKids_paths]; exact treeOk_iff.1 hT
  have hni : N.path ∉ paths ((setKids T x.path kv).map keyOf) := by
    rw [hK, paths_keys]
    intro e
    obtain ⟨y, hy, e⟩ := List.mem_map.1 e
    exact hnew y hy e
  have hkeys : (insT (setKids T x.path kv) N).map keyOf = insP (T.map keyOf) (x.path ++ [p]) := by rw [insT_keys hni (by rw [hNd]), hK, hNp]
  have hPO : PathsOk (paths (T.map keyOf)) := by rw [paths_keys]; exact treeOk_iff.1 hT
  have hT' : TreeOk (insT (setKids T x.path kv) N) := by
    rw [treeOk_iff, ← paths_keys, hkeys]
    exact insP_ok hPO hp (by rw [List.dropLast_concat, paths_keys]; exact List.mem_map_of_mem hx)
  have hpp := setKids_pp T x.path kv
  have kx : kids (insT (setKids T x.path kv) N) x.path = (kids (setKids T x.path kv) x.path).take (idx (kids T x.path) p) ++ N :: (kids (setKids T x.path kv) x.path).drop (idx (kids T x.path) p) := by
    have e1 := idx_pp (kids_pp hpp x.path) p
    have e2 := found_pp (kids_pp hpp x.path) p
    have := insT_kids hTk hN2 (by rw [hNl, e2]; exact hf)
    rw [hNl, e1] at this
    exact this
  have kx2 : ptrs (kids (insT (setKids T x.path kv) N) x.path) = (ptrs (kids T x.path)).take (idx (kids T x.path) p) ++ .pointer (some ⟨b, 0, none⟩) :: (ptrs (kids T x.path)).drop (idx (kids T x.path) p) := by
    rw [kx, ← setKids_kids T x.path x.path kv]
    unfold ptrs
    rw [List.map_append, List.map_cons, List.map_take, List.map_drop, show N.ptr = b by rw [hNd]]
  have kx3 : (kids (insT (setKids T x.path kv) N) x.path).length = (kids T x.path).length + 1 := by
    have h1 := congrArg List.length kx2
    have h2 : idx (kids T x.path) p ≤ (kids T x.path).length := List.countP_le_length
    simp only [ptrs, List.length_map, List.length_append, List.length_take, List.length_cons, List.length_drop] at h1
    omega
  have ky : ∀ Q, Q ≠ x.path → ptrs (kids (insT (setKids T x.path kv) N) Q) = ptrs (kids T Q) := fun Q hQ => by
    rw [insT_other hTk (by rw [hNp]; exact hp) hN2 hni hQ, setKids_kids]
  have kN : kids (insT (setKids T x.path kv) N) N.path = [] := by
    have h0 : kids T N.path = [] := by
      rw [List.eq_nil_iff_forall_not_mem]
      intro y hy
      obtain ⟨hy, e⟩ := kids_mem.1 hy
      obtain ⟨z, hz, e2⟩ := hT.closed y hy (by rw [e]; simp)
      rw [e, List.dropLast_concat] at e2
      exact hnew z hz e2
    have := ky N.path (by rw [hNp]; intro e; have := congrArg List.length e; simp at this)
    rw [h0] at this
    simpa [ptrs] using this
  have hNm : N ∈ insT (setKids T x.path kv) N := by unfold insT; simp
  have hfd : found (kids (insT (setKids T x.path kv) N) x.path) p = true := by
    have := found_mem (hT'.kids_rise x.path) (kids_mem.2 ⟨hNm, hN2⟩)
    rw [hNl] at this; exact this
  have hix : idx (kids (insT (setKids T x.path kv) N) x.path) p = idx (kids T x.path) p := by
    rw [kx]
    unfold idx
    rw [List.countP_append, List.countP_cons_of_neg (by rw [hNl, less_irrefl]; simp), ← List.countP_append, List.take_append_drop]
    exact idx_pp (kids_pp hpp x.path) p
  have hln : (insT (setKids T x.path kv) N).length = T.length + 1 := by
    have := congrArg List.length (split_at hTk (by rw [hNp]; exact hp) hni)
    unfold insT
    rw [List.length_append] at this
    rw [List.length_append, List.length_cons]
    have e : (setKids T x.path kv).length = T.length := by unfold setKids; simp
    omega
  have hall : ∀ y ∈ T, ∃ z ∈ insT (setKids T x.path kv) N, z.path = y.path ∧ z.ptr = y.ptr := fun y hy => by
    have h1 : (if y.path = x.path then { y with kidsV := kv } else y) ∈ setKids T x.path kv := List.mem_map.2 ⟨y, hy, rfl⟩
    have h2 : (if y.path = x.path then { y with kidsV := kv } else y).path = y.path ∧ (if y.path = x.path then { y with kidsV := kv } else y).ptr = y.ptr := by constructor <;> (split <;> rfl)
    refine ⟨_, ?_, h2⟩
    rw [← split_at hTk (P := N.path) (by rw [hNp]; exact hp) hni, List.mem_append] at h1
    unfold insT
    rw [List.mem_append, List.mem_cons]
    rcases h1 with h1 | h1
    · exact .inl h1
    · exact .inr (.inr h1)
  refine ⟨_, hT', h.turn (x' := { x with kidsV := kv }) (N := N) hT' hx hg rfl rfl hbx hids (by rw [kx2, kx3]; exact hkid) (.inl rfl) hk (fun y hy => ?_) (fun _ _ => ?_), hkeys, hln, hall, hfd, hix⟩
  · rcases insT_mem hy with h1 | h1
    · obtain ⟨z, hz, rfl⟩ := List.mem_map.1 h1
      by_cases e : z.path = x.path
      · right; left
        simp only [if_pos e]
        rw [hT.same hz hx e]
      · left
        simp only [if_neg e]
        exact ⟨hz, e, ky _ e⟩
    · exact .inr (.inr h1)
  · have hptr : N.ptr = b := by rw [hNd]
    have hki : N.kidsV = .slice none 0 0 := by rw [hNd]
    have hid : N.idsV = .slice none 0 0 := by rw [hNd]
    have hii : N.ids = [] := by rw [hNd]
    refine ⟨by rw [hNp]; intro e; have := congrArg List.length e; simp at this, by rw [hptr]; omega, by rw [hptr]; exact hb, ?_, by rw [hid, hii]; exact World.ownsRow_nil _ _ _ _, ?_, ?_, ?_, ?_, ?_⟩
    · unfold BoxAt; rw [hptr, hNl, hid, hki]; exact hbn
    · rw [kN, hki]; exact World.ownsRow_nil _ _ _ _
    · rw [hid]; intro b h; cases h
    · rw [hki]; intro b h; cases h
    · rw [hid]; exact Apart.symm (.inl rfl)
    · rw [hki]; exact Apart.symm (.inl rfl)

/-! ### A child taken out -/

def cutT (T : List NodeM) (P : PathM) : List NodeM := T.filter fun y => decide (y.path ≠ P)

theorem cutT_keys (T : List NodeM) (P : PathM) : (cutT T P).map keyOf = cutAt (T.map keyOf) P := by
  unfold cutT cutAt; rw [List.filter_map]; rfl

theorem cutT_mem {T : List NodeM} {P : PathM} {y : NodeM} : y ∈ cutT T P ↔ y ∈ T ∧ y.path ≠ P := by unfold cutT; rw [List.mem_filter, decide_eq_true_iff]

/-- Out of the children without the i-th. -/
theorem cutT_kids {T : List NodeM} (hT : TreeOk T) {P : PathM} {p : List UInt8} (hf : found (kids T P) p = true) : kids (cutT T (P ++ [p])) P = (kids T P).take (idx (kids T P) p) ++ (kids T P).drop (idx (kids T P) p + 1) := by
  have hs := hT.kids_rise P
  obtain ⟨hi, he⟩ := found_at hf
  obtain ⟨i, hii⟩ : ∃ i, idx (kids T P) p = i := ⟨_, rfl⟩
  simp only [hii] at hi he ⊢
  have e1 : kids (cutT T (P ++ [p])) P = (kids T P).filter (fun y => decide (y.last ≠ p)) := by
    unfold kids cutT
    rw [List.filter_filter, List.filter_filter]
    refine List.filter_congr fun y _ => ?_
    cases h : NodeM.isKid P y
    · simp
    · have h2 := isKid_iff.1 h
      simp only [Bool.true_and, Bool.and_true]
      congr 1
      rw [eq_iff_iff]
      constructor
      · intro h3 h4; apply h3; rw [h2, h4]
      · intro h3 h4; apply h3; exact last_snoc h4
  rw [e1]
  have hsplit : kids T P = (kids T P).take i ++ (kids T P)[i] :: (kids T P).drop (i + 1) := by rw [← List.drop_eq_getElem_cons hi, List.take_append_drop]
  have hpw := hs
  rw [hsplit, List.pairwise_append, List.pairwise_cons] at hpw
  conv => lhs; rw [hsplit]
  rw [List.filter_append, List.filter_cons_of_neg (by rw [he]; simp)]
  congr 1
  · rw [List.filter_eq_self]
    intro y hy
    have := hpw.2.2 y hy (kids T P)[i] (List.mem_cons_self ..)
    rw [he] at this
    rw [decide_eq_true_iff]; intro e; rw [e, less_irrefl] at this; cases this
  · rw [List.filter_eq_self]
    intro y hy
    have := hpw.2.1.1 y hy
    rw [he] at this
    rw [decide_eq_true_iff]; intro e; rw [e, less_irrefl] at this; cases this

theorem cutT_other {T : List NodeM} {P Q : PathM} {p : List UInt8} (hQ : Q ≠ P) : kids (cutT T (P ++ [p])) Q = kids T Q := by
  unfold kids cutT
  rw [List.filter_filter]
  refine List.filter_congr fun y _ => ?_
  cases h : NodeM.isKid Q y
  · simp
  · have h2 := isKid_iff.1 h
    simp only [Bool.true_and, decide_eq_true_iff]
    intro e
    rw [e] at h2
    exact hQ (List.append_inj_left h2 (by have := congrArg List.length h2; simpa using this)).symm

theorem emptyB_at {T : List NodeM} (hT : TreeOk T) {y : NodeM} (hy : y ∈ T) : emptyB T y = emptyAt (T.map keyOf) y.path := by
  have hPO : PathsOk (paths (T.map keyOf)) := by rw [paths_keys]; exact treeOk_iff.1 hT
  unfold emptyB emptyAt
  rw [show y.path = (keyOf y).1 from rfl, idsAt_of hPO (List.mem_map_of_mem hy)]
  congr 1
  unfold hasKid kids
  rw [List.any_map]
  cases e : T.any ((fun a : KeyM => decide (a.1 ≠ []) && decide (a.1.dropLast = (keyOf y).1)) ∘ keyOf)
  · rw [List.any_eq_false] at e
    rw [Bool.not_false, List.isEmpty_iff, List.filter_eq_nil_iff]
    intro z hz
    exact e z hz
  · rw [Bool.not_true, Bool.eq_false_iff]
    intro h
    rw [List.isEmpty_iff, List.filter_eq_nil_iff] at h
    obtain ⟨z, hz, h2⟩ := List.any_eq_true.1 e
    exact h z hz h2

/-- A child without children taken out: the tree in memory. -/
theorem Nodes.cut {w W : World} {B : Nat} {T : List NodeM} {x c : NodeM} {p : List UInt8} {kv : Value} (h : Nodes w B T) (hT : TreeOk T) (hx : x ∈ T) (hc : c ∈ T) (hcp : c.path = x.path ++ [p])
    (hf : found (kids T x.path) p = true) (hke : kids T c.path = []) (hg : GrownL w W [boxV x, x.idsV, x.kidsV]) (hbx : W.heap[x.ptr]? = some (.cells #[.string (bts x.last), x.idsV, kv] 146 (0, 0)))
    (hids : W.ownsRow B 2 1 x.idsV x.ids.length (ints x.ids))
    (hkid : W.ownsRow B 122 1 kv ((kids T x.path).length - 1) ((ptrs (kids T x.path)).take (idx (kids T x.path) p) ++ (ptrs (kids T x.path)).drop (idx (kids T x.path) p + 1)))
    (hk : kv.ownBlock = x.kidsV.ownBlock ∨ NewRow w kv) :
    ∃ T', T' = cutT (setKids T x.path kv) c.path ∧ TreeOk T' ∧ Nodes W B T' ∧ T'.map keyOf = cutAt (T.map keyOf) c.path ∧ pp T' = (pp T).filter (fun a => decide (a.1 ≠ c.path)) := by
  have hK : (setKids T x.path kv).map keyOf = T.map keyOf := setKids_keyOf _ _ _
  have hpp := setKids_pp T x.path kv
  have hTk : TreeOk (setKids T x.path kv) := by rw [treeOk_iff, setKids_paths]; exact treeOk_iff.1 hT
  have hkeys : (cutT (setKids T x.path kv) c.path).map keyOf = cutAt (T.map keyOf) c.path := by rw [cutT_keys, hK]
  have hPO : PathsOk (paths (T.map keyOf)) := by rw [paths_keys]; exact treeOk_iff.1 hT
  have hT' : TreeOk (cutT (setKids T x.path kv) c.path) := by
    rw [treeOk_iff, ← paths_keys, hkeys]
    refine ⟨fun Q hQ hne => ?_, fun Q hQ => hPO.good Q ((cut_paths _ _ Q).1 hQ).1, List.pairwise_map.2 ((rising_of hPO).filter _)⟩
    rw [cut_paths] at hQ ⊢
    refine ⟨hPO.closed Q hQ.1 hne, fun e => ?_⟩
    rw [paths_keys] at hQ
    obtain ⟨z, hz, ez⟩ := List.mem_map.1 hQ.1
    have : z ∈ kids T c.path := List.mem_filter.2 ⟨hz, by unfold NodeM.isKid; rw [ez, Bool.and_eq_true, decide_eq_true_iff, decide_eq_true_iff]; exact ⟨hne, e⟩⟩
    rw [hke] at this; cases this
  have kx : kids (cutT (setKids T x.path kv) c.path) x.path = (kids (setKids T x.path kv) x.path).take (idx (kids T x.path) p) ++ (kids (setKids T x.path kv) x.path).drop (idx (kids T x.path) p + 1) := by
    have e1 := idx_pp (kids_pp hpp x.path) p
    have e2 := found_pp (kids_pp hpp x.path) p
    have := cutT_kids hTk (P := x.path) (p := p) (by rw [e2]; exact hf)
    rw [e1] at this
    rw [hcp]; exact this
  have kx2 : ptrs (kids (cutT (setKids T x.path kv) c.path) x.path) = (ptrs (kids T x.path)).take (idx (kids T x.path) p) ++ (ptrs (kids T x.path)).drop (idx (kids T x.path) p + 1) := by
    rw [kx, ← setKids_kids T x.path x.path kv]
    unfold ptrs
    rw [List.map_append, List.map_take, List.map_drop]
  have kx3 : (kids (cutT (setKids T x.path kv) c.path) x.path).length = (kids T x.path).length - 1 := by
    have h1 := congrArg List.length kx2
    obtain ⟨h2, _⟩ := found_at hf
    simp only [ptrs, List.length_map, List.length_append, List.length_take, List.length_drop] at h1
    omega
  have ky : ∀ Q, Q ≠ x.path → ptrs (kids (cutT (setKids T x.path kv) c.path) Q) = ptrs (kids T Q) := fun Q hQ => by
    rw [hcp, cutT_other hQ, setKids_kids]
  refine ⟨_, rfl, hT', h.turn (x' := { x with kidsV := kv }) (N := { x with kidsV := kv }) hT' hx hg rfl rfl hbx hids (by rw [kx2, kx3]; exact hkid) (.inl rfl) hk (fun y hy => ?_) (fun _ hne => absurd rfl hne), hkeys, ?_⟩
  · obtain ⟨h1, _⟩ := cutT_mem.1 hy
    obtain ⟨z, hz, rfl⟩ := List.mem_map.1 h1
    by_cases e : z.path = x.path
    · right; left
      simp only [if_pos e]
      rw [hT.same hz hx e]
    · left
      simp only [if_neg e]
      exact ⟨hz, e, ky _ e⟩
  · rw [← hpp]
    unfold pp cutT
    rw [List.filter_map]; rfl

end Go.Proofs.YtmfbffhbgelnnaaGreatDoor
