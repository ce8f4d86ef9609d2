/- The program's tree: a node more. -/
import Derived.Test.YtcggenpianpoiaaDoorNode3
import Derived.Test.YtcggenpianpoiaaDoorNode2
import Derived.Test.YtcggenpianpoiaaDoorIIds
import Derived.Test.YtcggenpianpoiaaDoorAppS
import Derived.Test.YtcggenpianpoiaaDoorFilter
import Derived.Deep.RegionHeld
namespace Go.Proofs.YtcggenpianpoiaaDoor
open Go.RowKit

/-- What a list of paths is like. -/
structure PathsOk (L : List (List (List UInt8))) : Prop where
  closed : ∀ P ∈ L, P ≠ [] → P.dropLast ∈ L
  good : ∀ P ∈ L, Good P
  sorted : L.Pairwise fun P Q => less (jl P) (jl Q) = true

theorem treeOk_iff {T : List NodeM} : TreeOk T ↔ PathsOk (T.map (·.path)) := by
  constructor
  · intro h
    refine ⟨fun P hP hne => ?_, fun P hP => ?_, ?_⟩
    · obtain ⟨x, hx, rfl⟩ := List.mem_map.1 hP
      obtain ⟨y, hy, e⟩ := h.closed x hx hne
      exact List.mem_map.2 ⟨y, hy, e⟩
    · obtain ⟨x, hx, rfl⟩ := List.mem_map.1 hP
      exact h.good x hx
    · exact List.pairwise_map.2 h.sorted
  · intro h
    refine ⟨fun x hx hne => ?_, fun x hx => h.good _ (List.mem_map_of_mem hx), List.pairwise_map.1 h.sorted⟩
    obtain ⟨y, hy, e⟩ := List.mem_map.1 (h.closed _ (List.mem_map_of_mem hx) hne)
    exact ⟨y, hy, e⟩

/-- The children of p in a list that differs in its nodes' fields alone. -/
theorem kids_map {T : List NodeM} {f : NodeM → NodeM} (hf : ∀ y ∈ T, (f y).path = y.path ∧ (f y).ptr = y.ptr) (p : List (List UInt8)) : ptrs (kids (T.map f) p) = ptrs (kids T p) := by
  induction T with
  | nil => rfl
  | cons a T ih =>
    have ih := ih (fun y hy => hf y (List.mem_cons_of_mem _ hy))
    have ha := hf a (by simp)
    unfold kids ptrs at ih ⊢
    have e : NodeM.isKid p (f a) = NodeM.isKid p a := by unfold NodeM.isKid; rw [ha.1]
    rw [List.map_cons, List.filter_cons, List.filter_cons, e]
    split
    · rw [List.map_cons, List.map_cons, ih, ha.2]
    · exact ih

def setKids (T : List NodeM) (P : List (List UInt8)) (v : Value) : List NodeM := T.map fun y => if y.path = P then { y with kidsV := v } else y

theorem setKids_paths (T : List NodeM) (P : List (List UInt8)) (v : Value) : (setKids T P v).map (·.path) = T.map (·.path) := by
  unfold setKids; rw [List.map_map]; apply List.map_congr_left; intro y _; simp only [Function.comp]; split <;> rfl
theorem setKids_keys (T : List NodeM) (P : List (List UInt8)) (v : Value) : (setKids T P v).map (fun x => (x.path, x.ids)) = T.map (fun x => (x.path, x.ids)) := by
  unfold setKids; rw [List.map_map]; apply List.map_congr_left; intro y _; simp only [Function.comp]; split <;> rfl
theorem setKids_kids (T : List NodeM) (P Q : List (List UInt8)) (v : Value) : ptrs (kids (setKids T P v) Q) = ptrs (kids T Q) :=
  kids_map (fun y _ => by constructor <;> (split <;> rfl)) Q

theorem kids_append (T U : List NodeM) (p : List (List UInt8)) : kids (T ++ U) p = kids T p ++ kids U p := List.filter_append ..
theorem ptrs_append (T U : List NodeM) : ptrs (T ++ U) = ptrs T ++ ptrs U := List.map_append ..

/-- The paths with one more behind them. -/
theorem PathsOk.push {L : List (List (List UInt8))} {P : List (List UInt8)} (h : PathsOk L) (hP : Good P) (hd : P.dropLast ∈ L) (hs : ∀ Q ∈ L, less (jl Q) (jl P) = true) : PathsOk (L ++ [P]) := by
  refine ⟨fun Q hQ hne => ?_, fun Q hQ => ?_, ?_⟩
  · rcases List.mem_append.1 hQ with h1 | h1
    · exact List.mem_append_left _ (h.closed Q h1 hne)
    · rw [List.mem_singleton.1 h1]; exact List.mem_append_left _ hd
  · rcases List.mem_append.1 hQ with h1 | h1
    · exact h.good Q h1
    · rw [List.mem_singleton.1 h1]; exact hP
  · rw [List.pairwise_append]
    exact ⟨h.sorted, List.pairwise_singleton _ _, fun Q hQ R hR => by rw [List.mem_singleton.1 hR]; exact hs Q hQ⟩

/-- A child more at the end: the tree behind 'link'. -/
theorem Nodes.link {w W : World} {B b : Nat} {T : List NodeM} {x : NodeM} {p : List UInt8} {ids : List Int} {iv kv : Value} (h : Nodes w B T) (hT : TreeOk T) (hx : x ∈ T) (hB : B ≤ w.heap.size) (hp : Good (x.path ++ [p]))
    (hs : ∀ y ∈ T, less (jl y.path) (jl (x.path ++ [p])) = true) (hg : GrownL w W [boxV x, x.idsV, x.kidsV]) (hbx : W.heap[x.ptr]? = some (.cells #[.string (bts x.last), x.idsV, kv] 83 (0, 0)))
    (hids : W.ownsRow B 2 1 x.idsV x.ids.length (ints x.ids)) (hkid : W.ownsRow B 49 1 kv ((kids T x.path).length + 1) (ptrs (kids T x.path) ++ [.pointer (some ⟨b, 0, none⟩)])) (hk : kv.ownBlock = x.kidsV.ownBlock ∨ NewRow w kv)
    (hb : w.heap.size ≤ b) (hbn : W.heap[b]? = some (.cells #[.string (bts p), iv, .slice none 0 0] 83 (0, 0))) (hiv : W.ownsRow B 2 1 iv ids.length (ints ids)) (hivn : NewRow w iv) :
    TreeOk (setKids T x.path kv ++ [⟨x.path ++ [p], ids, b, iv, .slice none 0 0⟩]) ∧ Nodes W B (setKids T x.path kv ++ [⟨x.path ++ [p], ids, b, iv, .slice none 0 0⟩]) := by
  obtain ⟨N, hNd⟩ : ∃ N : NodeM, N = ⟨x.path ++ [p], ids, b, iv, .slice none 0 0⟩ := ⟨_, rfl⟩
  rw [← hNd]
  have hNp : N.path = x.path ++ [p] := by rw [hNd]
  have hNl : N.last = p := last_snoc hNp
  have hT' : TreeOk (setKids T x.path kv ++ [N]) := by
    rw [treeOk_iff, List.map_append, setKids_paths, List.map_cons, List.map_nil, hNp]
    refine (treeOk_iff.1 hT).push hp (by rw [List.dropLast_concat]; exact List.mem_map_of_mem hx) fun Q hQ => ?_
    obtain ⟨y, hy, rfl⟩ := List.mem_map.1 hQ
    exact hs y hy
  have hnew : ∀ y ∈ T, y.path ≠ x.path ++ [p] := fun y hy e => by have := hs y hy; rw [e, less_irrefl] at this; cases this
  have kx : ptrs (kids (setKids T x.path kv ++ [N]) x.path) = ptrs (kids T x.path) ++ [.pointer (some ⟨b, 0, none⟩)] := by
    rw [kids_append, ptrs_append, setKids_kids]
    congr 1
    have : N.isKid x.path = true := by rw [isKid_iff, hNl]; exact hNp
    unfold kids ptrs
    rw [List.filter_cons, if_pos this, hNd]; rfl
  have kx2 : (kids (setKids T x.path kv ++ [N]) x.path).length = (kids T x.path).length + 1 := by have := congrArg List.length kx; simpa [ptrs] using this
  have ky : ∀ Q, Q ≠ x.path → ptrs (kids (setKids T x.path kv ++ [N]) Q) = ptrs (kids T Q) := fun Q hQ => by
    rw [kids_append, ptrs_append, setKids_kids]
    have : N.isKid Q = false := by
      cases e : N.isKid Q
      · rfl
      · rw [isKid_iff, hNp, hNl] at e; exact absurd (List.append_inj_left e (by have := congrArg List.length e; simpa using this)).symm hQ
    unfold kids ptrs
    rw [List.filter_cons, if_neg (by rw [this]; simp)]; simp
  have kN : kids (setKids T x.path kv ++ [N]) N.path = [] := by
    have h0 : ptrs (kids T N.path) = [] := by
      have : kids T N.path = [] := by
        rw [List.eq_nil_iff_forall_not_mem]
        intro y hy
        obtain ⟨hy, e⟩ := kids_mem.1 hy
        obtain ⟨z, hz, e2⟩ := hT.closed y hy (by rw [e]; simp)
        rw [e, List.dropLast_concat, hNp] at e2
        exact hnew z hz e2
      rw [this]; rfl
    have := ky N.path (by rw [hNp]; intro e; have := congrArg List.length e; simp at this)
    rw [h0] at this
    simpa [ptrs] using this
  refine ⟨hT', h.turn (x' := { x with kidsV := kv }) (N := N) hT' hx hg rfl rfl hbx hids (by rw [kx, kx2]; exact hkid) (.inl rfl) hk (fun y hy => ?_) (fun _ _ => ?_)⟩
  · rcases List.mem_append.1 hy with h1 | h1
    · obtain ⟨z, hz, rfl⟩ := List.mem_map.1 h1
      by_cases e : z.path = x.path
      · right; left
        simp only [if_pos e]
        rw [hT.same hz hx e]
      · left
        simp only [if_neg e]
        exact ⟨hz, e, ky _ e⟩
    · exact .inr (.inr (List.mem_singleton.1 h1))
  · have hptr : N.ptr = b := by rw [hNd]
    have hki : N.kidsV = .slice none 0 0 := by rw [hNd]
    have hid : N.idsV = iv := by rw [hNd]
    have hii : N.ids = ids := by rw [hNd]
    refine ⟨by rw [hNp]; intro e; have := congrArg List.length e; simp at this, by rw [hptr]; omega, by rw [hptr]; exact hb, ?_, by rw [hid, hii]; exact hiv, ?_, by rw [hid]; exact hivn, ?_, ?_, ?_⟩
    · unfold BoxAt; rw [hptr, hNl, hid, hki]; exact hbn
    · rw [kN, hki]; exact World.ownsRow_nil _ _ _ _
    · rw [hki]; intro b h; cases h
    · rw [hid]; exact new_apart (h.ids x hx) hivn
    · rw [hki]; exact Apart.symm (.inl rfl)

end Go.Proofs.YtcggenpianpoiaaDoor
