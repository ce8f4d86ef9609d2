/- Small texts, laid together. -/
import Derived.Test.YtndkfmffmkgijaaDoorZNode
import Derived.Test.YtndkfmffmkgijaaDoorZB3
import Derived.Test.YtndkfmffmkgijaaDoorZSTrie4
import Derived.Test.YtndkfmffmkgijaaDoorZNode2
import Derived.Test.YtndkfmffmkgijaaDoorZB4
import Derived.Test.YtndkfmffmkgijaaDoorZB1
import Derived.Test.YtndkfmffmkgijaaDoorZB2
import Derived.Deep.RegionHeld
import Derived.Test.YtndkfmffmkgijaaDoorZOwn
import Derived.Deep.LoopGhost
set_option linter.unusedSimpArgs false
set_option linter.unusedVariables false
/- The program's tree: what a change of one node leaves. -/
namespace Go.Proofs.YtndkfmffmkgijaaDoor
open Go.RowKit

theorem free_of_heap {w : World} {g j : Nat} {cur : Array Value} {e : TypeId} (h : w.heap[g]? = some (.cells cur e (0, 0))) : w.frozen? ⟨g, j, none⟩ = false := by simp [World.frozen?, h]

theorem heap_setCell {w : World} {g j : Nat} {cur : Array Value} {e : TypeId} {f : Nat × Nat} {v : Value} (h : w.heap[g]? = some (.cells cur e f)) : (w.setCell ⟨g, j, none⟩ v).heap[g]? = some (.cells (cur.setIfInBounds j v) e f) := by
  simp [World.setCell, Array.getElem?_modify, h]

def boxV (x : NodeM) : Value := .slice (some ⟨x.ptr, 0, none⟩) 0 0

theorem boxV_block (x : NodeM) : (boxV x).ownBlock = some x.ptr := rfl

theorem Nodes.below {w w' : World} {B : Nat} {T : List NodeM} (h : Nodes w B T) (hb : Below w.heap.size w w') : Nodes w' B T :=
  ⟨fun x hx => ⟨(h.box x hx).1, (hb.block _ (Array.getElem?_eq_some_iff.1 (h.box x hx).2).1).trans (h.box x hx).2⟩, fun x hx => row_below (h.ids x hx) hb, fun x hx => row_below (h.kid x hx) hb, h.apart⟩

theorem Apart3.symm {y z : NodeM} (h : Apart3 y z) : Apart3 z y := ⟨Ne.symm h.1, h.2.1.symm, h.2.2.symm⟩

/-- A row of another type than the nodes' lies in no node's block. -/
theorem box_apart {w : World} {B n size : Nat} {E : TypeId} {v : Value} {xs : List Value} {x : NodeM} (h : w.ownsRow B E size v n xs) (hx : BoxAt w x) (hne : E ≠ 76) : Apart v (boxV x) := by
  have := own_not_at h hx hne
  exact .inr this

def NewRow (w : World) (v : Value) : Prop := ∀ b, v.ownBlock = some b → w.heap.size ≤ b

theorem new_apart {w : World} {B n size : Nat} {E : TypeId} {v u : Value} {xs : List Value} (h : w.ownsRow B E size v n xs) (hu : NewRow w u) : Apart v u := by
  cases e : v.ownBlock with
  | none => exact .inl e
  | some b => exact .inr (fun e2 => by have h1 := (h.lt b e).2; have h2 := hu b (by rw [← e2, e]); omega)

/-- One node of T has become x' (its path and its block are as they were), one new node may have come, some others gone. -/
theorem Nodes.turn {w W : World} {B : Nat} {T T' : List NodeM} {x x' N : NodeM} (h : Nodes w B T) (hT' : TreeOk T') (hx : x ∈ T) (hg : GrownL w W [boxV x, x.idsV, x.kidsV]) (hpath : x'.path = x.path) (hptr : x'.ptr = x.ptr)
    (hbox : BoxAt W x') (hids : W.ownsRow B 2 1 x'.idsV x'.ids.length (ints x'.ids)) (hkid : W.ownsRow B 43 1 x'.kidsV (kids T' x.path).length (ptrs (kids T' x.path)))
    (hi : x'.idsV.ownBlock = x.idsV.ownBlock ∨ NewRow w x'.idsV) (hk : x'.kidsV.ownBlock = x.kidsV.ownBlock ∨ NewRow w x'.kidsV)
    (hmem : ∀ y ∈ T', (y ∈ T ∧ y.path ≠ x.path ∧ ptrs (kids T' y.path) = ptrs (kids T y.path)) ∨ y = x' ∨ y = N)
    (hN : N ∈ T' → N ≠ x' → N.path ≠ x.path ∧ B ≤ N.ptr ∧ w.heap.size ≤ N.ptr ∧ BoxAt W N ∧ W.ownsRow B 2 1 N.idsV N.ids.length (ints N.ids) ∧ W.ownsRow B 43 1 N.kidsV (kids T' N.path).length (ptrs (kids T' N.path)) ∧
      NewRow w N.idsV ∧ NewRow w N.kidsV ∧ Apart x'.idsV N.idsV ∧ Apart x'.kidsV N.kidsV) : Nodes W B T' := by
  have n1 : 2 ≠ 76 := by decide
  have n2 : 43 ≠ 76 := by decide
  have n3 : 2 ≠ 43 := by decide
  have hbx := (h.box x hx).2
  have kI : ∀ y ∈ T, y.path ≠ x.path → ∀ v ∈ [boxV x, x.idsV, x.kidsV], Apart y.idsV v := fun y hy hne v hv => by
    rcases List.mem_cons.1 hv with rfl | hv
    · exact box_apart (h.ids y hy) hbx n1
    · rcases List.mem_cons.1 hv with rfl | hv
      · exact (h.apart y hy x hx hne).2.1
      · rw [List.mem_singleton.1 hv]; exact apart_types (h.ids y hy) (h.kid x hx) n3
  have kK : ∀ y ∈ T, y.path ≠ x.path → ∀ v ∈ [boxV x, x.idsV, x.kidsV], Apart y.kidsV v := fun y hy hne v hv => by
    rcases List.mem_cons.1 hv with rfl | hv
    · exact box_apart (h.kid y hy) hbx n2
    · rcases List.mem_cons.1 hv with rfl | hv
      · exact apart_types (h.kid y hy) (h.ids x hx) (Ne.symm n3)
      · rw [List.mem_singleton.1 hv]; exact (h.apart y hy x hx hne).2.2
  have kB : ∀ y ∈ T, y.path ≠ x.path → BoxAt W y := fun y hy hne => by
    refine (hg.block y.ptr (Array.getElem?_eq_some_iff.1 (h.box y hy).2).1 fun v hv e => ?_).trans (h.box y hy).2
    rcases List.mem_cons.1 hv with rfl | hv
    · rw [boxV_block] at e; exact (h.apart y hy x hx hne).1 (Option.some.inj e).symm
    · rcases List.mem_cons.1 hv with rfl | hv
      · exact own_not_at (h.ids x hx) (h.box y hy).2 n1 e
      · rw [List.mem_singleton.1 hv] at e; exact own_not_at (h.kid x hx) (h.box y hy).2 n2 e
  have split : ∀ y ∈ T', (y ∈ T ∧ y.path ≠ x.path ∧ ptrs (kids T' y.path) = ptrs (kids T y.path)) ∨ y = x' ∨ (y = N ∧ N ≠ x') := fun y hy => by
    rcases hmem y hy with h1 | h1 | h1
    · exact .inl h1
    · exact .inr (.inl h1)
    · by_cases e : N = x'
      · exact .inr (.inl (h1.trans e))
      · exact .inr (.inr ⟨h1, e⟩)
  have old_x : ∀ y ∈ T, y.path ≠ x.path → Apart3 y x' := fun y hy hne => by
    refine ⟨by rw [hptr]; exact (h.apart y hy x hx hne).1, ?_, ?_⟩
    · rcases hi with e | e
      · have := (h.apart y hy x hx hne).2.1; unfold Apart at this ⊢; rw [e]; exact this
      · exact new_apart (h.ids y hy) e
    · rcases hk with e | e
      · have := (h.apart y hy x hx hne).2.2; unfold Apart at this ⊢; rw [e]; exact this
      · exact new_apart (h.kid y hy) e
  refine ⟨fun y hy => ?_, fun y hy => ?_, fun y hy => ?_, fun y hy z hz hne => ?_⟩
  · rcases split y hy with ⟨h1, h2, h3⟩ | rfl | ⟨rfl, he⟩
    · exact ⟨(h.box y h1).1, kB y h1 h2⟩
    · exact ⟨by rw [hptr]; exact (h.box x hx).1, hbox⟩
    · exact ⟨(hN hy he).2.1, (hN hy he).2.2.2.1⟩
  · rcases split y hy with ⟨h1, h2, h3⟩ | rfl | ⟨rfl, he⟩
    · exact own_keptL (h.ids y h1) hg (kI y h1 h2)
    · exact hids
    · exact (hN hy he).2.2.2.2.1
  · rcases split y hy with ⟨h1, h2, h3⟩ | rfl | ⟨rfl, he⟩
    · have := own_keptL (h.kid y h1) hg (kK y h1 h2)
      rw [← h3] at this
      have e : (kids T' y.path).length = (kids T y.path).length := by have := congrArg List.length h3; simpa [ptrs] using this
      rw [e]; exact this
    · rw [hpath]; exact hkid
    · exact (hN hy he).2.2.2.2.2.1
  · rcases split y hy with ⟨h1, h2, h3⟩ | rfl | ⟨rfl, he⟩
    · rcases split z hz with ⟨k1, k2, k3⟩ | rfl | ⟨rfl, he2⟩
      · exact h.apart y h1 z k1 hne
      · exact old_x y h1 h2
      · have hn := hN hz he2
        exact ⟨by have := (Array.getElem?_eq_some_iff.1 (h.box y h1).2).1; omega, new_apart (h.ids y h1) hn.2.2.2.2.2.2.1, new_apart (h.kid y h1) hn.2.2.2.2.2.2.2.1⟩
    · rcases split z hz with ⟨k1, k2, k3⟩ | rfl | ⟨rfl, he2⟩
      · exact (old_x z k1 k2).symm
      · exact absurd rfl hne
      · have hn := hN hz he2
        exact ⟨by have := (Array.getElem?_eq_some_iff.1 (h.box x hx).2).1; rw [hptr]; omega, hn.2.2.2.2.2.2.2.2.1, hn.2.2.2.2.2.2.2.2.2⟩
    · have hn := hN hy he
      rcases split z hz with ⟨k1, k2, k3⟩ | rfl | ⟨rfl, he2⟩
      · exact Apart3.symm (y := z) (z := y) ⟨by have := (Array.getElem?_eq_some_iff.1 (h.box z k1).2).1; omega, new_apart (h.ids z k1) hn.2.2.2.2.2.2.1, new_apart (h.kid z k1) hn.2.2.2.2.2.2.2.1⟩
      · exact Apart3.symm (y := z) (z := y) ⟨by have := (Array.getElem?_eq_some_iff.1 (h.box x hx).2).1; rw [hptr]; omega, hn.2.2.2.2.2.2.2.2.1, hn.2.2.2.2.2.2.2.2.2⟩
      · exact absurd rfl hne

end Go.Proofs.YtndkfmffmkgijaaDoor

/- The program's tree: a node more. -/
namespace Go.Proofs.YtndkfmffmkgijaaDoor
open Go.RowKit

/-- What a list of paths is like. -/
structure PathsOk (L : List (List (List UInt8))) : Prop where
  closed : ∀ P ∈ L, P ≠ [] → P.dropLast ∈ L
  good : ∀ P ∈ L, Good P
  sorted : L.Pairwise fun P Q => less (jl P) (jl Q) = true

theorem treeOk_iff {T : List NodeM} : TreeOk T ↔ PathsOk (T.map (·.path)) := by
  constructor
  · intro h
    refine ⟨fun P hP hne => ?_, fun P hP => ?_, ?_⟩
    · obtain ⟨x, hx, rfl⟩ := List.mem_map.1 hP
      obtain ⟨y, hy, e⟩ := h.closed x hx hne
      exact List.mem_map.2 ⟨y, hy, e⟩
    · obtain ⟨x, hx, rfl⟩ := List.mem_map.1 hP
      exact h.good x hx
    · exact List.pairwise_map.2 h.sorted
  · intro h
    refine ⟨fun x hx hne => ?_, fun x hx => h.good _ (List.mem_map_of_mem hx), List.pairwise_map.1 h.sorted⟩
    obtain ⟨y, hy, e⟩ := List.mem_map.1 (h.closed _ (List.mem_map_of_mem hx) hne)
    exact ⟨y, hy, e⟩

/-- The children of p in a list that differs in its nodes' fields alone. -/
theorem kids_map {T : List NodeM} {f : NodeM → NodeM} (hf : ∀ y ∈ T, (f y).path = y.path ∧ (f y).ptr = y.ptr) (p : List (List UInt8)) : ptrs (kids (T.map f) p) = ptrs (kids T p) := by
  induction T with
  | nil => rfl
  | cons a T ih =>
    have ih := ih (fun y hy => hf y (List.mem_cons_of_mem _ hy))
    have ha := hf a (by simp)
    unfold kids ptrs at ih ⊢
    have e : NodeM.isKid p (f a) = NodeM.isKid p a := by unfold NodeM.isKid; rw [ha.1]
    rw [List.map_cons, List.filter_cons, List.filter_cons, e]
    split
    · rw [List.map_cons, List.map_cons, ih, ha.2]
    · exact ih

def setKids (T : List NodeM) (P : List (List UInt8)) (v : Value) : List NodeM := T.map fun y => if y.path = P then { y with kidsV := v } else y

theorem setKids_paths (T : List NodeM) (P : List (List UInt8)) (v : Value) : (setKids T P v).map (·.path) = T.map (·.path) := by
  unfold setKids; rw [List.map_map]; apply List.map_congr_left; intro y _; simp only [Function.comp]; split <;> rfl
theorem setKids_keys (T : List NodeM) (P : List (List UInt8)) (v : Value) : (setKids T P v).map (fun x => (x.path, x.ids)) = T.map (fun x => (x.path, x.ids)) := by
  unfold setKids; rw [List.map_map]; apply List.map_congr_left; intro y _; simp only [Function.comp]; split <;> rfl
theorem setKids_kids (T : List NodeM) (P Q : List (List UInt8)) (v : Value) : ptrs (kids (setKids T P v) Q) = ptrs (kids T Q) :=
  kids_map (fun y _ => by constructor <;> (split <;> rfl)) Q

theorem kids_append (T U : List NodeM) (p : List (List UInt8)) : kids (T ++ U) p = kids T p ++ kids U p := List.filter_append ..
theorem ptrs_append (T U : List NodeM) : ptrs (T ++ U) = ptrs T ++ ptrs U := List.map_append ..

/-- The paths with one more behind them. -/
theorem PathsOk.push {L : List (List (List UInt8))} {P : List (List UInt8)} (h : PathsOk L) (hP : Good P) (hd : P.dropLast ∈ L) (hs : ∀ Q ∈ L, less (jl Q) (jl P) = true) : PathsOk (L ++ [P]) := by
  refine ⟨fun Q hQ hne => ?_, fun Q hQ => ?_, ?_⟩
  · rcases List.mem_append.1 hQ with h1 | h1
    · exact List.mem_append_left _ (h.closed Q h1 hne)
    · rw [List.mem_singleton.1 h1]; exact List.mem_append_left _ hd
  · rcases List.mem_append.1 hQ with h1 | h1
    · exact h.good Q h1
    · rw [List.mem_singleton.1 h1]; exact hP
  · rw [List.pairwise_append]
    exact ⟨h.sorted, List.pairwise_singleton _ _, fun Q hQ R hR => by rw [List.mem_singleton.1 hR]; exact hs Q hQ⟩

/-- A child more at the end: the tree behind 'link'. -/
theorem Nodes.link {w W : World} {B b : Nat} {T : List NodeM} {x : NodeM} {p : List UInt8} {ids : List Int} {iv kv : Value} (h : Nodes w B T) (hT : TreeOk T) (hx : x ∈ T) (hB : B ≤ w.heap.size) (hp : Good (x.path ++ [p]))
    (hs : ∀ y ∈ T, less (jl y.path) (jl (x.path ++ [p])) = true) (hg : GrownL w W [boxV x, x.idsV, x.kidsV]) (hbx : W.heap[x.ptr]? = some (.cells #[.string (bts x.last), x.idsV, kv] 76 (0, 0)))
    (hids : W.ownsRow B 2 1 x.idsV x.ids.length (ints x.ids)) (hkid : W.ownsRow B 43 1 kv ((kids T x.path).length + 1) (ptrs (kids T x.path) ++ [.pointer (some ⟨b, 0, none⟩)])) (hk : kv.ownBlock = x.kidsV.ownBlock ∨ NewRow w kv)
    (hb : w.heap.size ≤ b) (hbn : W.heap[b]? = some (.cells #[.string (bts p), iv, .slice none 0 0] 76 (0, 0))) (hiv : W.ownsRow B 2 1 iv ids.length (ints ids)) (hivn : NewRow w iv) :
    TreeOk (setKids T x.path kv ++ [⟨x.path ++ [p], ids, b, iv, .slice none 0 0⟩]) ∧ Nodes W B (setKids T x.path kv ++ [⟨x.path ++ [p], ids, b, iv, .slice none 0 0⟩]) := by
  obtain ⟨N, hNd⟩ : ∃ N : NodeM, N = ⟨x.path ++ [p], ids, b, iv, .slice none 0 0⟩ := ⟨_, rfl⟩
  rw [← hNd]
  have hNp : N.path = x.path ++ [p] := by rw [hNd]
  have hNl : N.last = p := last_snoc hNp
  have hT' : TreeOk (setKids T x.path kv ++ [N]) := by
    rw [treeOk_iff, List.map_append, setKids_paths, List.map_cons, List.map_nil, hNp]
    refine (treeOk_iff.1 hT).push hp (by rw [List.dropLast_concat]; exact List.mem_map_of_mem hx) fun Q hQ => ?_
    obtain ⟨y, hy, rfl⟩ := List.mem_map.1 hQ
    exact hs y hy
  have hnew : ∀ y ∈ T, y.path ≠ x.path ++ [p] := fun y hy e => by have := hs y hy; rw [e, less_irrefl] at this; cases this
  have kx : ptrs (kids (setKids T x.path kv ++ [N]) x.path) = ptrs (kids T x.path) ++ [.pointer (some ⟨b, 0, none⟩)] := by
    rw [kids_append, ptrs_append, setKids_kids]
    congr 1
    have : N.isKid x.path = true := by rw [isKid_iff, hNl]; exact hNp
    unfold kids ptrs
    rw [List.filter_cons, if_pos this, hNd]; rfl
  have kx2 : (kids (setKids T x.path kv ++ [N]) x.path).length = (kids T x.path).length + 1 := by have := congrArg List.length kx; simpa [ptrs] using this
  have ky : ∀ Q, Q ≠ x.path → ptrs (kids (setKids T x.path kv ++ [N]) Q) = ptrs (kids T Q) := fun Q hQ => by
    rw [kids_append, ptrs_append, setKids_kids]
    have : N.isKid Q = false := by
      cases e : N.isKid Q
      · rfl
      · rw [isKid_iff, hNp, hNl] at e; exact absurd (List.append_inj_left e (by have := congrArg List.length e; simpa using this)).symm hQ
    unfold kids ptrs
    rw [List.filter_cons, if_neg (by rw [this]; simp)]; simp
  have kN : kids (setKids T x.path kv ++ [N]) N.path = [] := by
    have h0 : ptrs (kids T N.path) = [] := by
      have : kids T N.path = [] := by
        rw [List.eq_nil_iff_forall_not_mem]
        intro y hy
        obtain ⟨hy, e⟩ := kids_mem.1 hy
        obtain ⟨z, hz, e2⟩ := hT.closed y hy (by rw [e]; simp)
        rw [e, List.dropLast_concat, hNp] at e2
        exact hnew z hz e2
      rw [this]; rfl
    have := ky N.path (by rw [hNp]; intro e; have := congrArg List.length e; simp at this)
    rw [h0] at this
    simpa [ptrs] using this
  refine ⟨hT', h.turn (x' := { x with kidsV := kv }) (N := N) hT' hx hg rfl rfl hbx hids (by rw [kx, kx2]; exact hkid) (.inl rfl) hk (fun y hy => ?_) (fun _ _ => ?_)⟩
  · rcases List.mem_append.1 hy with h1 | h1
    · obtain ⟨z, hz, rfl⟩ := List.mem_map.1 h1
      by_cases e : z.path = x.path
      · right; left
        simp only [if_pos e]
        rw [hT.same hz hx e]
      · left
        simp only [if_neg e]
        exact ⟨hz, e, ky _ e⟩
    · exact .inr (.inr (List.mem_singleton.1 h1))
  · have hptr : N.ptr = b := by rw [hNd]
    have hki : N.kidsV = .slice none 0 0 := by rw [hNd]
    have hid : N.idsV = iv := by rw [hNd]
    have hii : N.ids = ids := by rw [hNd]
    refine ⟨by rw [hNp]; intro e; have := congrArg List.length e; simp at this, by rw [hptr]; omega, by rw [hptr]; exact hb, ?_, by rw [hid, hii]; exact hiv, ?_, by rw [hid]; exact hivn, ?_, ?_, ?_⟩
    · unfold BoxAt; rw [hptr, hNl, hid, hki]; exact hbn
    · rw [kN, hki]; exact World.ownsRow_nil _ _ _ _
    · rw [hki]; intro b h; cases h
    · rw [hid]; exact new_apart (h.ids x hx) hivn
    · rw [hki]; exact Apart.symm (.inl rfl)

end Go.Proofs.YtndkfmffmkgijaaDoor

/- The walk of (*node).link: a knot more in the program's tree. -/
namespace Go.Proofs.YtndkfmffmkgijaaDoor
open Go.RowKit

def linkB (T : List NodeM) (p : ByteArray) (ids : List Int) : Bool := filterP (parts p 47) && (rises ids && (ptrOf T (pth p).dropLast).isSome)

theorem parts_front {p : ByteArray} (h : filterP (parts p 47) = true) : ((parts p 47).take ((parts p 47).length - 1)).map (·.data.toList) = (pth p).dropLast := by
  rw [(filter_good h).1, List.map_take, List.dropLast_eq_take, List.length_map]

set_option maxRecDepth 100000 in
set_option maxHeartbeats 1600000 in
theorem link_no (T : List NodeM) (x : NodeM) (p : ByteArray) (u : Value) (ids : List Int) (m : Int) (w : World) (B : Nat) (hN : Nodes w B T) (hT : TreeOk T) (hx : x ∈ T) (hx0 : x.path = []) (hn : T.length ≤ 4000000)
    (hp : p.size ≤ 1048576) (hi : ids.length ≤ 4000000) (hu : IntsAt w u ids) (hm : w.cell? ⟨0, 0, none⟩ = some (.int .i64 m)) (hb : linkB T p ids = false) :
    Calls Tryd.prog 60 #[.pointer (some ⟨x.ptr, 0, none⟩), .agg #[.string p, u]] w fun e w' => e = .returned (.bool false) ∧ Below w.heap.size w w' := by
  have hU := hu
  obtain ⟨a, c, rfl, _, _, _⟩ := hu
  have hA : Below w.heap.size w (w.alloc (.cells #[.string p, .slice a ids.length c] 55)) := (Below.refl _ _).alloc (Nat.le_refl _) _
  have cf := implFilter_any p m (w.alloc (.cells #[.string p, .slice a ids.length c] 55)) hp ((hA.cell (World.block_lt_of_cell? _ _ hm)).trans hm)
  cases hf : filterP (parts p 47)
  · rw [hf] at cf
    have CF := Lib.hid cf
    have HA := Lib.hid hA
    clear cf hf hb hN hT hU hA hm
    go_enter Tryd.func60, Tryd.ntmps60
    go_wp2_with (go_at_call 30; refine CF.out.mono ?_; rintro e w1 ⟨rfl, hb1⟩; have HB1 := Lib.hid hb1; clear hb1)
    go_ret
    exact ⟨rfl, below_end HA.out HB1.out⟩
  · rw [hf] at cf
    have CF := Lib.hid cf
    have hk : ∀ j, (w.alloc (.cells #[.string p, .slice a ids.length c] 55)).cell? ⟨w.heap.size, j, none⟩ = #[.string p, .slice a ids.length c][j]? := fun j => cell_of_heap (heap_alloc_new w _) j
    have HK := Lib.hid hk
    have HM := Lib.hid ((hA.cell (World.block_lt_of_cell? _ _ hm)).trans hm)
    have HU := Lib.hid (hU.below hA)
    have HNN := Lib.hid (hN.below hA)
    have HA := Lib.hid hA
    have hws : (w.alloc (.cells #[.string p, .slice a ids.length c] 55)).heap.size = w.heap.size + 1 := by simp
    have HWS := Lib.hid hws
    have HF := Lib.hid hf
    have HBB := Lib.hid hb
    clear cf hk hU hm hN hA hws hb hf
    cases hr : rises ids
    · clear HBB
      go_enter Tryd.func60, Tryd.ntmps60
      go_wp2_with fail
      refine CF.out.mono ?_
      rintro e w1 ⟨rfl, hb1⟩
      have hk1 : w1.cell? ⟨w.heap.size, 1, none⟩ = some (.slice a ids.length c) := (hb1.cell (show w.heap.size < _ by rw [HWS.out]; omega)).trans (HK.out 1)
      have CR := Lib.hid (implRises_any _ ids w1 hi (HU.out.below hb1))
      rw [hr] at CR
      have HB1 := Lib.hid hb1
      clear hb1
      go_wp2_with (go_at_call 79; refine CR.out.mono ?_; rintro e w1 ⟨rfl, rfl⟩)
      go_ret
      exact ⟨rfl, below_end HA.out HB1.out⟩
    · have HR := Lib.hid hr
      have HPN : Hid (ptrOf T (pth p).dropLast = none) := Lib.hid (by
        have := HBB.out
        rw [linkB, HF.out, hr] at this
        cases e : ptrOf T (pth p).dropLast with
        | none => rfl
        | some _ => rw [e] at this; cases this)
      clear HBB hr
      go_enter Tryd.func60, Tryd.ntmps60
      go_wp2_with fail
      refine CF.out.mono ?_
      rintro e w1 ⟨rfl, hb1⟩
      have hk0 : w1.cell? ⟨w.heap.size, 0, none⟩ = some (.string p) := (hb1.cell (show w.heap.size < _ by rw [HWS.out]; omega)).trans (HK.out 0)
      have hk1 : w1.cell? ⟨w.heap.size, 1, none⟩ = some (.slice a ids.length c) := (hb1.cell (show w.heap.size < _ by rw [HWS.out]; omega)).trans (HK.out 1)
      have CR := Lib.hid (implRises_any _ ids w1 hi (HU.out.below hb1))
      rw [HR.out] at CR
      have CP := Lib.hid (implParts_any p m w1 hp ((hb1.cell (World.block_lt_of_cell? _ _ HM.out)).trans HM.out))
      have HN1 := Lib.hid (HNN.out.below hb1)
      have HB1 := Lib.hid hb1
      clear hb1
      go_wp2_with (go_at_call 79; refine CR.out.mono ?_; rintro e w1 ⟨rfl, rfl⟩)
      refine CP.out.mono ?_
      rintro e w2 ⟨v, rfl, h1, h2⟩
      obtain ⟨g, cap, rfl, hg1, hg2, hcell, _⟩ := row_open h1 (parts_pos p 47)
      have HC := Lib.hid hcell
      have H2 := Lib.hid h2
      have hpos := parts_pos p 47
      have hple := parts_le p 47
      have g3 : IntKind.i64.wrap (((parts p 47).length : Int) - 1) = ((parts p 47).length : Int) - 1 := by rw [IntKind.wrap_i64]; omega
      have g4 : (0 : Int) ≤ ((parts p 47).length : Int) - 1 := by omega
      have g6 : (((parts p 47).length : Int) - 1).toNat = (parts p 47).length - 1 := by omega
      have HCAP : Hid ((parts p 47).length ≤ cap) := Lib.hid (own_cap h1)
      have CD := Lib.hid (descend_any T x (parts p 47) g ((parts p 47).length - 1) cap w2 B (HN1.out.below h2) hT hx hn (by omega) (by omega) (fun t ht => hcell t ht))
      rw [parts_front HF.out, hx0, List.nil_append, HPN.out] at CD
      obtain ⟨n, hnn⟩ : ∃ n, (parts p 47).length = n := ⟨_, rfl⟩
      rw [hnn] at hpos hple g3 g4 g6 HCAP CD ⊢
      have hcap := HCAP.out
      clear h1 h2 hcell hnn
      go_wp2_with fail
      refine CD.out.mono ?_
      rintro e w3 ⟨rfl, rfl⟩
      go_wp2
      go_ret
      exact ⟨rfl, below_end (below_end HA.out HB1.out) H2.out⟩

end Go.Proofs.YtndkfmffmkgijaaDoor

/- The walks of the reference's look for a number, and of a number laid into its place. -/
namespace Go.Proofs.YtndkfmffmkgijaaDoor
open Go.RowKit

def hasId (l : List Int) (x : Int) : Bool := l.any fun y => y == x

theorem hasId_at {l : List Int} {x : Int} {k : Nat} (h : k < l.length) (e : (l[k] == x) = true) : hasId l x = true := by
  rw [hasId, List.any_eq_true]; exact ⟨_, List.getElem_mem h, e⟩
theorem hasId_none {l : List Int} {x : Int} (h : ∀ j (hj : j < l.length), (l[j] == x) = false) : hasId l x = false := by
  cases e : hasId l x
  · rfl
  · rw [hasId, List.any_eq_true] at e
    obtain ⟨y, hy, e⟩ := e
    obtain ⟨j, hj, rfl⟩ := List.mem_iff_getElem.1 hy
    rw [h j hj] at e; cases e

def noneTo (l : List Int) (x : Int) (k : Nat) : Prop := ∀ j (hj : j < l.length), j < k → (l[j] == x) = false

set_option maxRecDepth 100000 in
set_option maxHeartbeats 400000 in
theorem specHas_any (v : Value) (l : List Int) (x : Int) (w : World) (hl : l.length ≤ 4000000) (hv : IntsAt w v l) :
    Calls Tryd.prog 39 #[v, .int .i64 x] w fun e w' => e = .returned (.bool (hasId l x)) ∧ w' = w := by
  obtain ⟨a, c, rfl, hc1, hc2, hc3⟩ := hv
  have HC := Lib.hid hc3
  clear hc3
  go_enter Tryd.func39, Tryd.ntmps39
  go_wp2
  go_loopw [5] (fun i wr => ∃ k : Nat, k ≤ l.length ∧ i = .int .i64 k ∧ Hid (noneTo l x k) ∧ wr = w) (fun i _ => l.length - (intOf i).toNat)
  case atStart => exact ⟨0, Nat.zero_le _, rfl, fun j _ h => absurd h (Nat.not_lt_zero _), rfl⟩
  case round =>
    obtain ⟨k, hk, rfl, HN, rfl⟩ := hrel
    by_cases hlt : k < l.length
    · obtain ⟨b, o, rfl, hin⟩ : ∃ b o, a = some ⟨b, o, none⟩ ∧ IntsIn wr b o l := by
        rcases HC.out with h | h
        · subst h; simp at hlt
        · exact h
      have hcell := hin k hlt
      have HA := Lib.hid (fun e => hasId_at (x := x) hlt e)
      have HB := Lib.hid (fun (e : (l[k] == x) = false) (j : Nat) (hj : j < l.length) (hjk : j < k + 1) => (by
        rcases Nat.lt_or_ge j k with h | h
        · exact HN.out j hj h
        · obtain rfl : j = k := by omega
          exact e : (l[j] == x) = false))
      obtain ⟨y, hy⟩ : ∃ y, l[k] = y := ⟨_, rfl⟩
      rw [hy] at hcell HA HB
      clear hin hy
      cases e : (y == x)
      · have HN2 : Hid (noneTo l x (k + 1)) := Lib.hid (HB.out e)
        clear HA HB
        go_wp2
        go_roundw
        case rel => exact ⟨k + 1, by omega, by go_num, HN2, by trivial⟩
        case measure => simp [intOf]; omega
      · have HE : Hid (hasId l x = true) := Lib.hid (HA.out e)
        clear HA HB
        go_wp2
        go_ret
        exact ⟨ret_bool HE.out.symm, rfl⟩
    · obtain rfl : k = l.length := by omega
      have HE : Hid (hasId l x = false) := Lib.hid (hasId_none fun j hj => HN.out j hj hj)
      go_wp2
      go_ret
      exact ⟨ret_bool HE.out.symm, rfl⟩

/-- Where a number goes: behind all but the greater ones at the end. -/
def intoAt (l : List Int) (x : Int) : Nat → Nat
  | 0 => 0
  | k + 1 => if l.getD k 0 > x then intoAt l x k else k + 1
theorem intoAt_le (l : List Int) (x : Int) : ∀ k, intoAt l x k ≤ k
  | 0 => Nat.le_refl _
  | k + 1 => by unfold intoAt; split; · exact Nat.le_succ_of_le (intoAt_le l x k)
                · exact Nat.le_refl _
def into (l : List Int) (x : Int) : List Int := l.take (intoAt l x l.length) ++ x :: l.drop (intoAt l x l.length)

end Go.Proofs.YtndkfmffmkgijaaDoor

/- Plain mathematics of chapter 3: numbers laid into a rising list. -/
namespace Go.Proofs.YtndkfmffmkgijaaDoor

theorem rises_iff {l : List Int} : rises l = true ↔ ∀ j (h : j < l.length), idOk l[j] = true ∧ (∀ (_ : 0 < j), l[j - 1]'(by omega) < l[j]) := by
  unfold rises risesTo
  rw [List.all_eq_true]
  constructor
  · intro h j hj
    have := h j (List.mem_range.2 hj)
    rw [Bool.and_eq_true, getD_at hj] at this
    refine ⟨this.1, fun h0 => ?_⟩
    have h2 := this.2
    rw [Bool.or_eq_true, decide_eq_true_iff, decide_eq_true_iff, getD_at (show j - 1 < l.length by omega)] at h2
    rcases h2 with h2 | h2
    · omega
    · exact h2
  · intro h j hj
    have hj := List.mem_range.1 hj
    obtain ⟨h1, h2⟩ := h j hj
    rw [getD_at hj, h1]
    by_cases h0 : 0 < j
    · rw [getD_at (show j - 1 < l.length by omega), decide_eq_true (h2 h0)]; simp
    · rw [decide_eq_true (show j = 0 by omega)]; rfl

theorem rises_pair {l : List Int} : rises l = true ↔ (∀ x ∈ l, idOk x = true) ∧ l.Pairwise (· < ·) := by
  rw [rises_iff, List.pairwise_iff_getElem]
  constructor
  · intro h
    refine ⟨fun x hx => by obtain ⟨j, hj, rfl⟩ := List.mem_iff_getElem.1 hx; exact (h j hj).1, ?_⟩
    intro i j hi hj hij
    obtain ⟨d, rfl⟩ : ∃ d, j = i + d + 1 := ⟨j - i - 1, by omega⟩
    clear hij
    induction d with
    | zero => exact (h (i + 1) hj).2 (by omega)
    | succ d ih => exact Int.lt_trans (ih (by omega)) ((h (i + (d + 1) + 1) hj).2 (by omega))
  · rintro ⟨h1, h2⟩ j hj
    exact ⟨h1 _ (List.getElem_mem hj), fun h0 => h2 (j - 1) j (by omega) hj (by omega)⟩

theorem idOk_iff {x : Int} : idOk x = true ↔ 0 ≤ x ∧ x ≤ 99 := by unfold idOk; simp

/-- A rising list is short. -/
theorem rises_short {l : List Int} (h : rises l = true) : l.length ≤ 100 := by
  obtain ⟨h1, h2⟩ := rises_pair.1 h
  have h3 := List.pairwise_iff_getElem.1 h2
  have : ∀ j (hj : j < l.length), (j : Int) ≤ l[j] := by
    intro j
    induction j with
    | zero => intro hj; exact (idOk_iff.1 (h1 _ (List.getElem_mem hj))).1
    | succ j ih => intro hj; have := ih (by omega); have := h3 j (j + 1) (by omega) hj (by omega); omega
  rcases Nat.lt_or_ge 100 l.length with hl | hl
  · have a := this 100 hl
    have b := (idOk_iff.1 (h1 _ (List.getElem_mem hl))).2
    omega
  · exact hl

theorem intoAt_spec {l : List Int} {x : Int} (hs : l.Pairwise (· < ·)) : ∀ k, k ≤ l.length → (∀ j (h : j < l.length), k ≤ j → x < l[j]) → (∀ j (h : j < l.length), intoAt l x k ≤ j → x < l[j]) ∧ (∀ j (h : j < l.length), j < intoAt l x k → l[j] ≤ x)
  | 0, _, hk => ⟨fun j h _ => hk j h (Nat.zero_le _), fun j h h2 => by rw [intoAt] at h2; omega⟩
  | k + 1, hk1, hk => by
    rw [intoAt, getD_at (show k < l.length by omega)]
    split
    · rename_i hgt
      refine intoAt_spec hs k (by omega) fun j h h2 => ?_
      rcases Nat.lt_or_ge k j with h3 | h3
      · exact hk j h h3
      · obtain rfl : j = k := by omega
        exact hgt
    · rename_i hle
      refine ⟨hk, fun j h h2 => ?_⟩
      rcases Nat.lt_or_ge j k with h3 | h3
      · have := List.pairwise_iff_getElem.1 hs j k h (by omega) h3; omega
      · obtain rfl : j = k := by omega
        omega

theorem into_mem {l : List Int} {x y : Int} : y ∈ into l x ↔ y = x ∨ y ∈ l := by
  unfold into
  rw [List.mem_append, List.mem_cons]
  constructor
  · rintro (h | h | h)
    · exact .inr (List.mem_of_mem_take h)
    · exact .inl h
    · exact .inr (List.mem_of_mem_drop h)
  · rintro (h | h)
    · exact .inr (.inl h)
    · rw [← List.take_append_drop (intoAt l x l.length) l, List.mem_append] at h
      rcases h with h | h
      · exact .inl h
      · exact .inr (.inr h)

theorem into_rises {l : List Int} {x : Int} (h : rises l = true) (hx : idOk x = true) (hn : hasId l x = false) : rises (into l x) = true := by
  obtain ⟨h1, h2⟩ := rises_pair.1 h
  rw [rises_pair]
  refine ⟨fun y hy => by rcases into_mem.1 hy with rfl | hy; exact hx; exact h1 y hy, ?_⟩
  obtain ⟨s1, s2⟩ := intoAt_spec (x := x) h2 l.length (Nat.le_refl _) (fun j hj h3 => by omega)
  have hne : ∀ y ∈ l, y ≠ x := fun y hy e => by
    obtain ⟨j, hj, rfl⟩ := List.mem_iff_getElem.1 hy
    rw [hasId_at hj (by rw [e]; simp)] at hn; cases hn
  unfold into
  rw [List.pairwise_append]
  refine ⟨h2.sublist (List.take_sublist _ _), List.pairwise_cons.2 ⟨fun y hy => ?_, h2.sublist (List.drop_sublist _ _)⟩, fun y hy z hz => ?_⟩
  · obtain ⟨j, hj, rfl⟩ := List.mem_iff_getElem.1 hy
    rw [List.getElem_drop]
    rw [List.length_drop] at hj
    exact s1 _ (by omega) (by omega)
  · obtain ⟨j, hj, rfl⟩ := List.mem_take_iff_getElem.1 hy
    have hjx : l[j] < x := by
      have a := s2 j (by omega) (by omega)
      have b := hne l[j] (List.getElem_mem _)
      omega
    rcases List.mem_cons.1 hz with rfl | hz
    · exact hjx
    · obtain ⟨i, hi, rfl⟩ := List.mem_iff_getElem.1 hz
      rw [List.getElem_drop]
      rw [List.length_drop] at hi
      have := s1 (intoAt l x l.length + i) (by omega) (by omega)
      omega

def addId (l : List Int) (x : Int) : List Int := if hasId l x then l else into l x
theorem addId_rises {l : List Int} {x : Int} (h : rises l = true) (hx : idOk x = true) : rises (addId l x) = true := by
  unfold addId; cases e : hasId l x
  · exact into_rises h hx e
  · exact h

theorem hasId_iff {l : List Int} {x : Int} : hasId l x = true ↔ x ∈ l := by
  unfold hasId; rw [List.any_eq_true]
  constructor
  · rintro ⟨y, hy, e⟩; rw [beq_iff_eq] at e; rw [← e]; exact hy
  · intro h; exact ⟨x, h, by simp⟩

theorem addId_mem {l : List Int} {x y : Int} : y ∈ addId l x ↔ y = x ∨ y ∈ l := by
  unfold addId; cases e : hasId l x
  · exact into_mem
  · constructor
    · exact .inr
    · rintro (rfl | h)
      · exact hasId_iff.1 e
      · exact h

/-- Two rising lists with the same numbers are one. -/
theorem rises_ext {a b : List Int} (ha : rises a = true) (hb : rises b = true) (h : ∀ x, x ∈ a ↔ x ∈ b) : a = b := by
  have h1 := (rises_pair.1 ha).2
  have h2 := (rises_pair.1 hb).2
  clear ha hb
  induction a generalizing b with
  | nil =>
    cases b with
    | nil => rfl
    | cons y b => have := (h y).2 (by simp); cases this
  | cons x a ih =>
    cases b with
    | nil => have := (h x).1 (by simp); cases this
    | cons y b =>
      rw [List.pairwise_cons] at h1 h2
      have e : x = y := by
        rcases List.mem_cons.1 ((h x).1 (by simp)) with e | e
        · exact e
        · rcases List.mem_cons.1 ((h y).2 (by simp)) with e2 | e2
          · exact e2.symm
          · have := h1.1 y e2; have := h2.1 x e; omega
      subst e
      rw [ih (b := b) (fun z => ?_) h1.2 h2.2]
      constructor
      · intro hz
        rcases List.mem_cons.1 ((h z).1 (List.mem_cons_of_mem _ hz)) with e | e
        · subst e; have := h1.1 z hz; omega
        · exact e
      · intro hz
        rcases List.mem_cons.1 ((h z).2 (List.mem_cons_of_mem _ hz)) with e | e
        · subst e; have := h2.1 z hz; omega
        · exact e

end Go.Proofs.YtndkfmffmkgijaaDoor

/- The search in an own row of numbers. -/
namespace Go.Proofs.YtndkfmffmkgijaaDoor
open Go.RowKit

set_option maxRecDepth 100000 in
set_option maxHeartbeats 800000 in
theorem bsearch_any (v : Value) (l : List Int) (x : Int) (B : Nat) (w : World) (hl : l.length ≤ 4000000) (hs : l.Pairwise (· ≤ ·)) (hv : w.ownsRow B 2 1 v l.length (ints l)) :
    Calls Tryd.prog 82 #[v, .int .i64 x] w fun e w' => e = .returned (.tuple #[.int .i64 (l.countP (· < x) : Nat), .bool (l.contains x)]) ∧ ∃ q, w' = w.drewN q := by
  rcases hv.2 with ⟨rfl, h0⟩ | ⟨g, c, cur, rfl, _⟩
  · have e0 : l = [] := List.length_eq_zero_iff.1 h0
    subst e0
    clear hv hs hl
    go_enter Tryd.func82, Tryd.ntmps82
    go_wp2
    go_loopg [7, 8] 0 (fun k i j wr => i = .int .i64 0 ∧ j = .int .i64 0 ∧ wr = w)
    case atStart => exact ⟨rfl, rfl, rfl⟩
    case round =>
      obtain ⟨rfl, rfl, rfl⟩ := hrel
      go_wp2
      go_ret2
      exact ⟨rfl, 0, rfl⟩
  · have h := Tryd.slices_BinarySearch_int g 0 l.length c l x w (Nat.le_refl _) (by omega) (fun j hj => by
      have := hv.cells rfl j (.int .i64 (l.getD j 0)) (by rw [ints, List.getElem?_map, List.getElem?_eq_getElem hj, List.getD_eq_getElem?_getD, List.getElem?_eq_getElem hj]; rfl)
      rwa [Addr.add_lit] at this) (by rw [List.take_length]; exact hs)
    rw [List.take_length] at h
    exact h

end Go.Proofs.YtndkfmffmkgijaaDoor
