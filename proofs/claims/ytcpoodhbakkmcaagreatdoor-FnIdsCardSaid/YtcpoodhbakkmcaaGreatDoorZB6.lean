/- Small texts, laid together. -/
import Derived.Test.YtcpoodhbakkmcaaGreatDoorZNode
import Derived.Test.YtcpoodhbakkmcaaGreatDoorZB4
import Derived.Test.YtcpoodhbakkmcaaGreatDoorZSTrie4
import Derived.Test.YtcpoodhbakkmcaaGreatDoorZNode2
import Derived.Test.YtcpoodhbakkmcaaGreatDoorZB5
import Derived.Test.YtcpoodhbakkmcaaGreatDoorZB1
import Derived.Test.YtcpoodhbakkmcaaGreatDoorZB2
import Derived.Deep.RegionHeld
import Derived.Test.YtcpoodhbakkmcaaGreatDoorZOwn
import Derived.Deep.LoopGhost
import Derived.Deep.DeepCutAuto
import Derived.Deep.CutBlock
import Derived.Test.YtcpoodhbakkmcaaGreatDoorZDelP
import Derived.Lib.SliceRun
import Derived.Test.YtcpoodhbakkmcaaGreatDoorZNodeM
import Derived.Test.YtcpoodhbakkmcaaGreatDoorZSTrie2
set_option linter.unusedSimpArgs false
set_option linter.unusedVariables false
/- The program's tree: what a change of one node leaves. -/
namespace Go.Proofs.YtcpoodhbakkmcaaGreatDoor
open Go.RowKit

theorem free_of_heap {w : World} {g j : Nat} {cur : Array Value} {e : TypeId} (h : w.heap[g]? = some (.cells cur e (0, 0))) : w.frozen? ⟨g, j, none⟩ = false := by simp [World.frozen?, h]

theorem heap_setCell {w : World} {g j : Nat} {cur : Array Value} {e : TypeId} {f : Nat × Nat} {v : Value} (h : w.heap[g]? = some (.cells cur e f)) : (w.setCell ⟨g, j, none⟩ v).heap[g]? = some (.cells (cur.setIfInBounds j v) e f) := by
  simp [World.setCell, Array.getElem?_modify, h]

def boxV (x : NodeM) : Value := .slice (some ⟨x.ptr, 0, none⟩) 0 0

theorem boxV_block (x : NodeM) : (boxV x).ownBlock = some x.ptr := rfl

theorem Nodes.below {w w' : World} {B : Nat} {T : List NodeM} (h : Nodes w B T) (hb : Below w.heap.size w w') : Nodes w' B T :=
  ⟨fun x hx => ⟨(h.box x hx).1, (hb.block _ (Array.getElem?_eq_some_iff.1 (h.box x hx).2).1).trans (h.box x hx).2⟩, fun x hx => row_below (h.ids x hx) hb, fun x hx => row_below (h.kid x hx) hb, h.apart⟩

theorem Apart3.symm {y z : NodeM} (h : Apart3 y z) : Apart3 z y := ⟨Ne.symm h.1, h.2.1.symm, h.2.2.symm⟩

/-- A row of another type than the nodes' lies in no node's block. -/
theorem box_apart {w : World} {B n size : Nat} {E : TypeId} {v : Value} {xs : List Value} {x : NodeM} (h : w.ownsRow B E size v n xs) (hx : BoxAt w x) (hne : E ≠ 65) : Apart v (boxV x) := by
  have := own_not_at h hx hne
  exact .inr this

def NewRow (w : World) (v : Value) : Prop := ∀ b, v.ownBlock = some b → w.heap.size ≤ b

theorem new_apart {w : World} {B n size : Nat} {E : TypeId} {v u : Value} {xs : List Value} (h : w.ownsRow B E size v n xs) (hu : NewRow w u) : Apart v u := by
  cases e : v.ownBlock with
  | none => exact .inl e
  | some b => exact .inr (fun e2 => by have h1 := (h.lt b e).2; have h2 := hu b (by rw [← e2, e]); omega)

/-- One node of T has become x' (its path and its block are as they were), one new node may have come, some others gone. -/
theorem Nodes.turn {w W : World} {B : Nat} {T T' : List NodeM} {x x' N : NodeM} (h : Nodes w B T) (hT' : TreeOk T') (hx : x ∈ T) (hg : GrownL w W [boxV x, x.idsV, x.kidsV]) (hpath : x'.path = x.path) (hptr : x'.ptr = x.ptr)
    (hbox : BoxAt W x') (hids : W.ownsRow B 2 1 x'.idsV x'.ids.length (ints x'.ids)) (hkid : W.ownsRow B 45 1 x'.kidsV (kids T' x.path).length (ptrs (kids T' x.path)))
    (hi : x'.idsV.ownBlock = x.idsV.ownBlock ∨ NewRow w x'.idsV) (hk : x'.kidsV.ownBlock = x.kidsV.ownBlock ∨ NewRow w x'.kidsV)
    (hmem : ∀ y ∈ T', (y ∈ T ∧ y.path ≠ x.path ∧ ptrs (kids T' y.path) = ptrs (kids T y.path)) ∨ y = x' ∨ y = N)
    (hN : N ∈ T' → N ≠ x' → N.path ≠ x.path ∧ B ≤ N.ptr ∧ w.heap.size ≤ N.ptr ∧ BoxAt W N ∧ W.ownsRow B 2 1 N.idsV N.ids.length (ints N.ids) ∧ W.ownsRow B 45 1 N.kidsV (kids T' N.path).length (ptrs (kids T' N.path)) ∧
      NewRow w N.idsV ∧ NewRow w N.kidsV ∧ Apart x'.idsV N.idsV ∧ Apart x'.kidsV N.kidsV) : Nodes W B T' := by
  have n1 : 2 ≠ 65 := by decide
  have n2 : 45 ≠ 65 := by decide
  have n3 : 2 ≠ 45 := by decide
  have hbx := (h.box x hx).2
  have kI : ∀ y ∈ T, y.path ≠ x.path → ∀ v ∈ [boxV x, x.idsV, x.kidsV], Apart y.idsV v := fun y hy hne v hv => by
    rcases List.mem_cons.1 hv with rfl | hv
    · exact box_apart (h.ids y hy) hbx n1
    · rcases List.mem_cons.1 hv with rfl | hv
      · exact (h.apart y hy x hx hne).2.1
      · rw [List.mem_singleton.1 hv]; exact apart_types (h.ids y hy) (h.kid x hx) n3
  have kK : ∀ y ∈ T, y.path ≠ x.path → ∀ v ∈ [boxV x, x.idsV, x.kidsV], Apart y.kidsV v := fun y hy hne v hv => by
    rcases List.mem_cons.1 hv with rfl | hv
    · exact box_apart (h.kid y hy) hbx n2
    · rcases List.mem_cons.1 hv with rfl | hv
      · exact apart_types (h.kid y hy) (h.ids x hx) (Ne.symm n3)
      · rw [List.mem_singleton.1 hv]; exact (h.apart y hy x hx hne).2.2
  have kB : ∀ y ∈ T, y.path ≠ x.path → BoxAt W y := fun y hy hne => by
    refine (hg.block y.ptr (Array.getElem?_eq_some_iff.1 (h.box y hy).2).1 fun v hv e => ?_).trans (h.box y hy).2
    rcases List.mem_cons.1 hv with rfl | hv
    · rw [boxV_block] at e; exact (h.apart y hy x hx hne).1 (Option.some.inj e).symm
    · rcases List.mem_cons.1 hv with rfl | hv
      · exact own_not_at (h.ids x hx) (h.box y hy).2 n1 e
      · rw [List.mem_singleton.1 hv] at e; exact own_not_at (h.kid x hx) (h.box y hy).2 n2 e
  have split : ∀ y ∈ T', (y ∈ T ∧ y.path ≠ x.path ∧ ptrs (kids T' y.path) = ptrs (kids T y.path)) ∨ y = x' ∨ (y = N ∧ N ≠ x') := fun y hy => by
    rcases hmem y hy with h1 | h1 | h1
    · exact .inl h1
    · exact .inr (.inl h1)
    · by_cases e : N = x'
      · exact .inr (.inl (h1.trans e))
      · exact .inr (.inr ⟨h1, e⟩)
  have old_x : ∀ y ∈ T, y.path ≠ x.path → Apart3 y x' := fun y hy hne => by
    refine ⟨by rw [hptr]; exact (h.apart y hy x hx hne).1, ?_, ?_⟩
    · rcases hi with e | e
      · have := (h.apart y hy x hx hne).2.1; unfold Apart at this ⊢; rw [e]; exact this
      · exact new_apart (h.ids y hy) e
    · rcases hk with e | e
      · have := (h.apart y hy x hx hne).2.2; unfold Apart at this ⊢; rw [e]; exact this
      · exact new_apart (h.kid y hy) e
  refine ⟨fun y hy => ?_, fun y hy => ?_, fun y hy => ?_, fun y hy z hz hne => ?_⟩
  · rcases split y hy with ⟨h1, h2, h3⟩ | rfl | ⟨rfl, he⟩
    · exact ⟨(h.box y h1).1, kB y h1 h2⟩
    · exact ⟨by rw [hptr]; exact (h.box x hx).1, hbox⟩
    · exact ⟨(hN hy he).2.1, (hN hy he).2.2.2.1⟩
  · rcases split y hy with ⟨h1, h2, h3⟩ | rfl | ⟨rfl, he⟩
    · exact own_keptL (h.ids y h1) hg (kI y h1 h2)
    · exact hids
    · exact (hN hy he).2.2.2.2.1
  · rcases split y hy with ⟨h1, h2, h3⟩ | rfl | ⟨rfl, he⟩
    · have := own_keptL (h.kid y h1) hg (kK y h1 h2)
      rw [← h3] at this
      have e : (kids T' y.path).length = (kids T y.path).length := by have := congrArg List.length h3; simpa [ptrs] using this
      rw [e]; exact this
    · rw [hpath]; exact hkid
    · exact (hN hy he).2.2.2.2.2.1
  · rcases split y hy with ⟨h1, h2, h3⟩ | rfl | ⟨rfl, he⟩
    · rcases split z hz with ⟨k1, k2, k3⟩ | rfl | ⟨rfl, he2⟩
      · exact h.apart y h1 z k1 hne
      · exact old_x y h1 h2
      · have hn := hN hz he2
        exact ⟨by have := (Array.getElem?_eq_some_iff.1 (h.box y h1).2).1; omega, new_apart (h.ids y h1) hn.2.2.2.2.2.2.1, new_apart (h.kid y h1) hn.2.2.2.2.2.2.2.1⟩
    · rcases split z hz with ⟨k1, k2, k3⟩ | rfl | ⟨rfl, he2⟩
      · exact (old_x z k1 k2).symm
      · exact absurd rfl hne
      · have hn := hN hz he2
        exact ⟨by have := (Array.getElem?_eq_some_iff.1 (h.box x hx).2).1; rw [hptr]; omega, hn.2.2.2.2.2.2.2.2.1, hn.2.2.2.2.2.2.2.2.2⟩
    · have hn := hN hy he
      rcases split z hz with ⟨k1, k2, k3⟩ | rfl | ⟨rfl, he2⟩
      · exact Apart3.symm (y := z) (z := y) ⟨by have := (Array.getElem?_eq_some_iff.1 (h.box z k1).2).1; omega, new_apart (h.ids z k1) hn.2.2.2.2.2.2.1, new_apart (h.kid z k1) hn.2.2.2.2.2.2.2.1⟩
      · exact Apart3.symm (y := z) (z := y) ⟨by have := (Array.getElem?_eq_some_iff.1 (h.box x hx).2).1; rw [hptr]; omega, hn.2.2.2.2.2.2.2.2.1, hn.2.2.2.2.2.2.2.2.2⟩
      · exact absurd rfl hne

end Go.Proofs.YtcpoodhbakkmcaaGreatDoor

/- The program's tree: a node more. -/
namespace Go.Proofs.YtcpoodhbakkmcaaGreatDoor
open Go.RowKit

/-- What a list of paths is like. -/
structure PathsOk (L : List (List (List UInt8))) : Prop where
  closed : ∀ P ∈ L, P ≠ [] → P.dropLast ∈ L
  good : ∀ P ∈ L, Good P
  sorted : L.Pairwise fun P Q => less (jl P) (jl Q) = true

theorem treeOk_iff {T : List NodeM} : TreeOk T ↔ PathsOk (T.map (·.path)) := by
  constructor
  · intro h
    refine ⟨fun P hP hne => ?_, fun P hP => ?_, ?_⟩
    · obtain ⟨x, hx, rfl⟩ := List.mem_map.1 hP
      obtain ⟨y, hy, e⟩ := h.closed x hx hne
      exact List.mem_map.2 ⟨y, hy, e⟩
    · obtain ⟨x, hx, rfl⟩ := List.mem_map.1 hP
      exact h.good x hx
    · exact List.pairwise_map.2 h.sorted
  · intro h
    refine ⟨fun x hx hne => ?_, fun x hx => h.good _ (List.mem_map_of_mem hx), List.pairwise_map.1 h.sorted⟩
    obtain ⟨y, hy, e⟩ := List.mem_map.1 (h.closed _ (List.mem_map_of_mem hx) hne)
    exact ⟨y, hy, e⟩

/-- The children of p in a list that differs in its nodes' fields alone. -/
theorem kids_map {T : List NodeM} {f : NodeM → NodeM} (hf : ∀ y ∈ T, (f y).path = y.path ∧ (f y).ptr = y.ptr) (p : List (List UInt8)) : ptrs (kids (T.map f) p) = ptrs (kids T p) := by
  induction T with
  | nil => rfl
  | cons a T ih =>
    have ih := ih (fun y hy => hf y (List.mem_cons_of_mem _ hy))
    have ha := hf a (by simp)
    unfold kids ptrs at ih ⊢
    have e : NodeM.isKid p (f a) = NodeM.isKid p a := by unfold NodeM.isKid; rw [ha.1]
    rw [List.map_cons, List.filter_cons, List.filter_cons, e]
    split
    · rw [List.map_cons, List.map_cons, ih, ha.2]
    · exact ih

def setKids (T : List NodeM) (P : List (List UInt8)) (v : Value) : List NodeM := T.map fun y => if y.path = P then { y with kidsV := v } else y

theorem setKids_paths (T : List NodeM) (P : List (List UInt8)) (v : Value) : (setKids T P v).map (·.path) = T.map (·.path) := by
  unfold setKids; rw [List.map_map]; apply List.map_congr_left; intro y _; simp only [Function.comp]; split <;> rfl
theorem setKids_keys (T : List NodeM) (P : List (List UInt8)) (v : Value) : (setKids T P v).map (fun x => (x.path, x.ids)) = T.map (fun x => (x.path, x.ids)) := by
  unfold setKids; rw [List.map_map]; apply List.map_congr_left; intro y _; simp only [Function.comp]; split <;> rfl
theorem setKids_kids (T : List NodeM) (P Q : List (List UInt8)) (v : Value) : ptrs (kids (setKids T P v) Q) = ptrs (kids T Q) :=
  kids_map (fun y _ => by constructor <;> (split <;> rfl)) Q

theorem kids_append (T U : List NodeM) (p : List (List UInt8)) : kids (T ++ U) p = kids T p ++ kids U p := List.filter_append ..
theorem ptrs_append (T U : List NodeM) : ptrs (T ++ U) = ptrs T ++ ptrs U := List.map_append ..

/-- The paths with one more behind them. -/
theorem PathsOk.push {L : List (List (List UInt8))} {P : List (List UInt8)} (h : PathsOk L) (hP : Good P) (hd : P.dropLast ∈ L) (hs : ∀ Q ∈ L, less (jl Q) (jl P) = true) : PathsOk (L ++ [P]) := by
  refine ⟨fun Q hQ hne => ?_, fun Q hQ => ?_, ?_⟩
  · rcases List.mem_append.1 hQ with h1 | h1
    · exact List.mem_append_left _ (h.closed Q h1 hne)
    · rw [List.mem_singleton.1 h1]; exact List.mem_append_left _ hd
  · rcases List.mem_append.1 hQ with h1 | h1
    · exact h.good Q h1
    · rw [List.mem_singleton.1 h1]; exact hP
  · rw [List.pairwise_append]
    exact ⟨h.sorted, List.pairwise_singleton _ _, fun Q hQ R hR => by rw [List.mem_singleton.1 hR]; exact hs Q hQ⟩

/-- A child more at the end: the tree behind 'link'. -/
theorem Nodes.link {w W : World} {B b : Nat} {T : List NodeM} {x : NodeM} {p : List UInt8} {ids : List Int} {iv kv : Value} (h : Nodes w B T) (hT : TreeOk T) (hx : x ∈ T) (hB : B ≤ w.heap.size) (hp : Good (x.path ++ [p]))
    (hs : ∀ y ∈ T, less (jl y.path) (jl (x.path ++ [p])) = true) (hg : GrownL w W [boxV x, x.idsV, x.kidsV]) (hbx : W.heap[x.ptr]? = some (.cells #[.string (bts x.last), x.idsV, kv] 65 (0, 0)))
    (hids : W.ownsRow B 2 1 x.idsV x.ids.length (ints x.ids)) (hkid : W.ownsRow B 45 1 kv ((kids T x.path).length + 1) (ptrs (kids T x.path) ++ [.pointer (some ⟨b, 0, none⟩)])) (hk : kv.ownBlock = x.kidsV.ownBlock ∨ NewRow w kv)
    (hb : w.heap.size ≤ b) (hbn : W.heap[b]? = some (.cells #[.string (bts p), iv, .slice none 0 0] 65 (0, 0))) (hiv : W.ownsRow B 2 1 iv ids.length (ints ids)) (hivn : NewRow w iv) :
    TreeOk (setKids T x.path kv ++ [⟨x.path ++ [p], ids, b, iv, .slice none 0 0⟩]) ∧ Nodes W B (setKids T x.path kv ++ [⟨x.path ++ [p], ids, b, iv, .slice none 0 0⟩]) := by
  obtain ⟨N, hNd⟩ : ∃ N : NodeM, N = ⟨x.path ++ [p], ids, b, iv, .slice none 0 0⟩ := ⟨_, rfl⟩
  rw [← hNd]
  have hNp : N.path = x.path ++ [p] := by rw [hNd]
  have hNl : N.last = p := last_snoc hNp
  have hT' : TreeOk (setKids T x.path kv ++ [N]) := by
    rw [treeOk_iff, List.map_append, setKids_paths, List.map_cons, List.map_nil, hNp]
    refine (treeOk_iff.1 hT).push hp (by rw [List.dropLast_concat]; exact List.mem_map_of_mem hx) fun Q hQ => ?_
    obtain ⟨y, hy, rfl⟩ := List.mem_map.1 hQ
    exact hs y hy
  have hnew : ∀ y ∈ T, y.path ≠ x.path ++ [p] := fun y hy e => by have := hs y hy; rw [e, less_irrefl] at this; cases this
  have kx : ptrs (kids (setKids T x.path kv ++ [N]) x.path) = ptrs (kids T x.path) ++ [.pointer (some ⟨b, 0, none⟩)] := by
    rw [kids_append, ptrs_append, setKids_kids]
    congr 1
    have : N.isKid x.path = true := by rw [isKid_iff, hNl]; exact hNp
    unfold kids ptrs
    rw [List.filter_cons, if_pos this, hNd]; rfl
  have kx2 : (kids (setKids T x.path kv ++ [N]) x.path).length = (kids T x.path).length + 1 := by have := congrArg List.length kx; simpa [ptrs] using this
  have ky : ∀ Q, Q ≠ x.path → ptrs (kids (setKids T x.path kv ++ [N]) Q) = ptrs (kids T Q) := fun Q hQ => by
    rw [kids_append, ptrs_append, setKids_kids]
    have : N.isKid Q = false := by
      cases e : N.isKid Q
      · rfl
      · rw [isKid_iff, hNp, hNl] at e; exact absurd (List.append_inj_left e (by have := congrArg List.length e; simpa using this)).symm hQ
    unfold kids ptrs
    rw [List.filter_cons, if_neg (by rw [this]; simp)]; simp
  have kN : kids (setKids T x.path kv ++ [N]) N.path = [] := by
    have h0 : ptrs (kids T N.path) = [] := by
      have : kids T N.path = [] := by
        rw [List.eq_nil_iff_forall_not_mem]
        intro y hy
        obtain ⟨hy, e⟩ := kids_mem.1 hy
        obtain ⟨z, hz, e2⟩ := hT.closed y hy (by rw [e]; simp)
        rw [e, List.dropLast_concat, hNp] at e2
        exact hnew z hz e2
      rw [this]; rfl
    have := ky N.path (by rw [hNp]; intro e; have := congrArg List.length e; simp at this)
    rw [h0] at this
    simpa [ptrs] using this
  refine ⟨hT', h.turn (x' := { x with kidsV := kv }) (N := N) hT' hx hg rfl rfl hbx hids (by rw [kx, kx2]; exact hkid) (.inl rfl) hk (fun y hy => ?_) (fun _ _ => ?_)⟩
  · rcases List.mem_append.1 hy with h1 | h1
    · obtain ⟨z, hz, rfl⟩ := List.mem_map.1 h1
      by_cases e : z.path = x.path
      · right; left
        simp only [if_pos e]
        rw [hT.same hz hx e]
      · left
        simp only [if_neg e]
        exact ⟨hz, e, ky _ e⟩
    · exact .inr (.inr (List.mem_singleton.1 h1))
  · have hptr : N.ptr = b := by rw [hNd]
    have hki : N.kidsV = .slice none 0 0 := by rw [hNd]
    have hid : N.idsV = iv := by rw [hNd]
    have hii : N.ids = ids := by rw [hNd]
    refine ⟨by rw [hNp]; intro e; have := congrArg List.length e; simp at this, by rw [hptr]; omega, by rw [hptr]; exact hb, ?_, by rw [hid, hii]; exact hiv, ?_, by rw [hid]; exact hivn, ?_, ?_, ?_⟩
    · unfold BoxAt; rw [hptr, hNl, hid, hki]; exact hbn
    · rw [kN, hki]; exact World.ownsRow_nil _ _ _ _
    · rw [hki]; intro b h; cases h
    · rw [hid]; exact new_apart (h.ids x hx) hivn
    · rw [hki]; exact Apart.symm (.inl rfl)

end Go.Proofs.YtcpoodhbakkmcaaGreatDoor

/- The walk of (*node).link: a knot more in the program's tree. -/
namespace Go.Proofs.YtcpoodhbakkmcaaGreatDoor
open Go.RowKit

def linkB (T : List NodeM) (p : ByteArray) (ids : List Int) : Bool := filterP (parts p 47) && (rises ids && (ptrOf T (pth p).dropLast).isSome)

theorem parts_front {p : ByteArray} (h : filterP (parts p 47) = true) : ((parts p 47).take ((parts p 47).length - 1)).map (·.data.toList) = (pth p).dropLast := by
  rw [(filter_good h).1, List.map_take, List.dropLast_eq_take, List.length_map]

set_option maxRecDepth 100000 in
set_option maxHeartbeats 1600000 in
theorem link_no (T : List NodeM) (x : NodeM) (p : ByteArray) (u : Value) (ids : List Int) (m : Int) (w : World) (B : Nat) (hN : Nodes w B T) (hT : TreeOk T) (hx : x ∈ T) (hx0 : x.path = []) (hn : T.length ≤ 4000000)
    (hp : p.size ≤ 1048576) (hi : ids.length ≤ 4000000) (hu : IntsAt w u ids) (hm : w.cell? ⟨0, 0, none⟩ = some (.int .i64 m)) (hb : linkB T p ids = false) :
    Calls Tryz.prog 40 #[.pointer (some ⟨x.ptr, 0, none⟩), .agg #[.string p, u]] w fun e w' => e = .returned (.bool false) ∧ Below w.heap.size w w' := by
  have hU := hu
  obtain ⟨a, c, rfl, _, _, _⟩ := hu
  have hA : Below w.heap.size w (w.alloc (.cells #[.string p, .slice a ids.length c] 43)) := (Below.refl _ _).alloc (Nat.le_refl _) _
  have cf := implFilter_any p m (w.alloc (.cells #[.string p, .slice a ids.length c] 43)) hp ((hA.cell (World.block_lt_of_cell? _ _ hm)).trans hm)
  cases hf : filterP (parts p 47)
  · rw [hf] at cf
    have CF := Lib.hid cf
    have HA := Lib.hid hA
    clear cf hf hb hN hT hU hA hm
    go_enter Tryz.func40, Tryz.ntmps40
    go_wp2_with (go_at_call 19; refine CF.out.mono ?_; rintro e w1 ⟨rfl, hb1⟩; have HB1 := Lib.hid hb1; clear hb1)
    go_ret
    exact ⟨rfl, below_end HA.out HB1.out⟩
  · rw [hf] at cf
    have CF := Lib.hid cf
    have hk : ∀ j, (w.alloc (.cells #[.string p, .slice a ids.length c] 43)).cell? ⟨w.heap.size, j, none⟩ = #[.string p, .slice a ids.length c][j]? := fun j => cell_of_heap (heap_alloc_new w _) j
    have HK := Lib.hid hk
    have HM := Lib.hid ((hA.cell (World.block_lt_of_cell? _ _ hm)).trans hm)
    have HU := Lib.hid (hU.below hA)
    have HNN := Lib.hid (hN.below hA)
    have HA := Lib.hid hA
    have hws : (w.alloc (.cells #[.string p, .slice a ids.length c] 43)).heap.size = w.heap.size + 1 := by simp
    have HWS := Lib.hid hws
    have HF := Lib.hid hf
    have HBB := Lib.hid hb
    clear cf hk hU hm hN hA hws hb hf
    cases hr : rises ids
    · clear HBB
      go_enter Tryz.func40, Tryz.ntmps40
      go_wp2_with fail
      refine CF.out.mono ?_
      rintro e w1 ⟨rfl, hb1⟩
      have hk1 : w1.cell? ⟨w.heap.size, 1, none⟩ = some (.slice a ids.length c) := (hb1.cell (show w.heap.size < _ by rw [HWS.out]; omega)).trans (HK.out 1)
      have CR := Lib.hid (implRises_any _ ids w1 hi (HU.out.below hb1))
      rw [hr] at CR
      have HB1 := Lib.hid hb1
      clear hb1
      go_wp2_with (go_at_call 66; refine CR.out.mono ?_; rintro e w1 ⟨rfl, rfl⟩)
      go_ret
      exact ⟨rfl, below_end HA.out HB1.out⟩
    · have HR := Lib.hid hr
      have HPN : Hid (ptrOf T (pth p).dropLast = none) := Lib.hid (by
        have := HBB.out
        rw [linkB, HF.out, hr] at this
        cases e : ptrOf T (pth p).dropLast with
        | none => rfl
        | some _ => rw [e] at this; cases this)
      clear HBB hr
      go_enter Tryz.func40, Tryz.ntmps40
      go_wp2_with fail
      refine CF.out.mono ?_
      rintro e w1 ⟨rfl, hb1⟩
      have hk0 : w1.cell? ⟨w.heap.size, 0, none⟩ = some (.string p) := (hb1.cell (show w.heap.size < _ by rw [HWS.out]; omega)).trans (HK.out 0)
      have hk1 : w1.cell? ⟨w.heap.size, 1, none⟩ = some (.slice a ids.length c) := (hb1.cell (show w.heap.size < _ by rw [HWS.out]; omega)).trans (HK.out 1)
      have CR := Lib.hid (implRises_any _ ids w1 hi (HU.out.below hb1))
      rw [HR.out] at CR
      have CP := Lib.hid (implParts_any p m w1 hp ((hb1.cell (World.block_lt_of_cell? _ _ HM.out)).trans HM.out))
      have HN1 := Lib.hid (HNN.out.below hb1)
      have HB1 := Lib.hid hb1
      clear hb1
      go_wp2_with (go_at_call 66; refine CR.out.mono ?_; rintro e w1 ⟨rfl, rfl⟩)
      refine CP.out.mono ?_
      rintro e w2 ⟨v, rfl, h1, h2⟩
      obtain ⟨g, cap, rfl, hg1, hg2, hcell, _⟩ := row_open h1 (parts_pos p 47)
      have HC := Lib.hid hcell
      have H2 := Lib.hid h2
      have hpos := parts_pos p 47
      have hple := parts_le p 47
      have g3 : IntKind.i64.wrap (((parts p 47).length : Int) - 1) = ((parts p 47).length : Int) - 1 := by rw [IntKind.wrap_i64]; omega
      have g4 : (0 : Int) ≤ ((parts p 47).length : Int) - 1 := by omega
      have g6 : (((parts p 47).length : Int) - 1).toNat = (parts p 47).length - 1 := by omega
      have HCAP : Hid ((parts p 47).length ≤ cap) := Lib.hid (own_cap h1)
      have CD := Lib.hid (descend_any T x (parts p 47) g ((parts p 47).length - 1) cap w2 B (HN1.out.below h2) hT hx hn (by omega) (by omega) (fun t ht => hcell t ht))
      rw [parts_front HF.out, hx0, List.nil_append, HPN.out] at CD
      obtain ⟨n, hnn⟩ : ∃ n, (parts p 47).length = n := ⟨_, rfl⟩
      rw [hnn] at hpos hple g3 g4 g6 HCAP CD ⊢
      have hcap := HCAP.out
      clear h1 h2 hcell hnn
      go_wp2_with fail
      refine CD.out.mono ?_
      rintro e w3 ⟨rfl, rfl⟩
      go_wp2
      go_ret
      exact ⟨rfl, below_end (below_end HA.out HB1.out) H2.out⟩

end Go.Proofs.YtcpoodhbakkmcaaGreatDoor

/- The walks of the reference's look for a number, and of a number laid into its place. -/
namespace Go.Proofs.YtcpoodhbakkmcaaGreatDoor
open Go.RowKit

def hasId (l : List Int) (x : Int) : Bool := l.any fun y => y == x

theorem hasId_at {l : List Int} {x : Int} {k : Nat} (h : k < l.length) (e : (l[k] == x) = true) : hasId l x = true := by
  rw [hasId, List.any_eq_true]; exact ⟨_, List.getElem_mem h, e⟩
theorem hasId_none {l : List Int} {x : Int} (h : ∀ j (hj : j < l.length), (l[j] == x) = false) : hasId l x = false := by
  cases e : hasId l x
  · rfl
  · rw [hasId, List.any_eq_true] at e
    obtain ⟨y, hy, e⟩ := e
    obtain ⟨j, hj, rfl⟩ := List.mem_iff_getElem.1 hy
    rw [h j hj] at e; cases e

def noneTo (l : List Int) (x : Int) (k : Nat) : Prop := ∀ j (hj : j < l.length), j < k → (l[j] == x) = false

set_option maxRecDepth 100000 in
set_option maxHeartbeats 400000 in
theorem specHas_any (v : Value) (l : List Int) (x : Int) (w : World) (hl : l.length ≤ 4000000) (hv : IntsAt w v l) :
    Calls Tryz.prog 37 #[v, .int .i64 x] w fun e w' => e = .returned (.bool (hasId l x)) ∧ w' = w := by
  obtain ⟨a, c, rfl, hc1, hc2, hc3⟩ := hv
  have HC := Lib.hid hc3
  clear hc3
  go_enter Tryz.func37, Tryz.ntmps37
  go_wp2
  go_loopw [5] (fun i wr => ∃ k : Nat, k ≤ l.length ∧ i = .int .i64 k ∧ Hid (noneTo l x k) ∧ wr = w) (fun i _ => l.length - (intOf i).toNat)
  case atStart => exact ⟨0, Nat.zero_le _, rfl, fun j _ h => absurd h (Nat.not_lt_zero _), rfl⟩
  case round =>
    obtain ⟨k, hk, rfl, HN, rfl⟩ := hrel
    by_cases hlt : k < l.length
    · obtain ⟨b, o, rfl, hin⟩ : ∃ b o, a = some ⟨b, o, none⟩ ∧ IntsIn wr b o l := by
        rcases HC.out with h | h
        · subst h; simp at hlt
        · exact h
      have hcell := hin k hlt
      have HA := Lib.hid (fun e => hasId_at (x := x) hlt e)
      have HB := Lib.hid (fun (e : (l[k] == x) = false) (j : Nat) (hj : j < l.length) (hjk : j < k + 1) => (by
        rcases Nat.lt_or_ge j k with h | h
        · exact HN.out j hj h
        · obtain rfl : j = k := by omega
          exact e : (l[j] == x) = false))
      obtain ⟨y, hy⟩ : ∃ y, l[k] = y := ⟨_, rfl⟩
      rw [hy] at hcell HA HB
      clear hin hy
      cases e : (y == x)
      · have HN2 : Hid (noneTo l x (k + 1)) := Lib.hid (HB.out e)
        clear HA HB
        go_wp2
        go_roundw
        case rel => exact ⟨k + 1, by omega, by go_num, HN2, by trivial⟩
        case measure => simp [intOf]; omega
      · have HE : Hid (hasId l x = true) := Lib.hid (HA.out e)
        clear HA HB
        go_wp2
        go_ret
        exact ⟨ret_bool HE.out.symm, rfl⟩
    · obtain rfl : k = l.length := by omega
      have HE : Hid (hasId l x = false) := Lib.hid (hasId_none fun j hj => HN.out j hj hj)
      go_wp2
      go_ret
      exact ⟨ret_bool HE.out.symm, rfl⟩

/-- Where a number goes: behind all but the greater ones at the end. -/
def intoAt (l : List Int) (x : Int) : Nat → Nat
  | 0 => 0
  | k + 1 => if l.getD k 0 > x then intoAt l x k else k + 1
theorem intoAt_le (l : List Int) (x : Int) : ∀ k, intoAt l x k ≤ k
  | 0 => Nat.le_refl _
  | k + 1 => by unfold intoAt; split; · exact Nat.le_succ_of_le (intoAt_le l x k)
                · exact Nat.le_refl _
def into (l : List Int) (x : Int) : List Int := l.take (intoAt l x l.length) ++ x :: l.drop (intoAt l x l.length)

end Go.Proofs.YtcpoodhbakkmcaaGreatDoor

/- Plain mathematics of chapter 3: numbers laid into a rising list. -/
namespace Go.Proofs.YtcpoodhbakkmcaaGreatDoor

theorem rises_iff {l : List Int} : rises l = true ↔ ∀ j (h : j < l.length), idOk l[j] = true ∧ (∀ (_ : 0 < j), l[j - 1]'(by omega) < l[j]) := by
  unfold rises risesTo
  rw [List.all_eq_true]
  constructor
  · intro h j hj
    have := h j (List.mem_range.2 hj)
    rw [Bool.and_eq_true, getD_at hj] at this
    refine ⟨this.1, fun h0 => ?_⟩
    have h2 := this.2
    rw [Bool.or_eq_true, decide_eq_true_iff, decide_eq_true_iff, getD_at (show j - 1 < l.length by omega)] at h2
    rcases h2 with h2 | h2
    · omega
    · exact h2
  · intro h j hj
    have hj := List.mem_range.1 hj
    obtain ⟨h1, h2⟩ := h j hj
    rw [getD_at hj, h1]
    by_cases h0 : 0 < j
    · rw [getD_at (show j - 1 < l.length by omega), decide_eq_true (h2 h0)]; simp
    · rw [decide_eq_true (show j = 0 by omega)]; rfl

theorem rises_pair {l : List Int} : rises l = true ↔ (∀ x ∈ l, idOk x = true) ∧ l.Pairwise (· < ·) := by
  rw [rises_iff, List.pairwise_iff_getElem]
  constructor
  · intro h
    refine ⟨fun x hx => by obtain ⟨j, hj, rfl⟩ := List.mem_iff_getElem.1 hx; exact (h j hj).1, ?_⟩
    intro i j hi hj hij
    obtain ⟨d, rfl⟩ : ∃ d, j = i + d + 1 := ⟨j - i - 1, by omega⟩
    clear hij
    induction d with
    | zero => exact (h (i + 1) hj).2 (by omega)
    | succ d ih => exact Int.lt_trans (ih (by omega)) ((h (i + (d + 1) + 1) hj).2 (by omega))
  · rintro ⟨h1, h2⟩ j hj
    exact ⟨h1 _ (List.getElem_mem hj), fun h0 => h2 (j - 1) j (by omega) hj (by omega)⟩

theorem idOk_iff {x : Int} : idOk x = true ↔ 0 ≤ x ∧ x ≤ 99 := by unfold idOk; simp

/-- A rising list is short. -/
theorem rises_short {l : List Int} (h : rises l = true) : l.length ≤ 100 := by
  obtain ⟨h1, h2⟩ := rises_pair.1 h
  have h3 := List.pairwise_iff_getElem.1 h2
  have : ∀ j (hj : j < l.length), (j : Int) ≤ l[j] := by
    intro j
    induction j with
    | zero => intro hj; exact (idOk_iff.1 (h1 _ (List.getElem_mem hj))).1
    | succ j ih => intro hj; have := ih (by omega); have := h3 j (j + 1) (by omega) hj (by omega); omega
  rcases Nat.lt_or_ge 100 l.length with hl | hl
  · have a := this 100 hl
    have b := (idOk_iff.1 (h1 _ (List.getElem_mem hl))).2
    omega
  · exact hl

theorem intoAt_spec {l : List Int} {x : Int} (hs : l.Pairwise (· < ·)) : ∀ k, k ≤ l.length → (∀ j (h : j < l.length), k ≤ j → x < l[j]) → (∀ j (h : j < l.length), intoAt l x k ≤ j → x < l[j]) ∧ (∀ j (h : j < l.length), j < intoAt l x k → l[j] ≤ x)
  | 0, _, hk => ⟨fun j h _ => hk j h (Nat.zero_le _), fun j h h2 => by rw [intoAt] at h2; omega⟩
  | k + 1, hk1, hk => by
    rw [intoAt, getD_at (show k < l.length by omega)]
    split
    · rename_i hgt
      refine intoAt_spec hs k (by omega) fun j h h2 => ?_
      rcases Nat.lt_or_ge k j with h3 | h3
      · exact hk j h h3
      · obtain rfl : j = k := by omega
        exact hgt
    · rename_i hle
      refine ⟨hk, fun j h h2 => ?_⟩
      rcases Nat.lt_or_ge j k with h3 | h3
      · have := List.pairwise_iff_getElem.1 hs j k h (by omega) h3; omega
      · obtain rfl : j = k := by omega
        omega

theorem into_mem {l : List Int} {x y : Int} : y ∈ into l x ↔ y = x ∨ y ∈ l := by
  unfold into
  rw [List.mem_append, List.mem_cons]
  constructor
  · rintro (h | h | h)
    · exact .inr (List.mem_of_mem_take h)
    · exact .inl h
    · exact .inr (List.mem_of_mem_drop h)
  · rintro (h | h)
    · exact .inr (.inl h)
    · rw [← List.take_append_drop (intoAt l x l.length) l, List.mem_append] at h
      rcases h with h | h
      · exact .inl h
      · exact .inr (.inr h)

theorem into_rises {l : List Int} {x : Int} (h : rises l = true) (hx : idOk x = true) (hn : hasId l x = false) : rises (into l x) = true := by
  obtain ⟨h1, h2⟩ := rises_pair.1 h
  rw [rises_pair]
  refine ⟨fun y hy => by rcases into_mem.1 hy with rfl | hy; exact hx; exact h1 y hy, ?_⟩
  obtain ⟨s1, s2⟩ := intoAt_spec (x := x) h2 l.length (Nat.le_refl _) (fun j hj h3 => by omega)
  have hne : ∀ y ∈ l, y ≠ x := fun y hy e => by
    obtain ⟨j, hj, rfl⟩ := List.mem_iff_getElem.1 hy
    rw [hasId_at hj (by rw [e]; simp)] at hn; cases hn
  unfold into
  rw [List.pairwise_append]
  refine ⟨h2.sublist (List.take_sublist _ _), List.pairwise_cons.2 ⟨fun y hy => ?_, h2.sublist (List.drop_sublist _ _)⟩, fun y hy z hz => ?_⟩
  · obtain ⟨j, hj, rfl⟩ := List.mem_iff_getElem.1 hy
    rw [List.getElem_drop]
    rw [List.length_drop] at hj
    exact s1 _ (by omega) (by omega)
  · obtain ⟨j, hj, rfl⟩ := List.mem_take_iff_getElem.1 hy
    have hjx : l[j] < x := by
      have a := s2 j (by omega) (by omega)
      have b := hne l[j] (List.getElem_mem _)
      omega
    rcases List.mem_cons.1 hz with rfl | hz
    · exact hjx
    · obtain ⟨i, hi, rfl⟩ := List.mem_iff_getElem.1 hz
      rw [List.getElem_drop]
      rw [List.length_drop] at hi
      have := s1 (intoAt l x l.length + i) (by omega) (by omega)
      omega

def addId (l : List Int) (x : Int) : List Int := if hasId l x then l else into l x
theorem addId_rises {l : List Int} {x : Int} (h : rises l = true) (hx : idOk x = true) : rises (addId l x) = true := by
  unfold addId; cases e : hasId l x
  · exact into_rises h hx e
  · exact h

theorem hasId_iff {l : List Int} {x : Int} : hasId l x = true ↔ x ∈ l := by
  unfold hasId; rw [List.any_eq_true]
  constructor
  · rintro ⟨y, hy, e⟩; rw [beq_iff_eq] at e; rw [← e]; exact hy
  · intro h; exact ⟨x, h, by simp⟩

theorem addId_mem {l : List Int} {x y : Int} : y ∈ addId l x ↔ y = x ∨ y ∈ l := by
  unfold addId; cases e : hasId l x
  · exact into_mem
  · constructor
    · exact .inr
    · rintro (rfl | h)
      · exact hasId_iff.1 e
      · exact h

/-- Two rising lists with the same numbers are one. -/
theorem rises_ext {a b : List Int} (ha : rises a = true) (hb : rises b = true) (h : ∀ x, x ∈ a ↔ x ∈ b) : a = b := by
  have h1 := (rises_pair.1 ha).2
  have h2 := (rises_pair.1 hb).2
  clear ha hb
  induction a generalizing b with
  | nil =>
    cases b with
    | nil => rfl
    | cons y b => have := (h y).2 (by simp); cases this
  | cons x a ih =>
    cases b with
    | nil => have := (h x).1 (by simp); cases this
    | cons y b =>
      rw [List.pairwise_cons] at h1 h2
      have e : x = y := by
        rcases List.mem_cons.1 ((h x).1 (by simp)) with e | e
        · exact e
        · rcases List.mem_cons.1 ((h y).2 (by simp)) with e2 | e2
          · exact e2.symm
          · have := h1.1 y e2; have := h2.1 x e; omega
      subst e
      rw [ih (b := b) (fun z => ?_) h1.2 h2.2]
      constructor
      · intro hz
        rcases List.mem_cons.1 ((h z).1 (List.mem_cons_of_mem _ hz)) with e | e
        · subst e; have := h1.1 z hz; omega
        · exact e
      · intro hz
        rcases List.mem_cons.1 ((h z).2 (List.mem_cons_of_mem _ hz)) with e | e
        · subst e; have := h2.1 z hz; omega
        · exact e

end Go.Proofs.YtcpoodhbakkmcaaGreatDoor

/- The search in an own row of numbers. -/
namespace Go.Proofs.YtcpoodhbakkmcaaGreatDoor
open Go.RowKit

set_option maxRecDepth 100000 in
set_option maxHeartbeats 800000 in
theorem bsearch_any (v : Value) (l : List Int) (x : Int) (B : Nat) (w : World) (hl : l.length ≤ 4000000) (hs : l.Pairwise (· ≤ ·)) (hv : w.ownsRow B 2 1 v l.length (ints l)) :
    Calls Tryz.prog 69 #[v, .int .i64 x] w fun e w' => e = .returned (.tuple #[.int .i64 (l.countP (· < x) : Nat), .bool (l.contains x)]) ∧ ∃ q, w' = w.drewN q := by
  rcases hv.2 with ⟨rfl, h0⟩ | ⟨g, c, cur, rfl, _⟩
  · have e0 : l = [] := List.length_eq_zero_iff.1 h0
    subst e0
    clear hv hs hl
    go_enter Tryz.func69, Tryz.ntmps69
    go_wp2
    go_loopg [7, 8] 0 (fun k i j wr => i = .int .i64 0 ∧ j = .int .i64 0 ∧ wr = w)
    case atStart => exact ⟨rfl, rfl, rfl⟩
    case round =>
      obtain ⟨rfl, rfl, rfl⟩ := hrel
      go_wp2
      go_ret2
      exact ⟨rfl, 0, rfl⟩
  · have h := Tryz.slices_BinarySearch_int g 0 l.length c l x w (Nat.le_refl _) (by omega) (fun j hj => by
      have := hv.cells rfl j (.int .i64 (l.getD j 0)) (by rw [ints, List.getElem?_map, List.getElem?_eq_getElem hj, List.getD_eq_getElem?_getD, List.getElem?_eq_getElem hj]; rfl)
      rwa [Addr.add_lit] at this) (by rw [List.take_length]; exact hs)
    rw [List.take_length] at h
    exact h

end Go.Proofs.YtcpoodhbakkmcaaGreatDoor

/- An own row of numbers sorted, and compacted, by the library. -/
namespace Go.Proofs.YtcpoodhbakkmcaaGreatDoor
open Go.RowKit Go.Sort

/-- An own row holds its numbers. -/
theorem own_holds {w : World} {B g n cap : Nat} {l : List Int} (h : w.ownsRow B 2 1 (.slice (some ⟨g, 0, none⟩) n cap) n (ints l)) : Holds (Value.int .i64) w g 0 l.toArray := by
  have hn : l.length = n := by have := h.1; simpa [ints] using this
  obtain ⟨cur, hh⟩ : ∃ cur, w.heap[g]? = some (.cells cur 2 (0, 0)) := by
    rcases h.2 with ⟨h1, _⟩ | ⟨_, _, cur, h1, _, h2, _⟩
    · cases h1
    · cases h1; exact ⟨cur, h2⟩
  intro j hj
  have hj2 : j < l.length := by simpa using hj
  refine ⟨?_, by simp [World.frozen?, hh]⟩
  have := h.cellAt j (by omega)
  rw [Nat.zero_add, this, ints, List.getElem?_map, List.getElem?_eq_getElem hj2]
  simp [hj2]

theorem toList_putCells (l : List Int) (c : Array Value) (h : l.length ≤ c.size) : (putCells (Value.int .i64) 0 l.toArray c).toList.take l.length = ints l := by
  apply List.ext_getElem?
  intro i
  rw [List.getElem?_take]
  by_cases hi : i < l.length
  · rw [if_pos hi]
    have hc : i < c.size := by omega
    simp [putCells, ints, hi, hc]
  · rw [if_neg hi, ints, List.getElem?_map, List.getElem?_eq_none (by omega)]; rfl

/-- The row rewritten. -/
theorem own_putRow {w w' : World} {B g n cap : Nat} {l l' : List Int} {os : Array Obj} {q : Nat} (h : w.ownsRow B 2 1 (.slice (some ⟨g, 0, none⟩) n cap) n (ints l)) (hl : l'.length = n) (e : w' = grow (putRow (Value.int .i64) (Sort.ahead w q) g 0 l'.toArray) os) (m : Nat) (hm : m ≤ n) :
    w'.ownsRow B 2 1 (.slice (some ⟨g, 0, none⟩) m cap) m (ints (l'.take m)) ∧ w.grownBy w' (some g) := by
  rcases h.2 with ⟨h1, _⟩ | ⟨g2, cap2, cur, h1, hb, hh, h2, h3, h4, h5⟩
  · cases h1
  · cases h1
    have hg : g < w.heap.size := (Array.getElem?_eq_some_iff.1 hh).1
    have hh' : w'.heap[g]? = some (.cells (putCells (Value.int .i64) 0 l'.toArray cur) 2 (0, 0)) := by
      rw [e]
      unfold grow putRow mapBlock Sort.ahead
      rw [Array.getElem?_append_left (by simpa using hg), Array.getElem?_modify, if_pos rfl, hh]; rfl
    have hcs : cur.size = cap := by omega
    refine ⟨⟨by rw [ints_length, List.length_take]; omega, .inr ⟨g, cap, _, rfl, hb, hh', by omega, h3, by simp [putCells, hcs], ?_⟩⟩, ?_⟩
    · have := toList_putCells l' cur (by omega)
      rw [Nat.mul_one]
      have e2 := congrArg (List.take m) this
      rw [List.take_take, Nat.min_eq_left (by omega)] at e2
      rw [e2, ints, ints, List.map_take]
    · subst e
      refine ⟨rfl, rfl, rfl, by simp [grow, putRow, mapBlock, Sort.ahead], fun k hk hne => ?_⟩
      unfold grow putRow mapBlock Sort.ahead
      rw [Array.getElem?_append_left (by simpa using hk), Array.getElem?_modify, if_neg (fun e => hne (by rw [e]))]

theorem grow_none (w : World) : grow w #[] = w := by simp [grow]

/-- Sorted, without what is alike: a rising list of the same numbers. -/
theorem compact_mem (l : List Int) (x : Int) : x ∈ Lib.compact l ↔ x ∈ l := by
  unfold Lib.compact Lib.compactUpTo
  rw [List.mem_map]
  constructor
  · rintro ⟨j, hj, rfl⟩
    have hj := List.mem_range.1 (List.mem_filter.1 hj).1
    simp [hj]
  · intro hx
    obtain ⟨j, hj, rfl⟩ := List.mem_iff_getElem.1 hx
    induction j with
    | zero => exact ⟨0, List.mem_filter.2 ⟨List.mem_range.2 hj, by simp [Lib.keeps]⟩, by simp [hj]⟩
    | succ j ih =>
      by_cases e : l[j + 1] = l[j]
      · rw [e]; exact ih (by omega) (List.getElem_mem _)
      · exact ⟨j + 1, List.mem_filter.2 ⟨List.mem_range.2 hj, by simp [Lib.keeps, hj, show j < l.length by omega, e]⟩, by simp [hj]⟩

theorem compact_rises {l : List Int} (hs : l.Pairwise (· ≤ ·)) : (Lib.compact l).Pairwise (· < ·) := by
  unfold Lib.compact Lib.compactUpTo
  rw [List.pairwise_map]
  have hr : ((List.range l.length).filter (Lib.keeps l.toArray)).Pairwise (· < ·) := List.Pairwise.filter _ List.pairwise_lt_range
  refine List.Pairwise.imp_of_mem ?_ hr
  intro a b ha hb hab
  have ha2 := List.mem_range.1 (List.mem_filter.1 ha).1
  have hb2 := List.mem_range.1 (List.mem_filter.1 hb).1
  have hk := (List.mem_filter.1 hb).2
  have hp := List.pairwise_iff_getElem.1 hs
  have hle : ∀ i j (hi : i < l.length) (hj : j < l.length), i ≤ j → l[i] ≤ l[j] := fun i j hi hj hij => by
    rcases Nat.lt_or_ge i j with h | h
    · exact hp i j hi hj h
    · have : i = j := by omega
      subst this; exact Int.le_refl _
  have h1 := hle a (b - 1) ha2 (by omega) (by omega)
  have h2 := hp (b - 1) b (by omega) hb2 (by omega)
  have h3 : l[b] ≠ l[b - 1]'(by omega) := by
    unfold Lib.keeps at hk
    have hb0 : b ≠ 0 := by omega
    simp [hb0, hb2, show b - 1 < l.length by omega] at hk
    exact hk
  have e1 : l.toArray[a]! = l[a] := by simp [ha2]
  have e2 : l.toArray[b]! = l[b] := by simp [hb2]
  rw [e1, e2]
  omega

end Go.Proofs.YtcpoodhbakkmcaaGreatDoor

/- Rows of numbers as what an append reads; a number laid into its place. Of no function. -/
namespace Go.Proofs.YtcpoodhbakkmcaaGreatDoor
open Go.RowKit

theorem IntsAt.src {w : World} {u : Value} {l : List Int} (h : IntsAt w u l) : SrcAt w u l.length (ints l) := by
  obtain ⟨a, c, rfl, _, _, h⟩ := h
  rcases h with rfl | ⟨b, o, rfl, hin⟩
  · cases a with
    | none => exact ⟨none, c, rfl, .inl ⟨rfl, rfl, rfl⟩⟩
    | some ad => exact ⟨some ad, c, rfl, .inr ⟨ad, rfl, fun j u hu => by simp [ints] at hu⟩⟩
  · refine ⟨_, c, rfl, .inr ⟨_, rfl, fun j u hu => ?_⟩⟩
    have hj : j < l.length := by
      rcases Nat.lt_or_ge j l.length with h | h
      · exact h
      · rw [List.getElem?_eq_none (by rw [ints_length]; exact h)] at hu; cases hu
    rw [ints, List.getElem?_map, List.getElem?_eq_getElem hj] at hu
    cases hu
    rw [Addr.add_lit]
    exact hin j hj

/-- What is behind the k-th place of a list that reads as numbers. -/
theorem IntsAt.drop {w : World} {a : Option Addr} {c k : Nat} {l : List Int} (h : IntsAt w (.slice a l.length c) l) (hk : k ≤ l.length) : ∀ b o c', a = some ⟨b, o, none⟩ → SrcAt w (.slice (some ⟨b, o + k, none⟩) (l.length - k) c') (l.length - k) (ints (l.drop k)) := by
  intro b o c' ha
  obtain ⟨a2, c2, e, _, _, h⟩ := h
  cases e
  subst ha
  refine ⟨_, _, rfl, .inr ⟨_, rfl, fun j u hu => ?_⟩⟩
  rcases h with rfl | ⟨b2, o2, e2, hin⟩
  · simp [ints] at hu
  · cases e2
    have hj : j < (l.drop k).length := by
      rcases Nat.lt_or_ge j (l.drop k).length with h | h
      · exact h
      · rw [List.getElem?_eq_none (by rw [ints_length]; exact h)] at hu; cases hu
    rw [ints, List.getElem?_map, List.getElem?_eq_getElem hj] at hu
    cases hu
    rw [Addr.add_lit, List.getElem_drop]
    rw [List.length_drop] at hj
    have := hin (k + j) (by omega)
    rw [show o + k + j = o + (k + j) by omega]; exact this

theorem SrcAt.none {w : World} {a : Option Addr} {c n : Nat} {news : List Value} (hn : n = 0) (h : news = []) : SrcAt w (.slice a n c) n news := by
  subst hn; subst h
  cases a with
  | none => exact ⟨_, _, rfl, .inl ⟨rfl, rfl, rfl⟩⟩
  | some ad => exact ⟨_, _, rfl, .inr ⟨ad, rfl, fun j u hu => by cases hu⟩⟩

theorem IntsAt.front {w : World} {a : Option Addr} {c k : Nat} {l : List Int} (h : IntsAt w (.slice a l.length c) l) (hk : k ≤ l.length) (c' : Nat) : SrcAt w (.slice a k c') k (ints (l.take k)) := by
  obtain ⟨a2, c2, e, _, _, h⟩ := h
  cases e
  rcases h with rfl | ⟨b, o, rfl, hin⟩
  · exact SrcAt.none (by simpa using hk) (by simp [ints])
  · refine ⟨_, _, rfl, .inr ⟨_, rfl, fun j u hu => ?_⟩⟩
    have hj : j < (l.take k).length := by
      rcases Nat.lt_or_ge j (l.take k).length with h | h
      · exact h
      · rw [List.getElem?_eq_none (by rw [ints_length]; exact h)] at hu; cases hu
    rw [ints, List.getElem?_map, List.getElem?_eq_getElem hj] at hu
    cases hu
    rw [Addr.add_lit, List.getElem_take]
    rw [List.length_take] at hj
    exact hin j (by omega)

theorem own_lit_empty (w : World) : (w.alloc (.cells #[] 2)).ownsRow w.heap.size 2 1 (.slice (some ⟨w.heap.size, 0, none⟩) 0 0) 0 [] :=
  World.ownsRow_lit (base := w.heap.size) (e := 2) (size := 1) w #[] 0 (Nat.le_refl _) (by unfold maxLen; omega) rfl

/-- What the last statement of 'l3Into' makes: four appends to rows of its own. -/
theorem into_end (l : List Int) (x : Int) (k : Nat) (h : intoAt l x l.length = k) : ints (l.take k) ++ .int .i64 x :: ints (l.drop k) = ints (into l x) := by
  unfold into; rw [h]; simp [ints]

theorem own_alloc {w : World} {B n cap size : Nat} {e : TypeId} {cur : Array Value} {xs : List Value} (hB : B ≤ w.heap.size) (h1 : n ≤ cap) (h2 : cap ≤ maxLen) (h3 : cur.size = cap * size) (h4 : cur.toList.take (n * size) = xs) (h5 : xs.length = n * size) :
    (w.alloc (.cells cur e)).ownsRow B e size (.slice (some ⟨w.heap.size, 0, none⟩) n cap) n xs :=
  ⟨h5, .inr ⟨w.heap.size, cap, cur, rfl, hB, heap_alloc_new w _, h1, h2, h3, h4⟩⟩

theorem into_length (l : List Int) (x : Int) : (into l x).length = l.length + 1 := by
  unfold into; have := intoAt_le l x l.length; simp; omega

theorem into_nil (x : Int) : into [] x = [x] := rfl

end Go.Proofs.YtcpoodhbakkmcaaGreatDoor

/- The walk of slices.Delete of one element at []int64, at an own row. -/
namespace Go.Proofs.YtcpoodhbakkmcaaGreatDoor
open Go.RowKit Go.Lib

theorem delI_zero : ∀ w, (zeroValue 2).run Tryz.prog w = .ok (.int .i64 0) w := fun w => by
  obtain ⟨i1, hi1, hz1, hy1, hq1⟩ := insI_info
  simp [zeroValue, typeInfo, hi1, hz1]

set_option maxRecDepth 100000 in
set_option maxHeartbeats 3200000 in
theorem delI_any (v : Value) (xs : List Value) (i B : Nat) (w : World) (hi : i < xs.length) (hn : xs.length ≤ 4000000) (hx : ∀ u ∈ xs, u.oneCell' = true) (hv : w.ownsRow B 2 1 v xs.length xs) :
    Calls Tryz.prog 95 #[v, .int .i64 i, .int .i64 ((i : Int) + 1)] w fun e w' =>
      ∃ v', e = .returned v' ∧ w'.ownsRow B 2 1 v' (xs.length - 1) (xs.take i ++ xs.drop (i + 1)) ∧ w.grownBy w' v.ownBlock ∧ v'.ownBlock = v.ownBlock := by
  obtain ⟨i1, hi1, hz1, hy1, hq1⟩ := insI_info
  obtain ⟨g, c, cur, rfl, hBg, hg, hnc, hcm, hcs, hct⟩ : ∃ g c cur, v = .slice (some ⟨g, 0, none⟩) xs.length c ∧ B ≤ g ∧ w.heap[g]? = some (.cells cur 2 (0, 0)) ∧ xs.length ≤ c ∧ c ≤ maxLen ∧ cur.size = c * 1 ∧ cur.toList.take (xs.length * 1) = xs := by
    rcases hv.2 with ⟨_, h⟩ | h
    · omega
    · exact h
  clear hv
  rw [Nat.mul_one] at hcs hct
  obtain ⟨cl, rfl⟩ : ∃ cl : List Value, cur = cl.toArray := ⟨cur.toList, by simp⟩
  have hcl : cl = xs ++ cl.drop xs.length := by
    have := List.take_append_drop xs.length cl
    rw [show cl.take xs.length = xs from hct] at this; exact this.symm
  have hlen : cl.length = c := by simpa using hcs
  obtain ⟨rs, hrs⟩ : ∃ rs, cl.drop xs.length = rs := ⟨_, rfl⟩
  rw [hrs] at hcl
  unfold maxLen at hcm
  obtain ⟨n, hnn⟩ : ∃ n, xs.length = n := ⟨_, rfl⟩
  have hXD : (xs.drop (i + 1)).length = n - (i + 1) := by rw [List.length_drop, hnn]
  have HL := Lib.hid (cells_out xs i hi (.int .i64 0) rs)
  have HXD := Lib.hid hXD
  have HCL := Lib.hid hcl
  have HG := Lib.hid hg
  have HX := Lib.hid (fun u (hu : u ∈ xs.drop (i + 1)) => hx u (List.mem_of_mem_drop hu))
  have HLN := Lib.hid hlen
  have HN := Lib.hid hnn
  obtain ⟨A, hA, hsrc⟩ : ∃ A : Addr, (if c = i + 1 then some (⟨g, 0, none⟩ : Addr) else some ⟨g, i + 1, none⟩) = some A ∧ Hid (∀ j u, (xs.drop (i + 1))[j]? = some u → w.drew.cell? (A.add j) = some u) := by
    by_cases h : c = i + 1
    · refine ⟨_, by rw [if_pos h], Lib.hid fun j u hj => ?_⟩
      have := (List.getElem?_eq_some_iff.1 hj).1
      rw [hXD] at this; omega
    · refine ⟨_, by rw [if_neg h], Lib.hid fun j u hj => ?_⟩
      rw [Addr.add_lit]
      refine (cell_of_heap hg (i + 1 + j)).trans ?_
      rw [hcl, List.getElem?_toArray, List.getElem?_append_left (by have := (List.getElem?_eq_some_iff.1 hj).1; rw [hXD] at this; omega), ← List.getElem?_drop]
      exact hj
  have f5 : (Tryz.prog.info? 2).map (·.size) = some 1 := by rw [hi1]; simp [hy1]
  rw [hnn] at hi hn hnc ⊢
  have hz1 : ((i : Int) == (i : Int) + 1) = false := by rw [beq_eq_false_iff_ne]; omega
  have htn : ((i : Int) + 1).toNat = i + 1 := by omega
  have hb1 : (0 : Int) ≤ (i : Int) + 1 := by omega
  have hb2 : ¬ (n = i) := by omega
  have hb4 : ¬ (c = n - 1) := by omega
  have hic : i ≤ c := by omega
  have hjc : i + 1 ≤ c := by omega
  have hb6 : (i : Int) + 1 ≤ (n : Int) := by omega
  have hb7 : (i : Int) ≤ (i : Int) + 1 := by omega
  have hlx : i + (n - (i + 1)) = n - 1 := by omega
  clear hnn hcl hg hx hlen hct hcs hrs hXD
  go_enter Tryz.func95, Tryz.ntmps95
  go_wp2_with fail
  have HS : Hid (w.grownBy w.drew (some g)) := Lib.hid (grown_drewN w 1 _)
  refine wp_region_held_drew (S := fun wx => Hid (w.grownBy wx (some g))) (by kernel_rfl) ?_ (fun hHeld => ?_)
  · exact HS
  change wpAnyH _ _ _ _ _ 8 #[false, false, false, false, false, false, false, false] _ _
  clear HS
  refine wpAnyH_take (i := 0) (v := ?_) rfl (by kernel_rfl) (by kernel_rfl) (by kernel_rfl) (fun _ _ _ h => h) (Or.inl ⟨by rfl, ?_⟩) (by assumption) ?_
  rotate_left
  · intro w hSw; (try dsimp only at hSw); go_simp; try with_reducible rfl
  try simp only [Act.put, List.getElem_toArray, List.getElem_cons_succ, List.getElem_cons_zero, List.setIfInBounds_toArray, List.set_cons_zero, List.set_cons_succ]
  refine wpAnyH_take (i := 1) (v := ?_) rfl (by kernel_rfl) (by kernel_rfl) (by kernel_rfl) (fun _ _ _ h => h) (Or.inl ⟨by rfl, ?_⟩) (by assumption) ?_
  rotate_left
  · intro w hSw; (try dsimp only at hSw); go_simp; try with_reducible rfl
  try simp only [Act.put, List.getElem_toArray, List.getElem_cons_succ, List.getElem_cons_zero, List.setIfInBounds_toArray, List.set_cons_zero, List.set_cons_succ]
  refine wpAnyH_take (i := 2) (v := ?_) rfl (by kernel_rfl) (by kernel_rfl) (by kernel_rfl) (fun _ _ _ h => h) (Or.inl ⟨by rfl, ?_⟩) (by assumption) ?_
  rotate_left
  · intro w hSw; (try dsimp only at hSw); go_simp; try with_reducible rfl
  try simp only [Act.put, List.getElem_toArray, List.getElem_cons_succ, List.getElem_cons_zero, List.setIfInBounds_toArray, List.set_cons_zero, List.set_cons_succ]
  refine wpAnyH_take (i := 3) (v := ?_) rfl (by kernel_rfl) (by kernel_rfl) (by kernel_rfl) (fun _ _ _ h => h) (Or.inl ⟨by rfl, ?_⟩) (by assumption) ?_
  rotate_left
  · intro w hSw; (try dsimp only at hSw); go_simp; try with_reducible rfl
  try simp only [Act.put, List.getElem_toArray, List.getElem_cons_succ, List.getElem_cons_zero, List.setIfInBounds_toArray, List.set_cons_zero, List.set_cons_succ]
  refine wpAnyH_take (i := 4) (v := ?_) rfl (by kernel_rfl) (by kernel_rfl) (by kernel_rfl) (fun _ _ _ h => h) (Or.inl ⟨by rfl, ?_⟩) (by assumption) ?_
  rotate_left
  · intro w hSw; (try dsimp only at hSw); go_simp; try with_reducible rfl
  try simp only [Act.put, List.getElem_toArray, List.getElem_cons_succ, List.getElem_cons_zero, List.setIfInBounds_toArray, List.set_cons_zero, List.set_cons_succ]
  refine wpAnyH_take (i := 5) (v := ?_) rfl (by kernel_rfl) (by kernel_rfl) (by kernel_rfl) (fun _ _ _ h => h) (Or.inl ⟨by rfl, ?_⟩) (by assumption) ?_
  rotate_left
  · intro w hSw; (try dsimp only at hSw); go_simp; try with_reducible rfl
  try simp only [Act.put, List.getElem_toArray, List.getElem_cons_succ, List.getElem_cons_zero, List.setIfInBounds_toArray, List.set_cons_zero, List.set_cons_succ]
  refine wpAnyH_ready (rs := [6]) (by kernel_rfl) (by simp) (AllReadyH.cons rfl (fun K hK => ?_) AllReadyH.nil)
  rw [if_pos (by rfl)]
  refine wp_append_room_at (.tmp 22) (.tmp 25) 33 rfl 2 i1 Tryz.underlying33 hi1 hy1 g i c A (n - (i + 1)) (c - (i + 1)) (xs.drop (i + 1)) (xs ++ rs) (by simp [Act.eval]) (by simp [Act.eval, hA]) (by rw [← HCL.out]; exact HG.out) HXD.out (by omega) (by rw [← HCL.out, HLN.out, HXD.out]; omega) hsrc.out HX.out ?_; intro w2 hh2 hg2
  refine hK.out _ _ ?_ (fun hHeld => ?_)
  · exact Lib.hid (grown_trans hHeld.out hg2)
  clear hK K
  try simp only [Act.put, List.getElem_toArray, List.getElem_cons_succ, List.getElem_cons_zero, List.setIfInBounds_toArray, List.set_cons_zero, List.set_cons_succ]
  refine wpAnyH_take (i := 7) (v := ?_) rfl (by kernel_rfl) (by kernel_rfl) (by kernel_rfl) (fun _ _ _ h => h) (Or.inl ⟨by rfl, ?_⟩) (by assumption) ?_
  rotate_left
  · intro w hSw; (try dsimp only at hSw); go_simp; try with_reducible rfl
  try simp only [Act.put, List.getElem_toArray, List.getElem_cons_succ, List.getElem_cons_zero, List.setIfInBounds_toArray, List.set_cons_zero, List.set_cons_succ]
  refine wpAnyH_done (by kernel_rfl) ?_ _
  have HH2 := Lib.hid hh2
  clear hh2 hg2
  have f2 : i + (xs.drop (i + 1)).length ≤ (xs ++ rs).length := by rw [← HCL.out, HLN.out, HXD.out]; omega
  have f3 : n - 1 + 1 ≤ (layAt (xs ++ rs) i (xs.drop (i + 1))).length := by rw [layAt_length f2, ← HCL.out, HLN.out]; omega
  rw [hlx]
  have hb8 : ¬ (n - 1 = c) := by omega
  have hb9 : ((n - 1 : Nat) : Int) ≤ (n : Int) := by omega
  have hb10 : n - (n - 1) = 1 := by omega
  go_wp2_with (refine wpList_clear_at rfl (.tmp 31) 33 rfl 2 Tryz.underlying33 (.int .i64 0) delI_zero rfl rfl g (n - 1) 1 (c - (n - 1)) (layAt (xs ++ rs) i (xs.drop (i + 1))) (by omega) (by simp [Act.eval, Act.put, hb10]) HH2.out f3 ?_)
  intro w3 hh3 hg3
  have HH3 := Lib.hid hh3
  have HG3 := Lib.hid (grown_trans hHeld.out hg3)
  clear hh3 hg3 hHeld
  go_wp2
  go_ret
  refine ⟨_, rfl, ⟨by simp [HN.out]; omega, .inr ⟨g, c, _, rfl, hBg, HH3.out, by omega, by unfold maxLen; omega, ?_, ?_⟩⟩, HG3.out, rfl⟩
  · simp only [List.size_toArray, Nat.mul_one, List.replicate_one]
    rw [layAt_length (by simpa using f3), layAt_length f2, ← HCL.out, HLN.out]
  · have := HL.out
    rw [HN.out] at this
    simp only [Nat.mul_one, List.replicate_one]
    exact this

end Go.Proofs.YtcpoodhbakkmcaaGreatDoor

/- Lists of knots as rows; a knot laid into its place. Of no function. -/
namespace Go.Proofs.YtcpoodhbakkmcaaGreatDoor
open Go.RowKit

/-- Where a path goes: behind all but the greater ones at the end. -/
def putAt (l : List KnotM) (p : ByteArray) : Nat → Nat
  | 0 => 0
  | k + 1 => if Op.bytesLess p.toList (l.getD k knotZ).1.toList then putAt l p k else k + 1
def putK (l : List KnotM) (p : ByteArray) : List KnotM := l.take (putAt l p l.length) ++ (p, []) :: l.drop (putAt l p l.length)

theorem kcells_append : ∀ (a b : List KnotM) (ua ub : List Value), ua.length = a.length → kcells (a ++ b) (ua ++ ub) = kcells a ua ++ kcells b ub
  | [], b, [], ub, _ => rfl
  | x :: a, b, u :: ua, ub, h => by simp only [List.length_cons, Nat.add_right_cancel_iff] at h; simp only [List.cons_append, kcells, kcells_append a b ua ub h]
  | [], _, _ :: _, _, h => by simp at h
  | _ :: _, _, [], _, h => by simp at h

theorem kcells_take {l : List KnotM} {us : List Value} (h : us.length = l.length) (k : Nat) (hk : k ≤ l.length) : (kcells l us).take (k * 2) = kcells (l.take k) (us.take k) := by
  have e := kcells_append (l.take k) (l.drop k) (us.take k) (us.drop k) (by simp [h])
  rw [List.take_append_drop, List.take_append_drop] at e
  rw [e, List.take_left' (by rw [kcells_length _ _ (by simp [h]), List.length_take]; omega)]

theorem kcells_drop {l : List KnotM} {us : List Value} (h : us.length = l.length) (k : Nat) (hk : k ≤ l.length) : (kcells l us).drop (k * 2) = kcells (l.drop k) (us.drop k) := by
  have e := kcells_append (l.take k) (l.drop k) (us.take k) (us.drop k) (by simp [h])
  rw [List.take_append_drop, List.take_append_drop] at e
  rw [e, List.drop_left' (by rw [kcells_length _ _ (by simp [h]), List.length_take]; omega)]

theorem kcells_one : ∀ (l : List KnotM) (us : List Value), (∀ u ∈ us, ∃ a n c, u = .slice a n c) → ∀ u ∈ kcells l us, u.oneCell' = true
  | x :: l, v :: us, h, u, hu => by
    rw [kcells] at hu
    rcases List.mem_cons.1 hu with rfl | hu
    · rfl
    · rcases List.mem_cons.1 hu with rfl | hu
      · obtain ⟨a, n, c, rfl⟩ := h u (by simp); rfl
      · exact kcells_one l us (fun u hu => h u (List.mem_cons_of_mem _ hu)) u hu
  | [], _, _, u, hu => by cases hu
  | _ :: _, [], _, u, hu => by cases hu

/-- A knot put between the others. -/
theorem KOwnU.insert {w w' : World} {B k : Nat} {v v' : Value} {l : List KnotM} {us : List Value} {p : ByteArray} (h : KOwnU w B v l us) (hg : GrownL w w' [v])
    (hr : w'.ownsRow B 43 2 v' (l.take k ++ (p, []) :: l.drop k).length (kcells (l.take k ++ (p, []) :: l.drop k) (us.take k ++ .slice none 0 0 :: us.drop k))) :
    KOwnU w' B v' (l.take k ++ (p, []) :: l.drop k) (us.take k ++ .slice none 0 0 :: us.drop k) := by
  have hne : 2 ≠ 43 := by decide
  have hlen := h.1
  have hkeep : ∀ {n : Nat} {y : Value} {z : List Value}, w.ownsRow B 2 1 y n z → w'.ownsRow B 2 1 y n z := fun hy => own_keptL hy hg fun t ht => by
    rw [List.mem_singleton.1 ht]; exact apart_types hy h.2.1 hne
  have hnum : ∀ j (h1 : j < (l.take k ++ (p, []) :: l.drop k).length) (h2 : j < (us.take k ++ .slice none 0 0 :: us.drop k).length),
      w'.ownsRow B 2 1 (us.take k ++ .slice none 0 0 :: us.drop k)[j] (l.take k ++ (p, []) :: l.drop k)[j].2.length (ints (l.take k ++ (p, []) :: l.drop k)[j].2) := fun j h1 h2 => by
    have hlt : (us.take k).length = (l.take k).length := by simp [hlen]
    rcases Nat.lt_trichotomy j (l.take k).length with hj | hj | hj
    · have hjl : j < l.length := by rw [List.length_take] at hj; omega
      rw [List.getElem_append_left (by rw [hlt]; exact hj), List.getElem_append_left hj, List.getElem_take, List.getElem_take]
      exact hkeep (h.2.2.1 j hjl (by rw [hlen]; exact hjl))
    · subst hj
      have e1 : (us.take k ++ .slice none 0 0 :: us.drop k)[(l.take k).length] = .slice none 0 0 := by rw [List.getElem_append_right (by rw [hlt]; exact Nat.le_refl _)]; simp [hlt]
      have e2 : (l.take k ++ (p, []) :: l.drop k)[(l.take k).length] = (p, []) := by rw [List.getElem_append_right (Nat.le_refl _)]; simp
      rw [e1, e2]
      exact World.ownsRow_nil _ _ _ _
    · obtain ⟨i, rfl⟩ : ∃ i, j = (l.take k).length + (i + 1) := ⟨j - (l.take k).length - 1, by omega⟩
      have h3 : k + i < l.length := by
        rw [List.length_append, List.length_cons, List.length_drop] at h1
        rw [List.length_take] at h1
        omega
      have e1 : (us.take k ++ .slice none 0 0 :: us.drop k)[(l.take k).length + (i + 1)] = us[k + i]'(by omega) := by
        rw [List.getElem_append_right (by rw [hlt]; omega)]
        simp only [hlt, Nat.add_sub_cancel_left, List.getElem_cons_succ, List.getElem_drop]
      have e2 : (l.take k ++ (p, []) :: l.drop k)[(l.take k).length + (i + 1)] = l[k + i] := by
        rw [List.getElem_append_right (by omega)]
        simp only [Nat.add_sub_cancel_left, List.getElem_cons_succ, List.getElem_drop]
      rw [e1, e2]
      exact hkeep (h.2.2.1 (k + i) h3 (by omega))
  refine ⟨by simp [hlen], hr, hnum, ?_⟩
  rw [List.pairwise_cons]
  refine ⟨fun y hy => ?_, ?_⟩
  · obtain ⟨j, hj, rfl⟩ := List.mem_iff_getElem.1 hy
    exact apart_types hr (hnum j (by simp at hj ⊢; omega) hj) (Ne.symm hne)
  · have hp := (List.pairwise_cons.1 h.2.2.2).2
    rw [List.pairwise_append]
    have h1 := List.Pairwise.sublist (List.take_sublist k us) hp
    have h2 := List.Pairwise.sublist (List.drop_sublist k us) hp
    refine ⟨h1, List.pairwise_cons.2 ⟨fun y _ => .inl rfl, h2⟩, fun y hy z hz => ?_⟩
    rcases List.mem_cons.1 hz with rfl | hz
    · exact Apart.symm (.inl rfl)
    · rw [← List.take_append_drop k us, List.pairwise_append] at hp
      exact hp.2.2 y hy z hz

theorem putK_at {l : List KnotM} {p : ByteArray} {k : Nat} (h : putAt l p l.length = k) : putK l p = l.take k ++ (p, []) :: l.drop k := by rw [putK, h]

theorem knots_src {w : World} {B g n cap k : Nat} {l : List KnotM} {us : List Value} (h : KOwnU w B (.slice (some ⟨g, 0, none⟩) n cap) l us) (hn : n = l.length) (hk : k ≤ l.length) (c' : Nat) :
    SrcAt w (.slice (some ⟨g, k * 2, none⟩) (l.length - k) c') (l.length - k) (kcells (l.drop k) (us.drop k)) := by
  subst hn
  refine ⟨_, _, rfl, .inr ⟨_, rfl, fun j u hu => ?_⟩⟩
  rw [← kcells_drop h.1 k hk, List.getElem?_drop] at hu
  have := h.2.1.cells (g := g) rfl (k * 2 + j) u hu
  rw [Addr.add_lit] at this ⊢
  rw [Nat.zero_add] at this
  exact this

end Go.Proofs.YtcpoodhbakkmcaaGreatDoor

/- A row of knots of which one is changed, read again. -/
namespace Go.Proofs.YtcpoodhbakkmcaaGreatDoor
open Go.RowKit

/-- An own row of knots, with own rows of numbers (whether they share blocks or not). -/
def KRd (w : World) (B : Nat) (v : Value) (l : List KnotM) : Prop :=
  ∃ us : List Value, us.length = l.length ∧ w.ownsRow B 43 2 v l.length (kcells l us) ∧ ∀ j (h : j < l.length) (h2 : j < us.length), w.ownsRow B 2 1 us[j] l[j].2.length (ints l[j].2)

theorem KOwnU.rd {w : World} {B : Nat} {v : Value} {l : List KnotM} {us : List Value} (h : KOwnU w B v l us) : KRd w B v l := ⟨us, h.1, h.2.1, h.2.2.1⟩
theorem KOwn.rd {w : World} {B : Nat} {v : Value} {l : List KnotM} (h : KOwn w B v l) : KRd w B v l := by obtain ⟨us, h⟩ := h; exact h.rd

theorem KRd.at {w : World} {B : Nat} {v : Value} {l : List KnotM} (h : KRd w B v l) : KnotsAt w v l := by
  obtain ⟨us, h1, h2, h3⟩ := h
  rcases h2.2 with ⟨rfl, h0⟩ | ⟨g, cap, cur, rfl, _, _, h4, h5, _, _⟩
  · exact ⟨none, 0, by rw [h0], by omega, by unfold maxLen; omega, .inl (List.length_eq_zero_iff.1 h0)⟩
  · refine ⟨_, cap, rfl, h4, h5, .inr ⟨g, 0, rfl, fun j hj => ⟨?_, us[j], ?_, own_ints_at (h3 j hj (by omega))⟩⟩⟩
    · rw [Nat.zero_add, h2.cellAt _ (by omega), kcells_path l us j hj h1]
    · rw [Nat.zero_add, h2.cellAt _ (by omega), kcells_ids l us j (by omega) h1]

theorem KRd.below {w w' : World} {B : Nat} {v : Value} {l : List KnotM} (h : KRd w B v l) (hb : Below w.heap.size w w') : KRd w' B v l := by
  obtain ⟨us, h1, h2, h3⟩ := h
  exact ⟨us, h1, row_below h2 hb, fun j a b => row_below (h3 j a b) hb⟩

theorem kcells_path_set : ∀ (l : List KnotM) (us : List Value) (j : Nat) (p : ByteArray), us.length = l.length → (h : j < l.length) →
    (kcells l us).set (j * 2) (.string p) = kcells (l.set j (p, l[j].2)) us
  | y :: l, v :: us, 0, p, _, _ => rfl
  | y :: l, v :: us, j + 1, p, e, h => by
    simp only [List.length_cons, Nat.add_right_cancel_iff] at e
    rw [show (j + 1) * 2 = j * 2 + 1 + 1 by omega]
    simp only [kcells, List.set_cons_succ, List.getElem_cons_succ]
    rw [kcells_path_set l us j p e (by simpa using h)]
  | y :: l, [], _, _, e, _ => by simp at e

theorem kcells_ids_set : ∀ (l : List KnotM) (us : List Value) (j : Nat) (z : List Int) (u : Value), us.length = l.length → (h : j < l.length) →
    (kcells l us).set (j * 2 + 1) u = kcells (l.set j (l[j].1, z)) (us.set j u)
  | y :: l, v :: us, 0, z, u, _, _ => rfl
  | y :: l, v :: us, j + 1, z, u, e, h => by
    simp only [List.length_cons, Nat.add_right_cancel_iff] at e
    rw [show (j + 1) * 2 + 1 = j * 2 + 1 + 1 + 1 by omega]
    simp only [kcells, List.set_cons_succ, List.getElem_cons_succ]
    rw [kcells_ids_set l us j z u e (by simpa using h)]
  | y :: l, [], _, _, _, e, _ => by simp at e

theorem KOwnU.off {w : World} {B g n cap j : Nat} {l : List KnotM} {us : List Value} (h : KOwnU w B (.slice (some ⟨g, 0, none⟩) n cap) l us) (h1 : j < us.length) : us[j].ownBlock ≠ some g := by
  have := (List.pairwise_cons.1 h.2.2.2).1 us[j] (List.getElem_mem _)
  rcases this with h | h
  · cases h
  · exact fun e => h e.symm

/-- Another path. -/
theorem KOwnU.newPath {w : World} {B g n cap k : Nat} {l : List KnotM} {us : List Value} (h : KOwnU w B (.slice (some ⟨g, 0, none⟩) n cap) l us) (hn : n = l.length) (hk : k < l.length) (p : ByteArray) :
    KRd (w.setCell ⟨g, k * 2, none⟩ (.string p)) B (.slice (some ⟨g, 0, none⟩) n cap) (l.set k (p, l[k].2)) := by
  subst hn
  refine ⟨us, by simp [h.1], ?_, fun j h1 h2 => ?_⟩
  · rw [List.length_set, ← kcells_path_set l us k p h.1 hk]
    exact (h.2.1.stored _ _).1
  · rw [List.length_set] at h1
    have e : (l.set k (p, l[k].2))[j].2 = l[j].2 := by
      rw [List.getElem_set]
      split
      · rename_i e; subst e; rfl
      · rfl
    rw [e]
    exact own_kept (h.2.2.1 j h1 h2) (h.off h2)

/-- Other numbers, in the row that was there or in another. -/
theorem KOwnU.newIds {w w' : World} {B g n cap k : Nat} {l : List KnotM} {us : List Value} (h : KOwnU w B (.slice (some ⟨g, 0, none⟩) n cap) l us) (hn : n = l.length) (hk : k < l.length) (hu : k < us.length)
    (hG : GrownL w w' [us[k]]) {v' : Value} {z : List Int} (hv : w'.ownsRow B 2 1 v' z.length (ints z)) :
    KRd (w'.setCell ⟨g, k * 2 + 1, none⟩ v') B (.slice (some ⟨g, 0, none⟩) n cap) (l.set k (l[k].1, z)) := by
  subst hn
  have hne : 2 ≠ 43 := by decide
  have hap := List.pairwise_cons.1 h.2.2.2
  have hO : w'.ownsRow B 43 2 (.slice (some ⟨g, 0, none⟩) l.length cap) l.length (kcells l us) :=
    own_keptL h.2.1 hG fun x hx => by rw [List.mem_singleton.1 hx]; exact hap.1 _ (List.getElem_mem _)
  have hvg : v'.ownBlock ≠ some g := by
    rcases apart_types hv hO hne with e | e
    · rw [e]; intro e2; cases e2
    · exact e
  refine ⟨us.set k v', by simp [h.1], ?_, fun j h1 h2 => ?_⟩
  · rw [List.length_set, ← kcells_ids_set l us k z v' h.1 hk]
    exact (hO.stored _ _).1
  · rw [List.length_set] at h1 h2
    simp only [List.getElem_set]
    split
    · exact own_kept hv hvg
    · rename_i hkj
      refine own_kept (own_keptL (h.2.2.1 j h1 h2) hG fun x hx => ?_) (h.off h2)
      rw [List.mem_singleton.1 hx]
      have hp := List.pairwise_iff_getElem.1 hap.2
      rcases Nat.lt_trichotomy j k with hlt | heq | hlt
      · exact hp j k h2 hu hlt
      · exact absurd heq.symm hkj
      · exact (hp k j hu h2 hlt).symm

/-- One knot more. -/
theorem KOwnU.newKnot {w w' : World} {B : Nat} {v v' u : Value} {l : List KnotM} {us : List Value} {x : KnotM} (h : KOwnU w B v l us) (hG : GrownL w w' [v])
    (hu : w.ownsRow B 2 1 u x.2.length (ints x.2)) (hr : w'.ownsRow B 43 2 v' (l.length + 1) (kcells l us ++ [.string x.1, u])) : KRd w' B v' (l ++ [x]) := by
  have hne : 2 ≠ 43 := by decide
  refine ⟨us ++ [u], by simp [h.1], ?_, fun j h1 h2 => ?_⟩
  · rw [kcells_append _ _ _ _ h.1, List.length_append]
    exact hr
  · have hl := h.1
    have key : ∀ {y : Value} {m : Nat} {zs : List Value}, w.ownsRow B 2 1 y m zs → w'.ownsRow B 2 1 y m zs := fun hy => own_keptL hy hG fun z hz => by rw [List.mem_singleton.1 hz]; exact apart_types hy h.2.1 hne
    by_cases hj : j < l.length
    · have e1 : (us ++ [u])[j] = us[j] := by rw [List.getElem_append_left]
      have e2 : (l ++ [x])[j] = l[j] := by rw [List.getElem_append_left]
      rw [e1, e2]
      exact key (h.2.2.1 j hj (by omega))
    · have hj2 : j = l.length := by simp at h1; omega
      subst hj2
      have e1 : (us ++ [u])[l.length] = u := by simp [List.getElem_append_right, hl]
      have e2 : (l ++ [x])[l.length] = x := by simp
      rw [e1, e2]
      exact key hu

end Go.Proofs.YtcpoodhbakkmcaaGreatDoor

/- WithId's lists. Of no function. -/
namespace Go.Proofs.YtcpoodhbakkmcaaGreatDoor
open Go.RowKit

theorem find_from_pos (p : ByteArray) : ∀ (l : List KnotM) (k : Nat), 0 ≤ findFrom p l k → ∃ j, ∃ h : j < l.length, findFrom p l k = ((k + j : Nat) : Int) ∧ l[j].1.toList = p.toList
  | [], k, h => by simp [findFrom] at h
  | a :: l, k, h => by
    rw [findFrom] at h ⊢
    by_cases e : a.1.toList = p.toList
    · rw [if_pos (beq_iff_eq.2 e)]
      exact ⟨0, by simp, rfl, e⟩
    · rw [if_neg (by rw [beq_iff_eq]; exact e)] at h ⊢
      obtain ⟨j, hj, h1, h2⟩ := find_from_pos p l (k + 1) h
      exact ⟨j + 1, by simpa using hj, by rw [h1]; congr 1; omega, h2⟩

theorem find_pos {l : List KnotM} {p : ByteArray} (h : 0 ≤ find l p) : ∃ j, ∃ h : j < l.length, find l p = (j : Int) ∧ l[j].1.toList = p.toList := by
  obtain ⟨j, hj, h1, h2⟩ := find_from_pos p l 0 h
  exact ⟨j, hj, by rw [find, h1, Nat.zero_add], h2⟩

theorem find_from_mem (p : ByteArray) : ∀ (l : List KnotM) (k : Nat), (∃ x ∈ l, x.1.toList = p.toList) → 0 ≤ findFrom p l k
  | [], k, h => by obtain ⟨x, hx, _⟩ := h; cases hx
  | a :: l, k, h => by
    rw [findFrom]
    by_cases e : a.1.toList = p.toList
    · rw [if_pos (beq_iff_eq.2 e)]; omega
    · rw [if_neg (by rw [beq_iff_eq]; exact e)]
      refine find_from_mem p l (k + 1) ?_
      obtain ⟨x, hx, hxp⟩ := h
      rcases List.mem_cons.1 hx with rfl | hx
      · exact absurd hxp e
      · exact ⟨x, hx, hxp⟩

def put1 (l : List KnotM) (p : ByteArray) : List KnotM := if 0 ≤ find l p then l else putK l p
/-- The knots of all paths to p (at most n of them). -/
def putsN : Nat → List KnotM → ByteArray → List KnotM
  | 0, l, _ => l
  | n + 1, l, p => if p.toList = [] then l else putsN n (put1 l p) (above p)

theorem putsN_stop {n : Nat} {l : List KnotM} {p : ByteArray} (h : p.toList = []) : putsN n l p = l := by
  cases n with
  | zero => rfl
  | succ n => rw [putsN, if_pos h]

theorem put1_length (l : List KnotM) (p : ByteArray) : (put1 l p).length ≤ l.length + 1 ∧ l.length ≤ (put1 l p).length := by
  unfold put1 putK
  split
  · omega
  · simp; omega

theorem put1_keeps {l : List KnotM} {p : ByteArray} {x : KnotM} (h : x ∈ l) : x ∈ put1 l p := by
  unfold put1 putK
  split
  · exact h
  · rw [← List.take_append_drop (putAt l p l.length) l, List.mem_append] at h
    rw [List.mem_append, List.mem_cons]
    rcases h with h | h
    · exact .inl h
    · exact .inr (.inr h)

theorem put1_mem {l : List KnotM} {p : ByteArray} {x : KnotM} (h : x ∈ put1 l p) : x ∈ l ∨ x.2 = [] := by
  unfold put1 putK at h
  split at h
  · exact .inl h
  · rw [List.mem_append, List.mem_cons] at h
    rcases h with h | rfl | h
    · exact .inl (List.mem_of_mem_take h)
    · exact .inr rfl
    · exact .inl (List.mem_of_mem_drop h)

def IdsSmall (l : List KnotM) : Prop := ∀ x ∈ l, x.2.length ≤ 1048576
theorem IdsSmall.put {l : List KnotM} {p : ByteArray} (h : IdsSmall l) : IdsSmall (put1 l p) := fun x hx => by
  rcases put1_mem hx with h1 | h1
  · exact h x h1
  · rw [h1]; simp

theorem put1_has (l : List KnotM) (p : ByteArray) : ∃ x ∈ put1 l p, x.1.toList = p.toList := by
  unfold put1
  split
  · rename_i h
    obtain ⟨j, hj, _, h2⟩ := find_pos h
    exact ⟨l[j], List.getElem_mem hj, h2⟩
  · exact ⟨(p, []), by unfold putK; simp, rfl⟩

theorem putsN_keeps : ∀ (n : Nat) (l : List KnotM) (p : ByteArray) (x : KnotM), x ∈ l → x ∈ putsN n l p
  | 0, _, _, _, h => h
  | n + 1, l, p, x, h => by
    rw [putsN]; split
    · exact h
    · exact putsN_keeps n _ _ x (put1_keeps h)

theorem putsN_has {n : Nat} {l : List KnotM} {p : ByteArray} (hn : 1 ≤ n) (hp : p.toList ≠ []) : ∃ x ∈ putsN n l p, x.1.toList = p.toList := by
  obtain ⟨m, rfl⟩ : ∃ m, n = m + 1 := ⟨n - 1, by omega⟩
  rw [putsN, if_neg hp]
  obtain ⟨x, hx, e⟩ := put1_has l p
  exact ⟨x, putsN_keeps m _ _ x hx, e⟩

theorem aboveTo_size (s : ByteArray) : ∀ k, k ≤ s.size → (aboveTo s k).size ≤ k - 1
  | 0, _ => by rw [aboveTo]; exact Nat.le_refl _
  | k + 1, h => by
    rw [aboveTo]; split
    · show (s.extract 0 k).data.size ≤ _
      rw [← Array.length_toList, extract_list]; simp; omega
    · have := aboveTo_size s k (by omega); omega

theorem above_size (s : ByteArray) : (above s).size ≤ s.size - 1 := aboveTo_size s s.size (Nat.le_refl _)

theorem size_pos {s : ByteArray} (h : s.toList ≠ []) : 1 ≤ s.size := by
  rw [Lib.toList_data] at h
  show 1 ≤ s.data.size
  rw [← Array.length_toList]
  cases e : s.data.toList with
  | nil => exact absurd e h
  | cons => simp

/-- 'WithId'. -/
def badId (l : List KnotM) (f : ByteArray) (id : Int) : Bool := !(filterP (parts f 47)) || (!(idOk id) || (decide (0 ≤ find l f) && hasId (l.getD (find l f).toNat knotZ).2 id))
def setIds (l : List KnotM) (k : Nat) (id : Int) : List KnotM := l.set k ((l.getD k knotZ).1, into (l.getD k knotZ).2 id)
def withL (l : List KnotM) (f : ByteArray) (id : Int) : List KnotM × Bool :=
  if trieB l then (if badId l f id then (l, false) else (setIds (putsN f.size l f) (find (putsN f.size l f) f).toNat id, true)) else ([], false)

/-- One knot's numbers laid anew. -/
theorem KOwnU.setIds {w : World} {B g n cap k : Nat} {l : List KnotM} {us : List Value} {z : List Int} {u : Value} (h : KOwnU w B (.slice (some ⟨g, 0, none⟩) n cap) l us) (hn : n = l.length) (hk : k < l.length)
    (ho : w.ownsRow B 2 1 u z.length (ints z)) (hu : ∀ y ∈ us, Apart u y) : KOwnU (w.setCell ⟨g, k * 2 + 1, none⟩ u) B (.slice (some ⟨g, 0, none⟩) n cap) (l.set k (l[k].1, z)) (us.set k u) := by
  subst hn
  have hne : 2 ≠ 43 := by decide
  have hap := h.2.2.2
  have hug : u.ownBlock ≠ some g := by
    rcases apart_types ho h.2.1 hne with e | e
    · rw [e]; intro e2; cases e2
    · exact e
  have hkc := kcells_length l us h.1
  have hpk : (kcells l us).set (k * 2) (.string l[k].1) = kcells l us := by
    apply List.ext_getElem?
    intro i
    rw [List.getElem?_set]
    split
    · rename_i e
      subst e
      rw [if_pos (by rw [hkc]; omega), kcells_path l us k hk h.1]
    · rfl
  have hrow : (w.setCell ⟨g, k * 2 + 1, none⟩ u).ownsRow B 43 2 (.slice (some ⟨g, 0, none⟩) l.length cap) (l.set k (l[k].1, z)).length (kcells (l.set k (l[k].1, z)) (us.set k u)) := by
    rw [List.length_set, ← kcells_set l us k (l[k].1, z) u h.1 hk, hpk]
    exact (h.2.1.stored _ _).1
  refine ⟨by simp [h.1], hrow, fun j h1 h2 => ?_, ?_⟩
  · rw [List.length_set] at h1 h2
    rw [List.getElem_set]
    simp only [List.getElem_set]
    split
    · exact own_kept ho hug
    · have hne2 : us[j].ownBlock ≠ some g := by
        rcases apart_types (h.2.2.1 j h1 h2) h.2.1 hne with e | e
        · rw [e]; intro e2; cases e2
        · exact e
      exact own_kept (h.2.2.1 j h1 h2) hne2
  · exact apart_set hap fun y hy => by
      rcases List.mem_cons.1 hy with rfl | hy
      · exact apart_types ho h.2.1 hne
      · exact hu y hy

theorem KOwn.mono {w : World} {A B : Nat} {v : Value} {l : List KnotM} (h : KOwn w B v l) (hb : A ≤ B) : KOwn w A v l := by
  obtain ⟨us, h1, h2, h3, h4⟩ := h
  exact ⟨us, h1, own_mono h2 hb, fun j a b => own_mono (h3 j a b) hb, h4⟩

theorem KOwnU.cells {w : World} {B : Nat} {v : Value} {l : List KnotM} {us : List Value} (h : KOwnU w B v l us) (hp : 0 < l.length) :
    ∃ g c cur, v = .slice (some ⟨g, 0, none⟩) l.length c ∧ B ≤ g ∧ w.heap[g]? = some (.cells cur 43 (0, 0)) := by
  rcases h.2.1.2 with ⟨_, h0⟩ | ⟨g, cap, cur, h1, h2, h3, _⟩
  · omega
  · exact ⟨g, cap, cur, h1, h2, h3⟩

theorem k2c {w w' : World} {B : Nat} {v : Value} {l : List KnotM} (h : KOwn w B v l) (hb : Below w.heap.size w w') : KOwn w' B v l := h.below hb

end Go.Proofs.YtcpoodhbakkmcaaGreatDoor

/- (STrie9, what names no function of the laws.) -/
namespace Go.Proofs.YtcpoodhbakkmcaaGreatDoor
open Go.RowKit

def idsStep (t : ByteArray) (out : List Int) (x : KnotM) : List Int := if matchB x.1 t then x.2.foldl addId out else out
def idsTo (l : List KnotM) (t : ByteArray) (k : Nat) : List Int := ((l.take k).drop 1).foldl (idsStep t) []
/-- 'IdsFor'. -/
def idsL (l : List KnotM) (t : ByteArray) : List Int := if trieB l then (l.drop 1).foldl (idsStep t) [] else []

theorem idsTo_next {l : List KnotM} {t : ByteArray} {k : Nat} (h : k < l.length) (h1 : 1 ≤ k) : idsTo l t (k + 1) = idsStep t (idsTo l t k) l[k] := by
  unfold idsTo
  rw [List.take_succ_eq_append_getElem h, List.drop_append_of_le_length (by rw [List.length_take]; omega), List.foldl_append]; rfl

theorem foldl_rises : ∀ (ids out : List Int), (∀ x ∈ ids, idOk x = true) → rises out = true → rises (ids.foldl addId out) = true
  | [], _, _, h => h
  | x :: ids, out, h1, h => foldl_rises ids (addId out x) (fun y hy => h1 y (List.mem_cons_of_mem _ hy)) (addId_rises h (h1 x (by simp)))

theorem knot_rises {l : List KnotM} (h : trieB l = true) {k : Nat} (hk : k < l.length) (h1 : 1 ≤ k) : rises l[k].2 = true := by
  cases e : rises l[k].2
  · rw [knotsTo_bad h1 hk (by rw [knotOk, e]; simp)] at h; cases h
  · rfl

end Go.Proofs.YtcpoodhbakkmcaaGreatDoor
