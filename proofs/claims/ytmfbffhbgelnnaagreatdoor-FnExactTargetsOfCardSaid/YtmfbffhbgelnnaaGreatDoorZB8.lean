/- Small texts, laid together. -/
import Derived.Test.YtmfbffhbgelnnaaGreatDoorZB2
import Derived.Test.YtmfbffhbgelnnaaGreatDoorZB1
import Derived.Test.YtmfbffhbgelnnaaGreatDoorZSTrie4
import Derived.Test.YtmfbffhbgelnnaaGreatDoorZNode2
import Derived.Test.YtmfbffhbgelnnaaGreatDoorZB3
import Derived.Deep.RegionHeld
import Derived.Deep.DeepCutAuto
import Derived.Deep.CutBlock
import Derived.Test.YtmfbffhbgelnnaaGreatDoorZSTrie2
import Derived.Test.YtmfbffhbgelnnaaGreatDoorZB6
import Derived.Test.YtmfbffhbgelnnaaGreatDoorZB7
set_option linter.unusedSimpArgs false
set_option linter.unusedVariables false
/- The program's tree: what a change of one node leaves. -/
namespace Go.Proofs.YtmfbffhbgelnnaaGreatDoor
open Go.RowKit

theorem free_of_heap {w : World} {g j : Nat} {cur : Array Value} {e : TypeId} (h : w.heap[g]? = some (.cells cur e (0, 0))) : w.frozen? ⟨g, j, none⟩ = false := by simp [World.frozen?, h]

theorem heap_setCell {w : World} {g j : Nat} {cur : Array Value} {e : TypeId} {f : Nat × Nat} {v : Value} (h : w.heap[g]? = some (.cells cur e f)) : (w.setCell ⟨g, j, none⟩ v).heap[g]? = some (.cells (cur.setIfInBounds j v) e f) := by
  simp [World.setCell, Array.getElem?_modify, h]

def boxV (x : NodeM) : Value := .slice (some ⟨x.ptr, 0, none⟩) 0 0

theorem boxV_block (x : NodeM) : (boxV x).ownBlock = some x.ptr := rfl

theorem Nodes.below {w w' : World} {B : Nat} {T : List NodeM} (h : Nodes w B T) (hb : Below w.heap.size w w') : Nodes w' B T :=
  ⟨fun x hx => ⟨(h.box x hx).1, (hb.block _ (Array.getElem?_eq_some_iff.1 (h.box x hx).2).1).trans (h.box x hx).2⟩, fun x hx => row_below (h.ids x hx) hb, fun x hx => row_below (h.kid x hx) hb, h.apart⟩

theorem Apart3.symm {y z : NodeM} (h : Apart3 y z) : Apart3 z y := ⟨Ne.symm h.1, h.2.1.symm, h.2.2.symm⟩

/-- A row of another type than the nodes' lies in no node's block. -/
theorem box_apart {w : World} {B n size : Nat} {E : TypeId} {v : Value} {xs : List Value} {x : NodeM} (h : w.ownsRow B E size v n xs) (hx : BoxAt w x) (hne : E ≠ 146) : Apart v (boxV x) := by
  have := own_not_at h hx hne
  exact .inr this

def NewRow (w : World) (v : Value) : Prop := ∀ b, v.ownBlock = some b → w.heap.size ≤ b

theorem new_apart {w : World} {B n size : Nat} {E : TypeId} {v u : Value} {xs : List Value} (h : w.ownsRow B E size v n xs) (hu : NewRow w u) : Apart v u := by
  cases e : v.ownBlock with
  | none => exact .inl e
  | some b => exact .inr (fun e2 => by have h1 := (h.lt b e).2; have h2 := hu b (by rw [← e2, e]); omega)

/-- One node of T has become x' (its path and its block are as they were), one new node may have come, some others gone. -/
theorem Nodes.turn {w W : World} {B : Nat} {T T' : List NodeM} {x x' N : NodeM} (h : Nodes w B T) (hT' : TreeOk T') (hx : x ∈ T) (hg : GrownL w W [boxV x, x.idsV, x.kidsV]) (hpath : x'.path = x.path) (hptr : x'.ptr = x.ptr)
    (hbox : BoxAt W x') (hids : W.ownsRow B 2 1 x'.idsV x'.ids.length (ints x'.ids)) (hkid : W.ownsRow B 122 1 x'.kidsV (kids T' x.path).length (ptrs (kids T' x.path)))
    (hi : x'.idsV.ownBlock = x.idsV.ownBlock ∨ NewRow w x'.idsV) (hk : x'.kidsV.ownBlock = x.kidsV.ownBlock ∨ NewRow w x'.kidsV)
    (hmem : ∀ y ∈ T', (y ∈ T ∧ y.path ≠ x.path ∧ ptrs (kids T' y.path) = ptrs (kids T y.path)) ∨ y = x' ∨ y = N)
    (hN : N ∈ T' → N ≠ x' → N.path ≠ x.path ∧ B ≤ N.ptr ∧ w.heap.size ≤ N.ptr ∧ BoxAt W N ∧ W.ownsRow B 2 1 N.idsV N.ids.length (ints N.ids) ∧ W.ownsRow B 122 1 N.kidsV (kids T' N.path).length (ptrs (kids T' N.path)) ∧
      NewRow w N.idsV ∧ NewRow w N.kidsV ∧ Apart x'.idsV N.idsV ∧ Apart x'.kidsV N.kidsV) : Nodes W B T' := by
  have n1 : 2 ≠ 146 := by decide
  have n2 : 122 ≠ 146 := by decide
  have n3 : 2 ≠ 122 := by decide
  have hbx := (h.box x hx).2
  have kI : ∀ y ∈ T, y.path ≠ x.path → ∀ v ∈ [boxV x, x.idsV, x.kidsV], Apart y.idsV v := fun y hy hne v hv => by
    rcases List.mem_cons.1 hv with rfl | hv
    · exact box_apart (h.ids y hy) hbx n1
    · rcases List.mem_cons.1 hv with rfl | hv
      · exact (h.apart y hy x hx hne).2.1
      · rw [List.mem_singleton.1 hv]; exact apart_types (h.ids y hy) (h.kid x hx) n3
  have kK : ∀ y ∈ T, y.path ≠ x.path → ∀ v ∈ [boxV x, x.idsV, x.kidsV], Apart y.kidsV v := fun y hy hne v hv => by
    rcases List.mem_cons.1 hv with rfl | hv
    · exact box_apart (h.kid y hy) hbx n2
    · rcases List.mem_cons.1 hv with rfl | hv
      · exact apart_types (h.kid y hy) (h.ids x hx) (Ne.symm n3)
      · rw [List.mem_singleton.1 hv]; exact (h.apart y hy x hx hne).2.2
  have kB : ∀ y ∈ T, y.path ≠ x.path → BoxAt W y := fun y hy hne => by
    refine (hg.block y.ptr (Array.getElem?_eq_some_iff.1 (h.box y hy).2).1 fun v hv e => ?_).trans (h.box y hy).2
    rcases List.mem_cons.1 hv with rfl | hv
    · rw [boxV_block] at e; exact (h.apart y hy x hx hne).1 (Option.some.inj e).symm
    · rcases List.mem_cons.1 hv with rfl | hv
      · exact own_not_at (h.ids x hx) (h.box y hy).2 n1 e
      · rw [List.mem_singleton.1 hv] at e; exact own_not_at (h.kid x hx) (h.box y hy).2 n2 e
  have split : ∀ y ∈ T', (y ∈ T ∧ y.path ≠ x.path ∧ ptrs (kids T' y.path) = ptrs (kids T y.path)) ∨ y = x' ∨ (y = N ∧ N ≠ x') := fun y hy => by
    rcases hmem y hy with h1 | h1 | h1
    · exact .inl h1
    · exact .inr (.inl h1)
    · by_cases e : N = x'
      · exact .inr (.inl (h1.trans e))
      · exact .inr (.inr ⟨h1, e⟩)
  have old_x : ∀ y ∈ T, y.path ≠ x.path → Apart3 y x' := fun y hy hne => by
    refine ⟨by rw [hptr]; exact (h.apart y hy x hx hne).1, ?_, ?_⟩
    · rcases hi with e | e
      · have := (h.apart y hy x hx hne).2.1; unfold Apart at this ⊢; rw [e]; exact this
      · exact new_apart (h.ids y hy) e
    · rcases hk with e | e
      · have := (h.apart y hy x hx hne).2.2; unfold Apart at this ⊢; rw [e]; exact this
      · exact new_apart (h.kid y hy) e
  refine ⟨fun y hy => ?_, fun y hy => ?_, fun y hy => ?_, fun y hy z hz hne => ?_⟩
  · rcases split y hy with ⟨h1, h2, h3⟩ | rfl | ⟨rfl, he⟩
    · exact ⟨(h.box y h1).1, kB y h1 h2⟩
    · exact ⟨by rw [hptr]; exact (h.box x hx).1, hbox⟩
    · exact ⟨(hN hy he).2.1, (hN hy he).2.2.2.1⟩
  · rcases split y hy with ⟨h1, h2, h3⟩ | rfl | ⟨rfl, he⟩
    · exact own_keptL (h.ids y h1) hg (kI y h1 h2)
    · exact hids
    · exact (hN hy he).2.2.2.2.1
  · rcases split y hy with ⟨h1, h2, h3⟩ | rfl | ⟨rfl, he⟩
    · have := own_keptL (h.kid y h1) hg (kK y h1 h2)
      rw [← h3] at this
      have e : (kids T' y.path).length = (kids T y.path).length := by have := congrArg List.length h3; simpa [ptrs] using this
      rw [e]; exact this
    · rw [hpath]; exact hkid
    · exact (hN hy he).2.2.2.2.2.1
  · rcases split y hy with ⟨h1, h2, h3⟩ | rfl | ⟨rfl, he⟩
    · rcases split z hz with ⟨k1, k2, k3⟩ | rfl | ⟨rfl, he2⟩
      · exact h.apart y h1 z k1 hne
      · exact old_x y h1 h2
      · have hn := hN hz he2
        exact ⟨by have := (Array.getElem?_eq_some_iff.1 (h.box y h1).2).1; omega, new_apart (h.ids y h1) hn.2.2.2.2.2.2.1, new_apart (h.kid y h1) hn.2.2.2.2.2.2.2.1⟩
    · rcases split z hz with ⟨k1, k2, k3⟩ | rfl | ⟨rfl, he2⟩
      · exact (old_x z k1 k2).symm
      · exact absurd rfl hne
      · have hn := hN hz he2
        exact ⟨by have := (Array.getElem?_eq_some_iff.1 (h.box x hx).2).1; rw [hptr]; omega, hn.2.2.2.2.2.2.2.2.1, hn.2.2.2.2.2.2.2.2.2⟩
    · have hn := hN hy he
      rcases split z hz with ⟨k1, k2, k3⟩ | rfl | ⟨rfl, he2⟩
      · exact Apart3.symm (y := z) (z := y) ⟨by have := (Array.getElem?_eq_some_iff.1 (h.box z k1).2).1; omega, new_apart (h.ids z k1) hn.2.2.2.2.2.2.1, new_apart (h.kid z k1) hn.2.2.2.2.2.2.2.1⟩
      · exact Apart3.symm (y := z) (z := y) ⟨by have := (Array.getElem?_eq_some_iff.1 (h.box x hx).2).1; rw [hptr]; omega, hn.2.2.2.2.2.2.2.2.1, hn.2.2.2.2.2.2.2.2.2⟩
      · exact absurd rfl hne

end Go.Proofs.YtmfbffhbgelnnaaGreatDoor

/- The program's tree: a node more. -/
namespace Go.Proofs.YtmfbffhbgelnnaaGreatDoor
open Go.RowKit

/-- What a list of paths is like. -/
structure PathsOk (L : List (List (List UInt8))) : Prop where
  closed : ∀ P ∈ L, P ≠ [] → P.dropLast ∈ L
  good : ∀ P ∈ L, Good P
  sorted : L.Pairwise fun P Q => less (jl P) (jl Q) = true

theorem treeOk_iff {T : List NodeM} : TreeOk T ↔ PathsOk (T.map (·.path)) := by
  constructor
  · intro h
    refine ⟨fun P hP hne => ?_, fun P hP => ?_, ?_⟩
    · obtain ⟨x, hx, rfl⟩ := List.mem_map.1 hP
      obtain ⟨y, hy, e⟩ := h.closed x hx hne
      exact List.mem_map.2 ⟨y, hy, e⟩
    · obtain ⟨x, hx, rfl⟩ := List.mem_map.1 hP
      exact h.good x hx
    · exact List.pairwise_map.2 h.sorted
  · intro h
    refine ⟨fun x hx hne => ?_, fun x hx => h.good _ (List.mem_map_of_mem hx), List.pairwise_map.1 h.sorted⟩
    obtain ⟨y, hy, e⟩ := List.mem_map.1 (h.closed _ (List.mem_map_of_mem hx) hne)
    exact ⟨y, hy, e⟩

/-- The children of p in a list that differs in its nodes' fields alone. -/
theorem kids_map {T : List NodeM} {f : NodeM → NodeM} (hf : ∀ y ∈ T, (f y).path = y.path ∧ (f y).ptr = y.ptr) (p : List (List UInt8)) : ptrs (kids (T.map f) p) = ptrs (kids T p) := by
  induction T with
  | nil => rfl
  | cons a T ih =>
    have ih := ih (fun y hy => hf y (List.mem_cons_of_mem _ hy))
    have ha := hf a (by simp)
    unfold kids ptrs at ih ⊢
    have e : NodeM.isKid p (f a) = NodeM.isKid p a := by unfold NodeM.isKid; rw [ha.1]
    rw [List.map_cons, List.filter_cons, List.filter_cons, e]
    split
    · rw [List.map_cons, List.map_cons, ih, ha.2]
    · exact ih

def setKids (T : List NodeM) (P : List (List UInt8)) (v : Value) : List NodeM := T.map fun y => if y.path = P then { y with kidsV := v } else y

theorem setKids_paths (T : List NodeM) (P : List (List UInt8)) (v : Value) : (setKids T P v).map (·.path) = T.map (·.path) := by
  unfold setKids; rw [List.map_map]; apply List.map_congr_left; intro y _; simp only [Function.comp]; split <;> rfl
theorem setKids_keys (T : List NodeM) (P : List (List UInt8)) (v : Value) : (setKids T P v).map (fun x => (x.path, x.ids)) = T.map (fun x => (x.path, x.ids)) := by
  unfold setKids; rw [List.map_map]; apply List.map_congr_left; intro y _; simp only [Function.comp]; split <;> rfl
theorem setKids_kids (T : List NodeM) (P Q : List (List UInt8)) (v : Value) : ptrs (kids (setKids T P v) Q) = ptrs (kids T Q) :=
  kids_map (fun y _ => by constructor <;> (split <;> rfl)) Q

theorem kids_append (T U : List NodeM) (p : List (List UInt8)) : kids (T ++ U) p = kids T p ++ kids U p := List.filter_append ..
theorem ptrs_append (T U : List NodeM) : ptrs (T ++ U) = ptrs T ++ ptrs U := List.map_append ..

/-- The paths with one more behind them. -/
theorem PathsOk.push {L : List (List (List UInt8))} {P : List (List UInt8)} (h : PathsOk L) (hP : Good P) (hd : P.dropLast ∈ L) (hs : ∀ Q ∈ L, less (jl Q) (jl P) = true) : PathsOk (L ++ [P]) := by
  refine ⟨fun Q hQ hne => ?_, fun Q hQ => ?_, ?_⟩
  · rcases List.mem_append.1 hQ with h1 | h1
    · exact List.mem_append_left _ (h.closed Q h1 hne)
    · rw [List.mem_singleton.1 h1]; exact List.mem_append_left _ hd
  · rcases List.mem_append.1 hQ with h1 | h1
    · exact h.good Q h1
    · rw [List.mem_singleton.1 h1]; exact hP
  · rw [List.pairwise_append]
    exact ⟨h.sorted, List.pairwise_singleton _ _, fun Q hQ R hR => by rw [List.mem_singleton.1 hR]; exact hs Q hQ⟩

/-- A child more at the end: the tree behind 'link'. -/
theorem Nodes.link {w W : World} {B b : Nat} {T : List NodeM} {x : NodeM} {p : List UInt8} {ids : List Int} {iv kv : Value} (h : Nodes w B T) (hT : TreeOk T) (hx : x ∈ T) (hB : B ≤ w.heap.size) (hp : Good (x.path ++ [p]))
    (hs : ∀ y ∈ T, less (jl y.path) (jl (x.path ++ [p])) = true) (hg : GrownL w W [boxV x, x.idsV, x.kidsV]) (hbx : W.heap[x.ptr]? = some (.cells #[.string (bts x.last), x.idsV, kv] 146 (0, 0)))
    (hids : W.ownsRow B 2 1 x.idsV x.ids.length (ints x.ids)) (hkid : W.ownsRow B 122 1 kv ((kids T x.path).length + 1) (ptrs (kids T x.path) ++ [.pointer (some ⟨b, 0, none⟩)])) (hk : kv.ownBlock = x.kidsV.ownBlock ∨ NewRow w kv)
    (hb : w.heap.size ≤ b) (hbn : W.heap[b]? = some (.cells #[.string (bts p), iv, .slice none 0 0] 146 (0, 0))) (hiv : W.ownsRow B 2 1 iv ids.length (ints ids)) (hivn : NewRow w iv) :
    TreeOk (setKids T x.path kv ++ [⟨x.path ++ [p], ids, b, iv, .slice none 0 0⟩]) ∧ Nodes W B (setKids T x.path kv ++ [⟨x.path ++ [p], ids, b, iv, .slice none 0 0⟩]) := by
  obtain ⟨N, hNd⟩ : ∃ N : NodeM, N = ⟨x.path ++ [p], ids, b, iv, .slice none 0 0⟩ := ⟨_, rfl⟩
  rw [← hNd]
  have hNp : N.path = x.path ++ [p] := by rw [hNd]
  have hNl : N.last = p := last_snoc hNp
  have hT' : TreeOk (setKids T x.path kv ++ [N]) := by
    rw [treeOk_iff, List.map_append, setKids_paths, List.map_cons, List.map_nil, hNp]
    refine (treeOk_iff.1 hT).push hp (by rw [List.dropLast_concat]; exact List.mem_map_of_mem hx) fun Q hQ => ?_
    obtain ⟨y, hy, rfl⟩ := List.mem_map.1 hQ
    exact hs y hy
  have hnew : ∀ y ∈ T, y.path ≠ x.path ++ [p] := fun y hy e => by have := hs y hy; rw [e, less_irrefl] at this; cases this
  have kx : ptrs (kids (setKids T x.path kv ++ [N]) x.path) = ptrs (kids T x.path) ++ [.pointer (some ⟨b, 0, none⟩)] := by
    rw [kids_append, ptrs_append, setKids_kids]
    congr 1
    have : N.isKid x.path = true := by rw [isKid_iff, hNl]; exact hNp
    unfold kids ptrs
    rw [List.filter_cons, if_pos this, hNd]; rfl
  have kx2 : (kids (setKids T x.path kv ++ [N]) x.path).length = (kids T x.path).length + 1 := by have := congrArg List.length kx; simpa [ptrs] using this
  have ky : ∀ Q, Q ≠ x.path → ptrs (kids (setKids T x.path kv ++ [N]) Q) = ptrs (kids T Q) := fun Q hQ => by
    rw [kids_append, ptrs_append, setKids_kids]
    have : N.isKid Q = false := by
      cases e : N.isKid Q
      · rfl
      · rw [isKid_iff, hNp, hNl] at e; exact absurd (List.append_inj_left e (by have := congrArg List.length e; simpa using this)).symm hQ
    unfold kids ptrs
    rw [List.filter_cons, if_neg (by rw [this]; simp)]; simp
  have kN : kids (setKids T x.path kv ++ [N]) N.path = [] := by
    have h0 : ptrs (kids T N.path) = [] := by
      have : kids T N.path = [] := by
        rw [List.eq_nil_iff_forall_not_mem]
        intro y hy
        obtain ⟨hy, e⟩ := kids_mem.1 hy
        obtain ⟨z, hz, e2⟩ := hT.closed y hy (by rw [e]; simp)
        rw [e, List.dropLast_concat, hNp] at e2
        exact hnew z hz e2
      rw [this]; rfl
    have := ky N.path (by rw [hNp]; intro e; have := congrArg List.length e; simp at this)
    rw [h0] at this
    simpa [ptrs] using this
  refine ⟨hT', h.turn (x' := { x with kidsV := kv }) (N := N) hT' hx hg rfl rfl hbx hids (by rw [kx, kx2]; exact hkid) (.inl rfl) hk (fun y hy => ?_) (fun _ _ => ?_)⟩
  · rcases List.mem_append.1 hy with h1 | h1
    · obtain ⟨z, hz, rfl⟩ := List.mem_map.1 h1
      by_cases e : z.path = x.path
      · right; left
        simp only [if_pos e]
        rw [hT.same hz hx e]
      · left
        simp only [if_neg e]
        exact ⟨hz, e, ky _ e⟩
    · exact .inr (.inr (List.mem_singleton.1 h1))
  · have hptr : N.ptr = b := by rw [hNd]
    have hki : N.kidsV = .slice none 0 0 := by rw [hNd]
    have hid : N.idsV = iv := by rw [hNd]
    have hii : N.ids = ids := by rw [hNd]
    refine ⟨by rw [hNp]; intro e; have := congrArg List.length e; simp at this, by rw [hptr]; omega, by rw [hptr]; exact hb, ?_, by rw [hid, hii]; exact hiv, ?_, by rw [hid]; exact hivn, ?_, ?_, ?_⟩
    · unfold BoxAt; rw [hptr, hNl, hid, hki]; exact hbn
    · rw [kN, hki]; exact World.ownsRow_nil _ _ _ _
    · rw [hki]; intro b h; cases h
    · rw [hid]; exact new_apart (h.ids x hx) hivn
    · rw [hki]; exact Apart.symm (.inl rfl)

end Go.Proofs.YtmfbffhbgelnnaaGreatDoor

/- The walk of (*node).link: a knot more in the program's tree. -/
namespace Go.Proofs.YtmfbffhbgelnnaaGreatDoor
open Go.RowKit

def linkB (T : List NodeM) (p : ByteArray) (ids : List Int) : Bool := filterP (parts p 47) && (rises ids && (ptrOf T (pth p).dropLast).isSome)

theorem parts_front {p : ByteArray} (h : filterP (parts p 47) = true) : ((parts p 47).take ((parts p 47).length - 1)).map (·.data.toList) = (pth p).dropLast := by
  rw [(filter_good h).1, List.map_take, List.dropLast_eq_take, List.length_map]

set_option maxRecDepth 100000 in
set_option maxHeartbeats 1600000 in
theorem link_no (T : List NodeM) (x : NodeM) (p : ByteArray) (u : Value) (ids : List Int) (m : Int) (w : World) (B : Nat) (hN : Nodes w B T) (hT : TreeOk T) (hx : x ∈ T) (hx0 : x.path = []) (hn : T.length ≤ 4000000)
    (hp : p.size ≤ 1048576) (hi : ids.length ≤ 4000000) (hu : IntsAt w u ids) (hm : w.cell? ⟨0, 0, none⟩ = some (.int .i64 m)) (hb : linkB T p ids = false) :
    Calls Tryz.prog 122 #[.pointer (some ⟨x.ptr, 0, none⟩), .agg #[.string p, u]] w fun e w' => e = .returned (.bool false) ∧ Below w.heap.size w w' := by
  have hU := hu
  obtain ⟨a, c, rfl, _, _, _⟩ := hu
  have hA : Below w.heap.size w (w.alloc (.cells #[.string p, .slice a ids.length c] 98)) := (Below.refl _ _).alloc (Nat.le_refl _) _
  have cf := implFilter_any p m (w.alloc (.cells #[.string p, .slice a ids.length c] 98)) hp ((hA.cell (World.block_lt_of_cell? _ _ hm)).trans hm)
  cases hf : filterP (parts p 47)
  · rw [hf] at cf
    have CF := Lib.hid cf
    have HA := Lib.hid hA
    clear cf hf hb hN hT hU hA hm
    go_enter Tryz.func122, Tryz.ntmps122
    go_wp2_with (go_at_call 115; refine CF.out.mono ?_; rintro e w1 ⟨rfl, hb1⟩; have HB1 := Lib.hid hb1; clear hb1)
    go_ret
    exact ⟨rfl, below_end HA.out HB1.out⟩
  · rw [hf] at cf
    have CF := Lib.hid cf
    have hk : ∀ j, (w.alloc (.cells #[.string p, .slice a ids.length c] 98)).cell? ⟨w.heap.size, j, none⟩ = #[.string p, .slice a ids.length c][j]? := fun j => cell_of_heap (heap_alloc_new w _) j
    have HK := Lib.hid hk
    have HM := Lib.hid ((hA.cell (World.block_lt_of_cell? _ _ hm)).trans hm)
    have HU := Lib.hid (hU.below hA)
    have HNN := Lib.hid (hN.below hA)
    have HA := Lib.hid hA
    have hws : (w.alloc (.cells #[.string p, .slice a ids.length c] 98)).heap.size = w.heap.size + 1 := by simp
    have HWS := Lib.hid hws
    have HF := Lib.hid hf
    have HBB := Lib.hid hb
    clear cf hk hU hm hN hA hws hb hf
    cases hr : rises ids
    · clear HBB
      go_enter Tryz.func122, Tryz.ntmps122
      go_wp2_with fail
      refine CF.out.mono ?_
      rintro e w1 ⟨rfl, hb1⟩
      have hk1 : w1.cell? ⟨w.heap.size, 1, none⟩ = some (.slice a ids.length c) := (hb1.cell (show w.heap.size < _ by rw [HWS.out]; omega)).trans (HK.out 1)
      have CR := Lib.hid (implRises_any _ ids w1 hi (HU.out.below hb1))
      rw [hr] at CR
      have HB1 := Lib.hid hb1
      clear hb1
      go_wp2_with (go_at_call 140; refine CR.out.mono ?_; rintro e w1 ⟨rfl, rfl⟩)
      go_ret
      exact ⟨rfl, below_end HA.out HB1.out⟩
    · have HR := Lib.hid hr
      have HPN : Hid (ptrOf T (pth p).dropLast = none) := Lib.hid (by
        have := HBB.out
        rw [linkB, HF.out, hr] at this
        cases e : ptrOf T (pth p).dropLast with
        | none => rfl
        | some _ => rw [e] at this; cases this)
      clear HBB hr
      go_enter Tryz.func122, Tryz.ntmps122
      go_wp2_with fail
      refine CF.out.mono ?_
      rintro e w1 ⟨rfl, hb1⟩
      have hk0 : w1.cell? ⟨w.heap.size, 0, none⟩ = some (.string p) := (hb1.cell (show w.heap.size < _ by rw [HWS.out]; omega)).trans (HK.out 0)
      have hk1 : w1.cell? ⟨w.heap.size, 1, none⟩ = some (.slice a ids.length c) := (hb1.cell (show w.heap.size < _ by rw [HWS.out]; omega)).trans (HK.out 1)
      have CR := Lib.hid (implRises_any _ ids w1 hi (HU.out.below hb1))
      rw [HR.out] at CR
      have CP := Lib.hid (implParts_any p m w1 hp ((hb1.cell (World.block_lt_of_cell? _ _ HM.out)).trans HM.out))
      have HN1 := Lib.hid (HNN.out.below hb1)
      have HB1 := Lib.hid hb1
      clear hb1
      go_wp2_with (go_at_call 140; refine CR.out.mono ?_; rintro e w1 ⟨rfl, rfl⟩)
      refine CP.out.mono ?_
      rintro e w2 ⟨v, rfl, h1, h2⟩
      obtain ⟨g, cap, rfl, hg1, hg2, hcell, _⟩ := row_open h1 (parts_pos p 47)
      have HC := Lib.hid hcell
      have H2 := Lib.hid h2
      have hpos := parts_pos p 47
      have hple := parts_le p 47
      have g3 : IntKind.i64.wrap (((parts p 47).length : Int) - 1) = ((parts p 47).length : Int) - 1 := by rw [IntKind.wrap_i64]; omega
      have g4 : (0 : Int) ≤ ((parts p 47).length : Int) - 1 := by omega
      have g6 : (((parts p 47).length : Int) - 1).toNat = (parts p 47).length - 1 := by omega
      have HCAP : Hid ((parts p 47).length ≤ cap) := Lib.hid (own_cap h1)
      have CD := Lib.hid (descend_any T x (parts p 47) g ((parts p 47).length - 1) cap w2 B (HN1.out.below h2) hT hx hn (by omega) (by omega) (fun t ht => hcell t ht))
      rw [parts_front HF.out, hx0, List.nil_append, HPN.out] at CD
      obtain ⟨n, hnn⟩ : ∃ n, (parts p 47).length = n := ⟨_, rfl⟩
      rw [hnn] at hpos hple g3 g4 g6 HCAP CD ⊢
      have hcap := HCAP.out
      clear h1 h2 hcell hnn
      go_wp2_with fail
      refine CD.out.mono ?_
      rintro e w3 ⟨rfl, rfl⟩
      go_wp2
      go_ret
      exact ⟨rfl, below_end (below_end HA.out HB1.out) H2.out⟩

end Go.Proofs.YtmfbffhbgelnnaaGreatDoor

/- Plain mathematics of chapter 3: the list of knots and the program's tree. -/
namespace Go.Proofs.YtmfbffhbgelnnaaGreatDoor

def keyOf (y : NodeM) : List (List UInt8) × List Int := (y.path, y.ids)
def keyK (k : KnotM) : List (List UInt8) × List Int := (pth k.1, k.2)

theorem list_toList (s : ByteArray) : s.toList = s.data.toList := Lib.toList_data s

theorem aboveTo_skip (s : ByteArray) : ∀ (d j : Nat), (∀ i, j ≤ i → i < j + d → s.data.toList[i]? ≠ some 47) → aboveTo s (j + d) = aboveTo s j
  | 0, _, _ => rfl
  | d + 1, j, h => by
    rw [← Nat.add_assoc, aboveTo, if_neg (h (j + d) (by omega) (by omega))]
    exact aboveTo_skip s d j (fun i h1 h2 => h i h1 (by omega))

/-- What is ahead of the last slash. -/
theorem above_pth {s : ByteArray} (hg : Good (pth s)) (hne : pth s ≠ []) : (above s).data.toList = jl (pth s).dropLast := by
  have hj := jl_pth s
  have hd := List.dropLast_concat_getLast hne
  obtain ⟨P, hP⟩ : ∃ P, (pth s).dropLast = P := ⟨_, rfl⟩
  obtain ⟨x, hx⟩ : ∃ x, (pth s).getLast hne = x := ⟨_, rfl⟩
  rw [hP, hx] at hd
  have hxs : (47 : UInt8) ∉ x := (hg x (by rw [← hx]; exact List.getLast_mem hne)).2
  rw [hP]
  rw [← hd] at hj
  by_cases h0 : P = []
  · subst h0
    have hs : s.data.toList = x := by rw [← hj]; rfl
    unfold above
    have := aboveTo_skip s s.size 0 (fun i _ hi e => by
      rw [hs] at e
      exact hxs (List.mem_of_getElem? e))
    rw [Nat.zero_add] at this
    rw [this]; rfl
  · rw [jl_snoc P x h0] at hj
    have hsz : s.size = (jl P).length + 1 + x.length := by
      show s.data.size = _
      rw [← Array.length_toList, ← hj]; simp; omega
    unfold above
    have := aboveTo_skip s x.length ((jl P).length + 1) (fun i h1 h2 e => by
      rw [← hj, List.getElem?_append_right (by omega), show i - (jl P).length = (i - (jl P).length - 1) + 1 by omega, List.getElem?_cons_succ] at e
      exact hxs (List.mem_of_getElem? e))
    rw [hsz, this, aboveTo, if_pos (by rw [← hj, List.getElem?_append_right (Nat.le_refl _)]; simp), extract_list, List.drop_zero, ← hj, List.take_left]

theorem pth_above {s : ByteArray} (hg : Good (pth s)) (hne : pth s ≠ []) : pth (above s) = (pth s).dropLast := by
  have h := above_pth hg hne
  by_cases h0 : (pth s).dropLast = []
  · rw [h0] at h ⊢
    rw [pth, if_pos (by rw [h]; rfl)]
  · rw [pth, if_neg (by rw [h]; exact jl_ne hg.dropLast h0), h, cut_jl _ h0 (fun p hp => (hg.dropLast p hp).2)]

theorem find_from (p : ByteArray) : ∀ (l : List KnotM) (k : Nat), 0 ≤ findFrom p l k ↔ ∃ x ∈ l, x.1.toList = p.toList
  | [], k => by simp [findFrom]
  | a :: l, k => by
    rw [findFrom]
    by_cases h : a.1.toList = p.toList
    · rw [if_pos (beq_iff_eq.2 h)]; simp [h]
    · rw [if_neg (by rw [beq_iff_eq]; exact h), find_from p l (k + 1)]; simp [h]

theorem find_ge {l : List KnotM} {p : ByteArray} : 0 ≤ find l p ↔ ∃ x ∈ l, x.1.toList = p.toList := find_from p l 0

theorem pth_inj {a b : ByteArray} (h : pth a = pth b) : a.data.toList = b.data.toList := by rw [← jl_pth a, ← jl_pth b, h]

/-- What a right list of knots has at each place. -/
theorem trie_at {l : List KnotM} (h : trieB l = true) {j : Nat} (hj : j < l.length) (h1 : 1 ≤ j) :
    less (l[j - 1]'(by omega)).1.toList l[j].1.toList = true ∧ filterP (parts l[j].1 47) = true ∧ rises l[j].2 = true ∧ (∃ x ∈ l, x.1.toList = (above l[j].1).toList) ∧ (l[j].2.isEmpty = false ∨ childB l l[j].1 = true) := by
  have hk : knotOk l (l[j - 1]'(by omega)) l[j] = true := by
    cases e : knotOk l (l[j - 1]'(by omega)) l[j]
    · rw [knotsTo_bad h1 hj e] at h; cases h
    · rfl
  rw [knotOk, leB_less, Bool.and_eq_true, Bool.and_eq_true, Bool.and_eq_true, Bool.and_eq_true, decide_eq_true_iff, find_ge, Bool.or_eq_true, Bool.not_not, Bool.not_eq_true'] at hk
  exact ⟨hk.1, hk.2.1, hk.2.2.1, hk.2.2.2.1, hk.2.2.2.2⟩

theorem trie_head {l : List KnotM} (h : trieB l = true) : headOk l = true := by rw [trieB, Bool.and_eq_true] at h; exact h.1

theorem trie_lt {l : List KnotM} (h : trieB l = true) : ∀ (d i : Nat) (hj : i + d + 1 < l.length), less (l[i]'(by omega)).1.toList l[i + d + 1].1.toList = true
  | 0, i, hj => (trie_at h hj (by omega)).1
  | d + 1, i, hj => less_trans (trie_lt h d i (by omega)) (trie_at h (j := i + (d + 1) + 1) hj (by omega)).1

theorem trie_no_less {l : List KnotM} {k : Nat} (hk : k < l.length) (h1 : 1 ≤ k) (h : less (l[k - 1]'(by omega)).1.toList l[k].1.toList = false) : trieB l = false := by
  cases e : trieB l
  · rfl
  · rw [(trie_at e hk h1).1] at h; cases h

theorem key_mem {T : List NodeM} {l : List KnotM} (hk : T.map keyOf = l.map keyK) {x : KnotM} (hx : x ∈ l) : ∃ y ∈ T, y.path = pth x.1 ∧ y.ids = x.2 := by
  have : keyK x ∈ T.map keyOf := by rw [hk]; exact List.mem_map_of_mem hx
  obtain ⟨y, hy, e⟩ := List.mem_map.1 this
  simp only [keyOf, keyK, Prod.mk.injEq] at e
  exact ⟨y, hy, e⟩
theorem key_mem' {T : List NodeM} {l : List KnotM} (hk : T.map keyOf = l.map keyK) {y : NodeM} (hy : y ∈ T) : ∃ x ∈ l, y.path = pth x.1 ∧ y.ids = x.2 := by
  have : keyOf y ∈ l.map keyK := by rw [← hk]; exact List.mem_map_of_mem hy
  obtain ⟨x, hx, e⟩ := List.mem_map.1 this
  simp only [keyOf, keyK, Prod.mk.injEq] at e
  exact ⟨x, hx, e.1.symm, e.2.symm⟩

theorem ptr_some {T : List NodeM} {P : List (List UInt8)} {y : NodeM} (hy : y ∈ T) (h : y.path = P) : (ptrOf T P).isSome = true := by
  unfold ptrOf
  cases e : T.find? fun y => decide (y.path = P) with
  | none => have := List.find?_eq_none.1 e y hy; simp [h] at this
  | some _ => rfl

theorem trie_no_link {l : List KnotM} {T : List NodeM} {k : Nat} (hk : k < l.length) (h1 : 1 ≤ k) (hT : T.map keyOf = (l.take k).map keyK) (h : linkB T l[k].1 l[k].2 = false) : trieB l = false := by
  cases e : trieB l
  · rfl
  · obtain ⟨_, a2, a3, ⟨x, hx, hxa⟩, _⟩ := trie_at e hk h1
    rw [linkB, a2, a3] at h
    obtain ⟨g1, g2, g3⟩ := filter_good a2
    obtain ⟨i, hi, rfl⟩ := List.mem_iff_getElem.1 hx
    have hap := above_pth g2 g3
    rw [list_toList, list_toList, hap] at hxa
    have hlt : less l[i].1.toList l[k].1.toList = true := by
      rw [list_toList, hxa, list_toList, ← jl_pth l[k].1]
      have hd := List.dropLast_concat_getLast g3
      by_cases h0 : (pth l[k].1).dropLast = []
      · rw [h0]
        have := jl_ne g2 g3
        cases e2 : jl (pth l[k].1) with
        | nil => exact absurd e2 this
        | cons => rfl
      · rw [← hd, List.dropLast_concat, jl_snoc _ _ h0]
        exact less_longer _ (by simp)
    have hik : i < k := by
      rcases Nat.lt_trichotomy i k with h2 | h2 | h2
      · exact h2
      · subst h2; rw [less_irrefl] at hlt; cases hlt
      · have := trie_lt e (i - k - 1) k (by omega)
        have e3 : k + (i - k - 1) + 1 = i := by omega
        simp only [e3] at this
        rw [less_asymm this] at hlt; cases hlt
    obtain ⟨y, hy, hyp, _⟩ := key_mem hT (x := l[i]) (List.mem_take_iff_getElem.2 ⟨i, by omega, rfl⟩)
    have : y.path = (pth l[k].1).dropLast := by
      rw [hyp, ← pth_above g2 g3]
      unfold pth
      rw [hxa, hap]
    rw [ptr_some hy this] at h
    cases h

theorem hasE_yes {T : List NodeM} : ∀ (n : Nat) (p : List (List UInt8)), hasE T n p = true → ∃ y ∈ T, y.path ≠ [] ∧ emptyB T y = true
  | 0, p, h => by cases h
  | n + 1, p, h => by
    rw [hasE, List.any_eq_true] at h
    obtain ⟨c, hc, h⟩ := h
    rw [Bool.or_eq_true] at h
    rcases h with h | h
    · exact ⟨c, (kids_mem.1 hc).1, by rw [(kids_mem.1 hc).2]; simp, h⟩
    · exact hasE_yes n c.path h

theorem hasE_up {T : List NodeM} (hT : TreeOk T) {y : NodeM} (hy : y ∈ T) (he : emptyB T y = true) : ∀ (r : List (List UInt8)) (n : Nat) (p : List (List UInt8)), r ≠ [] → y.path = p ++ r → r.length ≤ n → hasE T n p = true
  | [], _, _, h, _, _ => absurd rfl h
  | a :: r, 0, _, _, _, h => by simp at h
  | a :: r, n + 1, p, _, e, h => by
    obtain ⟨z, hz, ez⟩ := hT.front (y.path.length - (p.length + 1)) (p.length + 1) y hy (by rw [e]; simp)
    have e2 : z.path = p ++ [a] := by rw [ez, e, List.take_length_add_append]; rfl
    rw [hasE, List.any_eq_true]
    refine ⟨z, kids_snoc hz e2, ?_⟩
    rw [Bool.or_eq_true]
    cases r with
    | nil => exact .inl (by rw [hT.same hz hy (by rw [e2, e])]; exact he)
    | cons b r => exact .inr (hasE_up hT hy he (b :: r) n z.path (by simp) (by rw [e2, e]; simp) (by simpa using h))

theorem pth_len {s : ByteArray} (h : filterP (parts s 47) = true) : (pth s).length ≤ 6 := by
  rw [(filter_good h).1, List.length_map]
  rw [filterP, Bool.and_eq_true, decide_eq_true_iff] at h
  exact h.1

/-- The tree tells whether the list is right. -/
theorem trie_of_tree {l : List KnotM} {T : List NodeM} (hT : TreeOk T) (hk : T.map keyOf = l.map keyK) (h0 : headOk l = true)
    (hall : ∀ j (h : j < l.length), 1 ≤ j → less (l[j - 1]'(by omega)).1.toList l[j].1.toList = true ∧ filterP (parts l[j].1 47) = true ∧ rises l[j].2 = true) : trieB l = !(hasE T 6 []) := by
  have hfil : ∀ x ∈ l, pth x.1 ≠ [] → filterP (parts x.1 47) = true := fun x hx hne => by
    obtain ⟨j, hj, rfl⟩ := List.mem_iff_getElem.1 hx
    by_cases h1 : 1 ≤ j
    · exact (hall j hj h1).2.1
    · obtain rfl : j = 0 := by omega
      cases l with
      | nil => simp at hj
      | cons a l =>
        rw [headOk, Bool.and_eq_true, beq_iff_eq, list_toList] at h0
        exact absurd (by simp [pth, h0.1]) hne
  have hchild : ∀ x ∈ l, childB l x.1 = !(kids T (pth x.1)).isEmpty := fun x hx => by
    rw [Bool.eq_iff_iff, Bool.not_eq_true', List.isEmpty_eq_false_iff_exists_mem]
    constructor
    · intro h
      rw [childB, List.any_eq_true] at h
      obtain ⟨z, hz, ez⟩ := h
      rw [beq_iff_eq, list_toList, list_toList] at ez
      have hzl : z ∈ l := List.mem_of_mem_drop hz
      obtain ⟨j, hj, rfl⟩ := List.mem_iff_getElem.1 hz
      rw [List.getElem_drop] at ez hzl
      rw [List.length_drop] at hj
      have hf := (hall (1 + j) (by omega) (by omega)).2.1
      obtain ⟨g1, g2, g3⟩ := filter_good hf
      obtain ⟨y, hy, hyp, _⟩ := key_mem hk hzl
      have hab := pth_above g2 g3
      have e : pth x.1 = (pth l[1 + j].1).dropLast := by
        rw [← hab]; unfold pth; rw [ez]
      refine ⟨y, kids_snoc hy (x := (pth l[1 + j].1).getLast g3) ?_⟩
      rw [hyp, e, List.dropLast_concat_getLast g3]
    · rintro ⟨y, hy⟩
      obtain ⟨hyT, hyp⟩ := kids_mem.1 hy
      obtain ⟨z, hz, hzp, _⟩ := key_mem' hk hyT
      have hne : pth z.1 ≠ [] := by rw [← hzp, hyp]; simp
      obtain ⟨g1, g2, g3⟩ := filter_good (hfil z hz hne)
      rw [childB, List.any_eq_true]
      obtain ⟨j, hj, rfl⟩ := List.mem_iff_getElem.1 hz
      have h1 : 1 ≤ j := by
        rcases Nat.lt_or_ge 0 j with h | h
        · exact h
        · obtain rfl : j = 0 := by omega
          cases l with
          | nil => simp at hj
          | cons a l =>
            rw [headOk, Bool.and_eq_true, beq_iff_eq, list_toList] at h0
            exact absurd (by simp [pth, h0.1]) hne
      refine ⟨l[j], List.mem_iff_getElem.2 ⟨j - 1, by rw [List.length_drop]; omega, by rw [List.getElem_drop]; congr 1; omega⟩, ?_⟩
      rw [beq_iff_eq, list_toList, list_toList]
      apply pth_inj
      rw [pth_above g2 g3, ← hzp, hyp, List.dropLast_concat]
  cases e : hasE T 6 []
  · have hno : ∀ y ∈ T, y.path ≠ [] → emptyB T y = false := fun y hy hne => by
      cases e2 : emptyB T y
      · rfl
      · obtain ⟨x, hx, hxp, _⟩ := key_mem' hk hy
        have := hasE_up hT hy e2 y.path 6 [] hne rfl (by rw [hxp]; exact pth_len (hfil x hx (by rw [← hxp]; exact hne)))
        rw [e] at this; cases this
    rw [trieB, h0]
    show knotsTo l l.length = true
    unfold knotsTo
    rw [List.all_eq_true]
    intro j hj
    have hj := List.mem_range.1 hj
    rw [knot_at hj]
    by_cases h1 : 1 ≤ j
    · obtain ⟨a1, a2, a3⟩ := hall j hj h1
      obtain ⟨g1, g2, g3⟩ := filter_good a2
      obtain ⟨y, hy, hyp, hyi⟩ := key_mem hk (List.getElem_mem hj)
      have hne : y.path ≠ [] := by rw [hyp]; exact g3
      have hE := hno y hy hne
      rw [emptyB, hyp, hyi] at hE
      have hf : 0 ≤ find l (above l[j].1) := by
        rw [find_ge]
        obtain ⟨z, hz, ez⟩ := hT.closed y hy hne
        obtain ⟨x, hx, hxp, _⟩ := key_mem' hk hz
        refine ⟨x, hx, ?_⟩
        rw [list_toList, list_toList]
        apply pth_inj
        rw [pth_above g2 g3, ← hxp, ez, hyp]
      rw [knot_at (by omega), knotOk, leB_less, a1, a2, a3, decide_eq_true hf, hchild _ (List.getElem_mem hj), Bool.or_eq_true]
      right
      cases e1 : l[j].2.isEmpty
      · rfl
      · rw [e1] at hE; simpa using hE
    · rw [Bool.or_eq_true]; left; exact decide_eq_true (by omega)
  · obtain ⟨y, hy, hne, hye⟩ := hasE_yes 6 [] e
    cases e2 : trieB l
    · rfl
    · obtain ⟨x, hx, hxp, hxi⟩ := key_mem' hk hy
      obtain ⟨j, hj, rfl⟩ := List.mem_iff_getElem.1 hx
      have h1 : 1 ≤ j := by
        rcases Nat.lt_or_ge 0 j with h | h
        · exact h
        · obtain rfl : j = 0 := by omega
          cases l with
          | nil => simp at hj
          | cons a l =>
            rw [headOk, Bool.and_eq_true, beq_iff_eq, list_toList] at h0
            exact absurd (by rw [hxp]; simp [pth, h0.1]) hne
      have := (trie_at e2 hj h1).2.2.2.2
      rw [emptyB, hxp, hxi, Bool.and_eq_true] at hye
      rw [hchild _ hx, hye.1, hye.2] at this
      simp at this

end Go.Proofs.YtmfbffhbgelnnaaGreatDoor

/- The walks of the reference's look for a number, and of a number laid into its place. -/
namespace Go.Proofs.YtmfbffhbgelnnaaGreatDoor
open Go.RowKit

def hasId (l : List Int) (x : Int) : Bool := l.any fun y => y == x

theorem hasId_at {l : List Int} {x : Int} {k : Nat} (h : k < l.length) (e : (l[k] == x) = true) : hasId l x = true := by
  rw [hasId, List.any_eq_true]; exact ⟨_, List.getElem_mem h, e⟩
theorem hasId_none {l : List Int} {x : Int} (h : ∀ j (hj : j < l.length), (l[j] == x) = false) : hasId l x = false := by
  cases e : hasId l x
  · rfl
  · rw [hasId, List.any_eq_true] at e
    obtain ⟨y, hy, e⟩ := e
    obtain ⟨j, hj, rfl⟩ := List.mem_iff_getElem.1 hy
    rw [h j hj] at e; cases e

def noneTo (l : List Int) (x : Int) (k : Nat) : Prop := ∀ j (hj : j < l.length), j < k → (l[j] == x) = false

set_option maxRecDepth 100000 in
set_option maxHeartbeats 400000 in
theorem specHas_any (v : Value) (l : List Int) (x : Int) (w : World) (hl : l.length ≤ 4000000) (hv : IntsAt w v l) :
    Calls Tryz.prog 74 #[v, .int .i64 x] w fun e w' => e = .returned (.bool (hasId l x)) ∧ w' = w := by
  obtain ⟨a, c, rfl, hc1, hc2, hc3⟩ := hv
  have HC := Lib.hid hc3
  clear hc3
  go_enter Tryz.func74, Tryz.ntmps74
  go_wp2
  go_loopw [5] (fun i wr => ∃ k : Nat, k ≤ l.length ∧ i = .int .i64 k ∧ Hid (noneTo l x k) ∧ wr = w) (fun i _ => l.length - (intOf i).toNat)
  case atStart => exact ⟨0, Nat.zero_le _, rfl, fun j _ h => absurd h (Nat.not_lt_zero _), rfl⟩
  case round =>
    obtain ⟨k, hk, rfl, HN, rfl⟩ := hrel
    by_cases hlt : k < l.length
    · obtain ⟨b, o, rfl, hin⟩ : ∃ b o, a = some ⟨b, o, none⟩ ∧ IntsIn wr b o l := by
        rcases HC.out with h | h
        · subst h; simp at hlt
        · exact h
      have hcell := hin k hlt
      have HA := Lib.hid (fun e => hasId_at (x := x) hlt e)
      have HB := Lib.hid (fun (e : (l[k] == x) = false) (j : Nat) (hj : j < l.length) (hjk : j < k + 1) => (by
        rcases Nat.lt_or_ge j k with h | h
        · exact HN.out j hj h
        · obtain rfl : j = k := by omega
          exact e : (l[j] == x) = false))
      obtain ⟨y, hy⟩ : ∃ y, l[k] = y := ⟨_, rfl⟩
      rw [hy] at hcell HA HB
      clear hin hy
      cases e : (y == x)
      · have HN2 : Hid (noneTo l x (k + 1)) := Lib.hid (HB.out e)
        clear HA HB
        go_wp2
        go_roundw
        case rel => exact ⟨k + 1, by omega, by go_num, HN2, by trivial⟩
        case measure => simp [intOf]; omega
      · have HE : Hid (hasId l x = true) := Lib.hid (HA.out e)
        clear HA HB
        go_wp2
        go_ret
        exact ⟨ret_bool HE.out.symm, rfl⟩
    · obtain rfl : k = l.length := by omega
      have HE : Hid (hasId l x = false) := Lib.hid (hasId_none fun j hj => HN.out j hj hj)
      go_wp2
      go_ret
      exact ⟨ret_bool HE.out.symm, rfl⟩

/-- Where a number goes: behind all but the greater ones at the end. -/
def intoAt (l : List Int) (x : Int) : Nat → Nat
  | 0 => 0
  | k + 1 => if l.getD k 0 > x then intoAt l x k else k + 1
theorem intoAt_le (l : List Int) (x : Int) : ∀ k, intoAt l x k ≤ k
  | 0 => Nat.le_refl _
  | k + 1 => by unfold intoAt; split; · exact Nat.le_succ_of_le (intoAt_le l x k)
                · exact Nat.le_refl _
def into (l : List Int) (x : Int) : List Int := l.take (intoAt l x l.length) ++ x :: l.drop (intoAt l x l.length)

end Go.Proofs.YtmfbffhbgelnnaaGreatDoor

/- Plain mathematics of chapter 3: numbers laid into a rising list. -/
namespace Go.Proofs.YtmfbffhbgelnnaaGreatDoor

theorem rises_iff {l : List Int} : rises l = true ↔ ∀ j (h : j < l.length), idOk l[j] = true ∧ (∀ (_ : 0 < j), l[j - 1]'(by omega) < l[j]) := by
  unfold rises risesTo
  rw [List.all_eq_true]
  constructor
  · intro h j hj
    have := h j (List.mem_range.2 hj)
    rw [Bool.and_eq_true, getD_at hj] at this
    refine ⟨this.1, fun h0 => ?_⟩
    have h2 := this.2
    rw [Bool.or_eq_true, decide_eq_true_iff, decide_eq_true_iff, getD_at (show j - 1 < l.length by omega)] at h2
    rcases h2 with h2 | h2
    · omega
    · exact h2
  · intro h j hj
    have hj := List.mem_range.1 hj
    obtain ⟨h1, h2⟩ := h j hj
    rw [getD_at hj, h1]
    by_cases h0 : 0 < j
    · rw [getD_at (show j - 1 < l.length by omega), decide_eq_true (h2 h0)]; simp
    · rw [decide_eq_true (show j = 0 by omega)]; rfl

theorem rises_pair {l : List Int} : rises l = true ↔ (∀ x ∈ l, idOk x = true) ∧ l.Pairwise (· < ·) := by
  rw [rises_iff, List.pairwise_iff_getElem]
  constructor
  · intro h
    refine ⟨fun x hx => by obtain ⟨j, hj, rfl⟩ := List.mem_iff_getElem.1 hx; exact (h j hj).1, ?_⟩
    intro i j hi hj hij
    obtain ⟨d, rfl⟩ : ∃ d, j = i + d + 1 := ⟨j - i - 1, by omega⟩
    clear hij
    induction d with
    | zero => exact (h (i + 1) hj).2 (by omega)
    | succ d ih => exact Int.lt_trans (ih (by omega)) ((h (i + (d + 1) + 1) hj).2 (by omega))
  · rintro ⟨h1, h2⟩ j hj
    exact ⟨h1 _ (List.getElem_mem hj), fun h0 => h2 (j - 1) j (by omega) hj (by omega)⟩

theorem idOk_iff {x : Int} : idOk x = true ↔ 0 ≤ x ∧ x ≤ 99 := by unfold idOk; simp

/-- A rising list is short. -/
theorem rises_short {l : List Int} (h : rises l = true) : l.length ≤ 100 := by
  obtain ⟨h1, h2⟩ := rises_pair.1 h
  have h3 := List.pairwise_iff_getElem.1 h2
  have : ∀ j (hj : j < l.length), (j : Int) ≤ l[j] := by
    intro j
    induction j with
    | zero => intro hj; exact (idOk_iff.1 (h1 _ (List.getElem_mem hj))).1
    | succ j ih => intro hj; have := ih (by omega); have := h3 j (j + 1) (by omega) hj (by omega); omega
  rcases Nat.lt_or_ge 100 l.length with hl | hl
  · have a := this 100 hl
    have b := (idOk_iff.1 (h1 _ (List.getElem_mem hl))).2
    omega
  · exact hl

theorem intoAt_spec {l : List Int} {x : Int} (hs : l.Pairwise (· < ·)) : ∀ k, k ≤ l.length → (∀ j (h : j < l.length), k ≤ j → x < l[j]) → (∀ j (h : j < l.length), intoAt l x k ≤ j → x < l[j]) ∧ (∀ j (h : j < l.length), j < intoAt l x k → l[j] ≤ x)
  | 0, _, hk => ⟨fun j h _ => hk j h (Nat.zero_le _), fun j h h2 => by rw [intoAt] at h2; omega⟩
  | k + 1, hk1, hk => by
    rw [intoAt, getD_at (show k < l.length by omega)]
    split
    · rename_i hgt
      refine intoAt_spec hs k (by omega) fun j h h2 => ?_
      rcases Nat.lt_or_ge k j with h3 | h3
      · exact hk j h h3
      · obtain rfl : j = k := by omega
        exact hgt
    · rename_i hle
      refine ⟨hk, fun j h h2 => ?_⟩
      rcases Nat.lt_or_ge j k with h3 | h3
      · have := List.pairwise_iff_getElem.1 hs j k h (by omega) h3; omega
      · obtain rfl : j = k := by omega
        omega

theorem into_mem {l : List Int} {x y : Int} : y ∈ into l x ↔ y = x ∨ y ∈ l := by
  unfold into
  rw [List.mem_append, List.mem_cons]
  constructor
  · rintro (h | h | h)
    · exact .inr (List.mem_of_mem_take h)
    · exact .inl h
    · exact .inr (List.mem_of_mem_drop h)
  · rintro (h | h)
    · exact .inr (.inl h)
    · rw [← List.take_append_drop (intoAt l x l.length) l, List.mem_append] at h
      rcases h with h | h
      · exact .inl h
      · exact .inr (.inr h)

theorem into_rises {l : List Int} {x : Int} (h : rises l = true) (hx : idOk x = true) (hn : hasId l x = false) : rises (into l x) = true := by
  obtain ⟨h1, h2⟩ := rises_pair.1 h
  rw [rises_pair]
  refine ⟨fun y hy => by rcases into_mem.1 hy with rfl | hy; exact hx; exact h1 y hy, ?_⟩
  obtain ⟨s1, s2⟩ := intoAt_spec (x := x) h2 l.length (Nat.le_refl _) (fun j hj h3 => by omega)
  have hne : ∀ y ∈ l, y ≠ x := fun y hy e => by
    obtain ⟨j, hj, rfl⟩ := List.mem_iff_getElem.1 hy
    rw [hasId_at hj (by rw [e]; simp)] at hn; cases hn
  unfold into
  rw [List.pairwise_append]
  refine ⟨h2.sublist (List.take_sublist _ _), List.pairwise_cons.2 ⟨fun y hy => ?_, h2.sublist (List.drop_sublist _ _)⟩, fun y hy z hz => ?_⟩
  · obtain ⟨j, hj, rfl⟩ := List.mem_iff_getElem.1 hy
    rw [List.getElem_drop]
    rw [List.length_drop] at hj
    exact s1 _ (by omega) (by omega)
  · obtain ⟨j, hj, rfl⟩ := List.mem_take_iff_getElem.1 hy
    have hjx : l[j] < x := by
      have a := s2 j (by omega) (by omega)
      have b := hne l[j] (List.getElem_mem _)
      omega
    rcases List.mem_cons.1 hz with rfl | hz
    · exact hjx
    · obtain ⟨i, hi, rfl⟩ := List.mem_iff_getElem.1 hz
      rw [List.getElem_drop]
      rw [List.length_drop] at hi
      have := s1 (intoAt l x l.length + i) (by omega) (by omega)
      omega

def addId (l : List Int) (x : Int) : List Int := if hasId l x then l else into l x
theorem addId_rises {l : List Int} {x : Int} (h : rises l = true) (hx : idOk x = true) : rises (addId l x) = true := by
  unfold addId; cases e : hasId l x
  · exact into_rises h hx e
  · exact h

theorem hasId_iff {l : List Int} {x : Int} : hasId l x = true ↔ x ∈ l := by
  unfold hasId; rw [List.any_eq_true]
  constructor
  · rintro ⟨y, hy, e⟩; rw [beq_iff_eq] at e; rw [← e]; exact hy
  · intro h; exact ⟨x, h, by simp⟩

theorem addId_mem {l : List Int} {x y : Int} : y ∈ addId l x ↔ y = x ∨ y ∈ l := by
  unfold addId; cases e : hasId l x
  · exact into_mem
  · constructor
    · exact .inr
    · rintro (rfl | h)
      · exact hasId_iff.1 e
      · exact h

/-- Two rising lists with the same numbers are one. -/
theorem rises_ext {a b : List Int} (ha : rises a = true) (hb : rises b = true) (h : ∀ x, x ∈ a ↔ x ∈ b) : a = b := by
  have h1 := (rises_pair.1 ha).2
  have h2 := (rises_pair.1 hb).2
  clear ha hb
  induction a generalizing b with
  | nil =>
    cases b with
    | nil => rfl
    | cons y b => have := (h y).2 (by simp); cases this
  | cons x a ih =>
    cases b with
    | nil => have := (h x).1 (by simp); cases this
    | cons y b =>
      rw [List.pairwise_cons] at h1 h2
      have e : x = y := by
        rcases List.mem_cons.1 ((h x).1 (by simp)) with e | e
        · exact e
        · rcases List.mem_cons.1 ((h y).2 (by simp)) with e2 | e2
          · exact e2.symm
          · have := h1.1 y e2; have := h2.1 x e; omega
      subst e
      rw [ih (b := b) (fun z => ?_) h1.2 h2.2]
      constructor
      · intro hz
        rcases List.mem_cons.1 ((h z).1 (List.mem_cons_of_mem _ hz)) with e | e
        · subst e; have := h1.1 z hz; omega
        · exact e
      · intro hz
        rcases List.mem_cons.1 ((h z).2 (List.mem_cons_of_mem _ hz)) with e | e
        · subst e; have := h2.1 z hz; omega
        · exact e

end Go.Proofs.YtmfbffhbgelnnaaGreatDoor

/- An own row of numbers sorted, and compacted, by the library. -/
namespace Go.Proofs.YtmfbffhbgelnnaaGreatDoor
open Go.RowKit Go.Sort

/-- An own row holds its numbers. -/
theorem own_holds {w : World} {B g n cap : Nat} {l : List Int} (h : w.ownsRow B 2 1 (.slice (some ⟨g, 0, none⟩) n cap) n (ints l)) : Holds (Value.int .i64) w g 0 l.toArray := by
  have hn : l.length = n := by have := h.1; simpa [ints] using this
  obtain ⟨cur, hh⟩ : ∃ cur, w.heap[g]? = some (.cells cur 2 (0, 0)) := by
    rcases h.2 with ⟨h1, _⟩ | ⟨_, _, cur, h1, _, h2, _⟩
    · cases h1
    · cases h1; exact ⟨cur, h2⟩
  intro j hj
  have hj2 : j < l.length := by simpa using hj
  refine ⟨?_, by simp [World.frozen?, hh]⟩
  have := h.cellAt j (by omega)
  rw [Nat.zero_add, this, ints, List.getElem?_map, List.getElem?_eq_getElem hj2]
  simp [hj2]

theorem toList_putCells (l : List Int) (c : Array Value) (h : l.length ≤ c.size) : (putCells (Value.int .i64) 0 l.toArray c).toList.take l.length = ints l := by
  apply List.ext_getElem?
  intro i
  rw [List.getElem?_take]
  by_cases hi : i < l.length
  · rw [if_pos hi]
    have hc : i < c.size := by omega
    simp [putCells, ints, hi, hc]
  · rw [if_neg hi, ints, List.getElem?_map, List.getElem?_eq_none (by omega)]; rfl

/-- The row rewritten. -/
theorem own_putRow {w w' : World} {B g n cap : Nat} {l l' : List Int} {os : Array Obj} {q : Nat} (h : w.ownsRow B 2 1 (.slice (some ⟨g, 0, none⟩) n cap) n (ints l)) (hl : l'.length = n) (e : w' = grow (putRow (Value.int .i64) (Sort.ahead w q) g 0 l'.toArray) os) (m : Nat) (hm : m ≤ n) :
    w'.ownsRow B 2 1 (.slice (some ⟨g, 0, none⟩) m cap) m (ints (l'.take m)) ∧ w.grownBy w' (some g) := by
  rcases h.2 with ⟨h1, _⟩ | ⟨g2, cap2, cur, h1, hb, hh, h2, h3, h4, h5⟩
  · cases h1
  · cases h1
    have hg : g < w.heap.size := (Array.getElem?_eq_some_iff.1 hh).1
    have hh' : w'.heap[g]? = some (.cells (putCells (Value.int .i64) 0 l'.toArray cur) 2 (0, 0)) := by
      rw [e]
      unfold grow putRow mapBlock Sort.ahead
      rw [Array.getElem?_append_left (by simpa using hg), Array.getElem?_modify, if_pos rfl, hh]; rfl
    have hcs : cur.size = cap := by omega
    refine ⟨⟨by rw [ints_length, List.length_take]; omega, .inr ⟨g, cap, _, rfl, hb, hh', by omega, h3, by simp [putCells, hcs], ?_⟩⟩, ?_⟩
    · have := toList_putCells l' cur (by omega)
      rw [Nat.mul_one]
      have e2 := congrArg (List.take m) this
      rw [List.take_take, Nat.min_eq_left (by omega)] at e2
      rw [e2, ints, ints, List.map_take]
    · subst e
      refine ⟨rfl, rfl, rfl, by simp [grow, putRow, mapBlock, Sort.ahead], fun k hk hne => ?_⟩
      unfold grow putRow mapBlock Sort.ahead
      rw [Array.getElem?_append_left (by simpa using hk), Array.getElem?_modify, if_neg (fun e => hne (by rw [e]))]

theorem grow_none (w : World) : grow w #[] = w := by simp [grow]

/-- Sorted, without what is alike: a rising list of the same numbers. -/
theorem compact_mem (l : List Int) (x : Int) : x ∈ Lib.compact l ↔ x ∈ l := by
  unfold Lib.compact Lib.compactUpTo
  rw [List.mem_map]
  constructor
  · rintro ⟨j, hj, rfl⟩
    have hj := List.mem_range.1 (List.mem_filter.1 hj).1
    simp [hj]
  · intro hx
    obtain ⟨j, hj, rfl⟩ := List.mem_iff_getElem.1 hx
    induction j with
    | zero => exact ⟨0, List.mem_filter.2 ⟨List.mem_range.2 hj, by simp [Lib.keeps]⟩, by simp [hj]⟩
    | succ j ih =>
      by_cases e : l[j + 1] = l[j]
      · rw [e]; exact ih (by omega) (List.getElem_mem _)
      · exact ⟨j + 1, List.mem_filter.2 ⟨List.mem_range.2 hj, by simp [Lib.keeps, hj, show j < l.length by omega, e]⟩, by simp [hj]⟩

theorem compact_rises {l : List Int} (hs : l.Pairwise (· ≤ ·)) : (Lib.compact l).Pairwise (· < ·) := by
  unfold Lib.compact Lib.compactUpTo
  rw [List.pairwise_map]
  have hr : ((List.range l.length).filter (Lib.keeps l.toArray)).Pairwise (· < ·) := List.Pairwise.filter _ List.pairwise_lt_range
  refine List.Pairwise.imp_of_mem ?_ hr
  intro a b ha hb hab
  have ha2 := List.mem_range.1 (List.mem_filter.1 ha).1
  have hb2 := List.mem_range.1 (List.mem_filter.1 hb).1
  have hk := (List.mem_filter.1 hb).2
  have hp := List.pairwise_iff_getElem.1 hs
  have hle : ∀ i j (hi : i < l.length) (hj : j < l.length), i ≤ j → l[i] ≤ l[j] := fun i j hi hj hij => by
    rcases Nat.lt_or_ge i j with h | h
    · exact hp i j hi hj h
    · have : i = j := by omega
      subst this; exact Int.le_refl _
  have h1 := hle a (b - 1) ha2 (by omega) (by omega)
  have h2 := hp (b - 1) b (by omega) hb2 (by omega)
  have h3 : l[b] ≠ l[b - 1]'(by omega) := by
    unfold Lib.keeps at hk
    have hb0 : b ≠ 0 := by omega
    simp [hb0, hb2, show b - 1 < l.length by omega] at hk
    exact hk
  have e1 : l.toArray[a]! = l[a] := by simp [ha2]
  have e2 : l.toArray[b]! = l[b] := by simp [hb2]
  rw [e1, e2]
  omega

end Go.Proofs.YtmfbffhbgelnnaaGreatDoor

/- Rows of numbers as what an append reads; a number laid into its place. Of no function. -/
namespace Go.Proofs.YtmfbffhbgelnnaaGreatDoor
open Go.RowKit

theorem IntsAt.src {w : World} {u : Value} {l : List Int} (h : IntsAt w u l) : SrcAt w u l.length (ints l) := by
  obtain ⟨a, c, rfl, _, _, h⟩ := h
  rcases h with rfl | ⟨b, o, rfl, hin⟩
  · cases a with
    | none => exact ⟨none, c, rfl, .inl ⟨rfl, rfl, rfl⟩⟩
    | some ad => exact ⟨some ad, c, rfl, .inr ⟨ad, rfl, fun j u hu => by simp [ints] at hu⟩⟩
  · refine ⟨_, c, rfl, .inr ⟨_, rfl, fun j u hu => ?_⟩⟩
    have hj : j < l.length := by
      rcases Nat.lt_or_ge j l.length with h | h
      · exact h
      · rw [List.getElem?_eq_none (by rw [ints_length]; exact h)] at hu; cases hu
    rw [ints, List.getElem?_map, List.getElem?_eq_getElem hj] at hu
    cases hu
    rw [Addr.add_lit]
    exact hin j hj

/-- What is behind the k-th place of a list that reads as numbers. -/
theorem IntsAt.drop {w : World} {a : Option Addr} {c k : Nat} {l : List Int} (h : IntsAt w (.slice a l.length c) l) (hk : k ≤ l.length) : ∀ b o c', a = some ⟨b, o, none⟩ → SrcAt w (.slice (some ⟨b, o + k, none⟩) (l.length - k) c') (l.length - k) (ints (l.drop k)) := by
  intro b o c' ha
  obtain ⟨a2, c2, e, _, _, h⟩ := h
  cases e
  subst ha
  refine ⟨_, _, rfl, .inr ⟨_, rfl, fun j u hu => ?_⟩⟩
  rcases h with rfl | ⟨b2, o2, e2, hin⟩
  · simp [ints] at hu
  · cases e2
    have hj : j < (l.drop k).length := by
      rcases Nat.lt_or_ge j (l.drop k).length with h | h
      · exact h
      · rw [List.getElem?_eq_none (by rw [ints_length]; exact h)] at hu; cases hu
    rw [ints, List.getElem?_map, List.getElem?_eq_getElem hj] at hu
    cases hu
    rw [Addr.add_lit, List.getElem_drop]
    rw [List.length_drop] at hj
    have := hin (k + j) (by omega)
    rw [show o + k + j = o + (k + j) by omega]; exact this

theorem SrcAt.none {w : World} {a : Option Addr} {c n : Nat} {news : List Value} (hn : n = 0) (h : news = []) : SrcAt w (.slice a n c) n news := by
  subst hn; subst h
  cases a with
  | none => exact ⟨_, _, rfl, .inl ⟨rfl, rfl, rfl⟩⟩
  | some ad => exact ⟨_, _, rfl, .inr ⟨ad, rfl, fun j u hu => by cases hu⟩⟩

theorem IntsAt.front {w : World} {a : Option Addr} {c k : Nat} {l : List Int} (h : IntsAt w (.slice a l.length c) l) (hk : k ≤ l.length) (c' : Nat) : SrcAt w (.slice a k c') k (ints (l.take k)) := by
  obtain ⟨a2, c2, e, _, _, h⟩ := h
  cases e
  rcases h with rfl | ⟨b, o, rfl, hin⟩
  · exact SrcAt.none (by simpa using hk) (by simp [ints])
  · refine ⟨_, _, rfl, .inr ⟨_, rfl, fun j u hu => ?_⟩⟩
    have hj : j < (l.take k).length := by
      rcases Nat.lt_or_ge j (l.take k).length with h | h
      · exact h
      · rw [List.getElem?_eq_none (by rw [ints_length]; exact h)] at hu; cases hu
    rw [ints, List.getElem?_map, List.getElem?_eq_getElem hj] at hu
    cases hu
    rw [Addr.add_lit, List.getElem_take]
    rw [List.length_take] at hj
    exact hin j (by omega)

theorem own_lit_empty (w : World) : (w.alloc (.cells #[] 2)).ownsRow w.heap.size 2 1 (.slice (some ⟨w.heap.size, 0, none⟩) 0 0) 0 [] :=
  World.ownsRow_lit (base := w.heap.size) (e := 2) (size := 1) w #[] 0 (Nat.le_refl _) (by unfold maxLen; omega) rfl

/-- What the last statement of 'l3Into' makes: four appends to rows of its own. -/
theorem into_end (l : List Int) (x : Int) (k : Nat) (h : intoAt l x l.length = k) : ints (l.take k) ++ .int .i64 x :: ints (l.drop k) = ints (into l x) := by
  unfold into; rw [h]; simp [ints]

theorem own_alloc {w : World} {B n cap size : Nat} {e : TypeId} {cur : Array Value} {xs : List Value} (hB : B ≤ w.heap.size) (h1 : n ≤ cap) (h2 : cap ≤ maxLen) (h3 : cur.size = cap * size) (h4 : cur.toList.take (n * size) = xs) (h5 : xs.length = n * size) :
    (w.alloc (.cells cur e)).ownsRow B e size (.slice (some ⟨w.heap.size, 0, none⟩) n cap) n xs :=
  ⟨h5, .inr ⟨w.heap.size, cap, cur, rfl, hB, heap_alloc_new w _, h1, h2, h3, h4⟩⟩

theorem into_length (l : List Int) (x : Int) : (into l x).length = l.length + 1 := by
  unfold into; have := intoAt_le l x l.length; simp; omega

theorem into_nil (x : Int) : into [] x = [x] := rfl

end Go.Proofs.YtmfbffhbgelnnaaGreatDoor

/- Lists of knots as rows; a knot laid into its place. Of no function. -/
namespace Go.Proofs.YtmfbffhbgelnnaaGreatDoor
open Go.RowKit

/-- Where a path goes: behind all but the greater ones at the end. -/
def putAt (l : List KnotM) (p : ByteArray) : Nat → Nat
  | 0 => 0
  | k + 1 => if Op.bytesLess p.toList (l.getD k knotZ).1.toList then putAt l p k else k + 1
def putK (l : List KnotM) (p : ByteArray) : List KnotM := l.take (putAt l p l.length) ++ (p, []) :: l.drop (putAt l p l.length)

theorem kcells_append : ∀ (a b : List KnotM) (ua ub : List Value), ua.length = a.length → kcells (a ++ b) (ua ++ ub) = kcells a ua ++ kcells b ub
  | [], b, [], ub, _ => rfl
  | x :: a, b, u :: ua, ub, h => by simp only [List.length_cons, Nat.add_right_cancel_iff] at h; simp only [List.cons_append, kcells, kcells_append a b ua ub h]
  | [], _, _ :: _, _, h => by simp at h
  | _ :: _, _, [], _, h => by simp at h

theorem kcells_take {l : List KnotM} {us : List Value} (h : us.length = l.length) (k : Nat) (hk : k ≤ l.length) : (kcells l us).take (k * 2) = kcells (l.take k) (us.take k) := by
  have e := kcells_append (l.take k) (l.drop k) (us.take k) (us.drop k) (by simp [h])
  rw [List.take_append_drop, List.take_append_drop] at e
  rw [e, List.take_left' (by rw [kcells_length _ _ (by simp [h]), List.length_take]; omega)]

theorem kcells_drop {l : List KnotM} {us : List Value} (h : us.length = l.length) (k : Nat) (hk : k ≤ l.length) : (kcells l us).drop (k * 2) = kcells (l.drop k) (us.drop k) := by
  have e := kcells_append (l.take k) (l.drop k) (us.take k) (us.drop k) (by simp [h])
  rw [List.take_append_drop, List.take_append_drop] at e
  rw [e, List.drop_left' (by rw [kcells_length _ _ (by simp [h]), List.length_take]; omega)]

theorem kcells_one : ∀ (l : List KnotM) (us : List Value), (∀ u ∈ us, ∃ a n c, u = .slice a n c) → ∀ u ∈ kcells l us, u.oneCell' = true
  | x :: l, v :: us, h, u, hu => by
    rw [kcells] at hu
    rcases List.mem_cons.1 hu with rfl | hu
    · rfl
    · rcases List.mem_cons.1 hu with rfl | hu
      · obtain ⟨a, n, c, rfl⟩ := h u (by simp); rfl
      · exact kcells_one l us (fun u hu => h u (List.mem_cons_of_mem _ hu)) u hu
  | [], _, _, u, hu => by cases hu
  | _ :: _, [], _, u, hu => by cases hu

/-- A knot put between the others. -/
theorem KOwnU.insert {w w' : World} {B k : Nat} {v v' : Value} {l : List KnotM} {us : List Value} {p : ByteArray} (h : KOwnU w B v l us) (hg : GrownL w w' [v])
    (hr : w'.ownsRow B 98 2 v' (l.take k ++ (p, []) :: l.drop k).length (kcells (l.take k ++ (p, []) :: l.drop k) (us.take k ++ .slice none 0 0 :: us.drop k))) :
    KOwnU w' B v' (l.take k ++ (p, []) :: l.drop k) (us.take k ++ .slice none 0 0 :: us.drop k) := by
  have hne : 2 ≠ 98 := by decide
  have hlen := h.1
  have hkeep : ∀ {n : Nat} {y : Value} {z : List Value}, w.ownsRow B 2 1 y n z → w'.ownsRow B 2 1 y n z := fun hy => own_keptL hy hg fun t ht => by
    rw [List.mem_singleton.1 ht]; exact apart_types hy h.2.1 hne
  have hnum : ∀ j (h1 : j < (l.take k ++ (p, []) :: l.drop k).length) (h2 : j < (us.take k ++ .slice none 0 0 :: us.drop k).length),
      w'.ownsRow B 2 1 (us.take k ++ .slice none 0 0 :: us.drop k)[j] (l.take k ++ (p, []) :: l.drop k)[j].2.length (ints (l.take k ++ (p, []) :: l.drop k)[j].2) := fun j h1 h2 => by
    have hlt : (us.take k).length = (l.take k).length := by simp [hlen]
    rcases Nat.lt_trichotomy j (l.take k).length with hj | hj | hj
    · have hjl : j < l.length := by rw [List.length_take] at hj; omega
      rw [List.getElem_append_left (by rw [hlt]; exact hj), List.getElem_append_left hj, List.getElem_take, List.getElem_take]
      exact hkeep (h.2.2.1 j hjl (by rw [hlen]; exact hjl))
    · subst hj
      have e1 : (us.take k ++ .slice none 0 0 :: us.drop k)[(l.take k).length] = .slice none 0 0 := by rw [List.getElem_append_right (by rw [hlt]; exact Nat.le_refl _)]; simp [hlt]
      have e2 : (l.take k ++ (p, []) :: l.drop k)[(l.take k).length] = (p, []) := by rw [List.getElem_append_right (Nat.le_refl _)]; simp
      rw [e1, e2]
      exact World.ownsRow_nil _ _ _ _
    · obtain ⟨i, rfl⟩ : ∃ i, j = (l.take k).length + (i + 1) := ⟨j - (l.take k).length - 1, by omega⟩
      have h3 : k + i < l.length := by
        rw [List.length_append, List.length_cons, List.length_drop] at h1
        rw [List.length_take] at h1
        omega
      have e1 : (us.take k ++ .slice none 0 0 :: us.drop k)[(l.take k).length + (i + 1)] = us[k + i]'(by omega) := by
        rw [List.getElem_append_right (by rw [hlt]; omega)]
        simp only [hlt, Nat.add_sub_cancel_left, List.getElem_cons_succ, List.getElem_drop]
      have e2 : (l.take k ++ (p, []) :: l.drop k)[(l.take k).length + (i + 1)] = l[k + i] := by
        rw [List.getElem_append_right (by omega)]
        simp only [Nat.add_sub_cancel_left, List.getElem_cons_succ, List.getElem_drop]
      rw [e1, e2]
      exact hkeep (h.2.2.1 (k + i) h3 (by omega))
  refine ⟨by simp [hlen], hr, hnum, ?_⟩
  rw [List.pairwise_cons]
  refine ⟨fun y hy => ?_, ?_⟩
  · obtain ⟨j, hj, rfl⟩ := List.mem_iff_getElem.1 hy
    exact apart_types hr (hnum j (by simp at hj ⊢; omega) hj) (Ne.symm hne)
  · have hp := (List.pairwise_cons.1 h.2.2.2).2
    rw [List.pairwise_append]
    have h1 := List.Pairwise.sublist (List.take_sublist k us) hp
    have h2 := List.Pairwise.sublist (List.drop_sublist k us) hp
    refine ⟨h1, List.pairwise_cons.2 ⟨fun y _ => .inl rfl, h2⟩, fun y hy z hz => ?_⟩
    rcases List.mem_cons.1 hz with rfl | hz
    · exact Apart.symm (.inl rfl)
    · rw [← List.take_append_drop k us, List.pairwise_append] at hp
      exact hp.2.2 y hy z hz

theorem putK_at {l : List KnotM} {p : ByteArray} {k : Nat} (h : putAt l p l.length = k) : putK l p = l.take k ++ (p, []) :: l.drop k := by rw [putK, h]

theorem knots_src {w : World} {B g n cap k : Nat} {l : List KnotM} {us : List Value} (h : KOwnU w B (.slice (some ⟨g, 0, none⟩) n cap) l us) (hn : n = l.length) (hk : k ≤ l.length) (c' : Nat) :
    SrcAt w (.slice (some ⟨g, k * 2, none⟩) (l.length - k) c') (l.length - k) (kcells (l.drop k) (us.drop k)) := by
  subst hn
  refine ⟨_, _, rfl, .inr ⟨_, rfl, fun j u hu => ?_⟩⟩
  rw [← kcells_drop h.1 k hk, List.getElem?_drop] at hu
  have := h.2.1.cells (g := g) rfl (k * 2 + j) u hu
  rw [Addr.add_lit] at this ⊢
  rw [Nat.zero_add] at this
  exact this

end Go.Proofs.YtmfbffhbgelnnaaGreatDoor

/- WithId's lists. Of no function. -/
namespace Go.Proofs.YtmfbffhbgelnnaaGreatDoor
open Go.RowKit

theorem find_from_pos (p : ByteArray) : ∀ (l : List KnotM) (k : Nat), 0 ≤ findFrom p l k → ∃ j, ∃ h : j < l.length, findFrom p l k = ((k + j : Nat) : Int) ∧ l[j].1.toList = p.toList
  | [], k, h => by simp [findFrom] at h
  | a :: l, k, h => by
    rw [findFrom] at h ⊢
    by_cases e : a.1.toList = p.toList
    · rw [if_pos (beq_iff_eq.2 e)]
      exact ⟨0, by simp, rfl, e⟩
    · rw [if_neg (by rw [beq_iff_eq]; exact e)] at h ⊢
      obtain ⟨j, hj, h1, h2⟩ := find_from_pos p l (k + 1) h
      exact ⟨j + 1, by simpa using hj, by rw [h1]; congr 1; omega, h2⟩

theorem find_pos {l : List KnotM} {p : ByteArray} (h : 0 ≤ find l p) : ∃ j, ∃ h : j < l.length, find l p = (j : Int) ∧ l[j].1.toList = p.toList := by
  obtain ⟨j, hj, h1, h2⟩ := find_from_pos p l 0 h
  exact ⟨j, hj, by rw [find, h1, Nat.zero_add], h2⟩

theorem find_from_mem (p : ByteArray) : ∀ (l : List KnotM) (k : Nat), (∃ x ∈ l, x.1.toList = p.toList) → 0 ≤ findFrom p l k
  | [], k, h => by obtain ⟨x, hx, _⟩ := h; cases hx
  | a :: l, k, h => by
    rw [findFrom]
    by_cases e : a.1.toList = p.toList
    · rw [if_pos (beq_iff_eq.2 e)]; omega
    · rw [if_neg (by rw [beq_iff_eq]; exact e)]
      refine find_from_mem p l (k + 1) ?_
      obtain ⟨x, hx, hxp⟩ := h
      rcases List.mem_cons.1 hx with rfl | hx
      · exact absurd hxp e
      · exact ⟨x, hx, hxp⟩

def put1 (l : List KnotM) (p : ByteArray) : List KnotM := if 0 ≤ find l p then l else putK l p
/-- The knots of all paths to p (at most n of them). -/
def putsN : Nat → List KnotM → ByteArray → List KnotM
  | 0, l, _ => l
  | n + 1, l, p => if p.toList = [] then l else putsN n (put1 l p) (above p)

theorem putsN_stop {n : Nat} {l : List KnotM} {p : ByteArray} (h : p.toList = []) : putsN n l p = l := by
  cases n with
  | zero => rfl
  | succ n => rw [putsN, if_pos h]

theorem put1_length (l : List KnotM) (p : ByteArray) : (put1 l p).length ≤ l.length + 1 ∧ l.length ≤ (put1 l p).length := by
  unfold put1 putK
  split
  · omega
  · simp; omega

theorem put1_keeps {l : List KnotM} {p : ByteArray} {x : KnotM} (h : x ∈ l) : x ∈ put1 l p := by
  unfold put1 putK
  split
  · exact h
  · rw [← List.take_append_drop (putAt l p l.length) l, List.mem_append] at h
    rw [List.mem_append, List.mem_cons]
    rcases h with h | h
    · exact .inl h
    · exact .inr (.inr h)

theorem put1_mem {l : List KnotM} {p : ByteArray} {x : KnotM} (h : x ∈ put1 l p) : x ∈ l ∨ x.2 = [] := by
  unfold put1 putK at h
  split at h
  · exact .inl h
  · rw [List.mem_append, List.mem_cons] at h
    rcases h with h | rfl | h
    · exact .inl (List.mem_of_mem_take h)
    · exact .inr rfl
    · exact .inl (List.mem_of_mem_drop h)

def IdsSmall (l : List KnotM) : Prop := ∀ x ∈ l, x.2.length ≤ 1048576
theorem IdsSmall.put {l : List KnotM} {p : ByteArray} (h : IdsSmall l) : IdsSmall (put1 l p) := fun x hx => by
  rcases put1_mem hx with h1 | h1
  · exact h x h1
  · rw [h1]; simp

theorem put1_has (l : List KnotM) (p : ByteArray) : ∃ x ∈ put1 l p, x.1.toList = p.toList := by
  unfold put1
  split
  · rename_i h
    obtain ⟨j, hj, _, h2⟩ := find_pos h
    exact ⟨l[j], List.getElem_mem hj, h2⟩
  · exact ⟨(p, []), by unfold putK; simp, rfl⟩

theorem putsN_keeps : ∀ (n : Nat) (l : List KnotM) (p : ByteArray) (x : KnotM), x ∈ l → x ∈ putsN n l p
  | 0, _, _, _, h => h
  | n + 1, l, p, x, h => by
    rw [putsN]; split
    · exact h
    · exact putsN_keeps n _ _ x (put1_keeps h)

theorem putsN_has {n : Nat} {l : List KnotM} {p : ByteArray} (hn : 1 ≤ n) (hp : p.toList ≠ []) : ∃ x ∈ putsN n l p, x.1.toList = p.toList := by
  obtain ⟨m, rfl⟩ : ∃ m, n = m + 1 := ⟨n - 1, by omega⟩
  rw [putsN, if_neg hp]
  obtain ⟨x, hx, e⟩ := put1_has l p
  exact ⟨x, putsN_keeps m _ _ x hx, e⟩

theorem aboveTo_size (s : ByteArray) : ∀ k, k ≤ s.size → (aboveTo s k).size ≤ k - 1
  | 0, _ => by rw [aboveTo]; exact Nat.le_refl _
  | k + 1, h => by
    rw [aboveTo]; split
    · show (s.extract 0 k).data.size ≤ _
      rw [← Array.length_toList, extract_list]; simp; omega
    · have := aboveTo_size s k (by omega); omega

theorem above_size (s : ByteArray) : (above s).size ≤ s.size - 1 := aboveTo_size s s.size (Nat.le_refl _)

theorem size_pos {s : ByteArray} (h : s.toList ≠ []) : 1 ≤ s.size := by
  rw [Lib.toList_data] at h
  show 1 ≤ s.data.size
  rw [← Array.length_toList]
  cases e : s.data.toList with
  | nil => exact absurd e h
  | cons => simp

/-- 'WithId'. -/
def badId (l : List KnotM) (f : ByteArray) (id : Int) : Bool := !(filterP (parts f 47)) || (!(idOk id) || (decide (0 ≤ find l f) && hasId (l.getD (find l f).toNat knotZ).2 id))
def setIds (l : List KnotM) (k : Nat) (id : Int) : List KnotM := l.set k ((l.getD k knotZ).1, into (l.getD k knotZ).2 id)
def withL (l : List KnotM) (f : ByteArray) (id : Int) : List KnotM × Bool :=
  if trieB l then (if badId l f id then (l, false) else (setIds (putsN f.size l f) (find (putsN f.size l f) f).toNat id, true)) else ([], false)

/-- One knot's numbers laid anew. -/
theorem KOwnU.setIds {w : World} {B g n cap k : Nat} {l : List KnotM} {us : List Value} {z : List Int} {u : Value} (h : KOwnU w B (.slice (some ⟨g, 0, none⟩) n cap) l us) (hn : n = l.length) (hk : k < l.length)
    (ho : w.ownsRow B 2 1 u z.length (ints z)) (hu : ∀ y ∈ us, Apart u y) : KOwnU (w.setCell ⟨g, k * 2 + 1, none⟩ u) B (.slice (some ⟨g, 0, none⟩) n cap) (l.set k (l[k].1, z)) (us.set k u) := by
  subst hn
  have hne : 2 ≠ 98 := by decide
  have hap := h.2.2.2
  have hug : u.ownBlock ≠ some g := by
    rcases apart_types ho h.2.1 hne with e | e
    · rw [e]; intro e2; cases e2
    · exact e
  have hkc := kcells_length l us h.1
  have hpk : (kcells l us).set (k * 2) (.string l[k].1) = kcells l us := by
    apply List.ext_getElem?
    intro i
    rw [List.getElem?_set]
    split
    · rename_i e
      subst e
      rw [if_pos (by rw [hkc]; omega), kcells_path l us k hk h.1]
    · rfl
  have hrow : (w.setCell ⟨g, k * 2 + 1, none⟩ u).ownsRow B 98 2 (.slice (some ⟨g, 0, none⟩) l.length cap) (l.set k (l[k].1, z)).length (kcells (l.set k (l[k].1, z)) (us.set k u)) := by
    rw [List.length_set, ← kcells_set l us k (l[k].1, z) u h.1 hk, hpk]
    exact (h.2.1.stored _ _).1
  refine ⟨by simp [h.1], hrow, fun j h1 h2 => ?_, ?_⟩
  · rw [List.length_set] at h1 h2
    rw [List.getElem_set]
    simp only [List.getElem_set]
    split
    · exact own_kept ho hug
    · have hne2 : us[j].ownBlock ≠ some g := by
        rcases apart_types (h.2.2.1 j h1 h2) h.2.1 hne with e | e
        · rw [e]; intro e2; cases e2
        · exact e
      exact own_kept (h.2.2.1 j h1 h2) hne2
  · exact apart_set hap fun y hy => by
      rcases List.mem_cons.1 hy with rfl | hy
      · exact apart_types ho h.2.1 hne
      · exact hu y hy

theorem KOwn.mono {w : World} {A B : Nat} {v : Value} {l : List KnotM} (h : KOwn w B v l) (hb : A ≤ B) : KOwn w A v l := by
  obtain ⟨us, h1, h2, h3, h4⟩ := h
  exact ⟨us, h1, own_mono h2 hb, fun j a b => own_mono (h3 j a b) hb, h4⟩

theorem KOwnU.cells {w : World} {B : Nat} {v : Value} {l : List KnotM} {us : List Value} (h : KOwnU w B v l us) (hp : 0 < l.length) :
    ∃ g c cur, v = .slice (some ⟨g, 0, none⟩) l.length c ∧ B ≤ g ∧ w.heap[g]? = some (.cells cur 98 (0, 0)) := by
  rcases h.2.1.2 with ⟨_, h0⟩ | ⟨g, cap, cur, h1, h2, h3, _⟩
  · omega
  · exact ⟨g, cap, cur, h1, h2, h3⟩

theorem k2c {w w' : World} {B : Nat} {v : Value} {l : List KnotM} (h : KOwn w B v l) (hb : Below w.heap.size w w') : KOwn w' B v l := h.below hb

end Go.Proofs.YtmfbffhbgelnnaaGreatDoor

/- How big a trie may grow by what is put in. -/
namespace Go.Proofs.YtmfbffhbgelnnaaGreatDoor
open Go.RowKit

/-- A list of knots of no more than b in each way. -/
def FitT (b : Nat) (l : List KnotM) : Prop := l.length ≤ b ∧ ∀ x ∈ l, x.1.size ≤ b ∧ x.2.length ≤ b

theorem FitT.small {b : Nat} {l : List KnotM} (h : FitT b l) (hb : b ≤ 1048576) : KSmall l := ⟨Nat.le_trans h.1 hb, fun x hx => ⟨Nat.le_trans (h.2 x hx).1 hb, Nat.le_trans (h.2 x hx).2 hb⟩⟩
theorem FitT.mono {b c : Nat} {l : List KnotM} (h : FitT b l) (hb : b ≤ c) : FitT c l := ⟨Nat.le_trans h.1 hb, fun x hx => ⟨Nat.le_trans (h.2 x hx).1 hb, Nat.le_trans (h.2 x hx).2 hb⟩⟩

theorem put1_fit {b : Nat} {l : List KnotM} {p : ByteArray} (h : FitT b l) (hp : p.size ≤ b) : FitT (b + 1) (put1 l p) := by
  refine ⟨Nat.le_trans (put1_length l p).1 (by have := h.1; omega), fun x hx => ?_⟩
  unfold put1 putK at hx
  split at hx
  · have := h.2 x hx; omega
  · rw [List.mem_append, List.mem_cons] at hx
    rcases hx with h1 | rfl | h1
    · have := h.2 x (List.mem_of_mem_take h1); omega
    · exact ⟨by show p.size ≤ _; omega, by simp⟩
    · have := h.2 x (List.mem_of_mem_drop h1); omega

theorem putsN_fit : ∀ (n : Nat) {b : Nat} {l : List KnotM} {p : ByteArray}, FitT b l → p.size ≤ b → FitT (b + n) (putsN n l p)
  | 0, _, _, _, h, _ => h
  | n + 1, b, l, p, h, hp => by
    rw [putsN]
    split
    · exact h.mono (by omega)
    · have := putsN_fit n (put1_fit h hp) (by have := above_size p; omega : (above p).size ≤ b + 1)
      exact this.mono (by omega)

theorem withL_fit {b : Nat} {l : List KnotM} {f : ByteArray} {id : Int} (h : FitT b l) (hf : f.size ≤ b) : FitT (b + f.size + 1) (withL l f id).1 := by
  unfold withL
  split
  · split
    · exact h.mono (by omega)
    · have hp := putsN_fit f.size h hf
      refine ⟨?_, fun x hx => ?_⟩
      · dsimp only; unfold setIds; rw [List.length_set]; have := hp.1; omega
      · dsimp only at hx
        unfold setIds at hx
        rcases List.mem_or_eq_of_mem_set hx with h1 | rfl
        · have := hp.2 x h1; omega
        · by_cases hk : (find (putsN f.size l f) f).toNat < (putsN f.size l f).length
          · have e : (putsN f.size l f).getD (find (putsN f.size l f) f).toNat knotZ = (putsN f.size l f)[(find (putsN f.size l f) f).toNat] := by rw [List.getD_eq_getElem?_getD, List.getElem?_eq_getElem hk]; rfl
            rw [e]
            have := hp.2 _ (List.getElem_mem hk)
            exact ⟨by dsimp only; omega, by dsimp only; rw [into_length]; omega⟩
          · have e : (putsN f.size l f).getD (find (putsN f.size l f) f).toNat knotZ = knotZ := by rw [List.getD_eq_getElem?_getD, List.getElem?_eq_none (by omega)]; rfl
            rw [e]
            exact ⟨by show (⟨#[]⟩ : ByteArray).size ≤ _; exact Nat.zero_le _, by dsimp only; rw [into_length]; simp [knotZ]⟩
  · exact ⟨Nat.zero_le _, fun x hx => by cases hx⟩

end Go.Proofs.YtmfbffhbgelnnaaGreatDoor

/- When a broker is right; the trie that its live subs make. -/
namespace Go.Proofs.YtmfbffhbgelnnaaGreatDoor
open Go.RowKit

/-- The trie behind one more sub. -/
def stepT (l : List KnotM) (s : SubM) (i : Nat) : List KnotM := if s.live then (withL l s.fil i).1 else l
/-- The trie of the first k subs. -/
def trieTo : List SubM → Nat → List KnotM
  | _, 0 => [knotZ]
  | l, k + 1 => match l[k]? with
    | some s => stepT (trieTo l k) s k
    | none => trieTo l k
theorem trieTo_succ {l : List SubM} {k : Nat} (h : k < l.length) : trieTo l (k + 1) = stepT (trieTo l k) l[k] k := by
  rw [trieTo, List.getElem?_eq_getElem h]
theorem stepT_live {l : List KnotM} {s : SubM} {i : Nat} (h : s.live = true) : stepT l s i = (withL l s.fil i).1 := by unfold stepT; rw [if_pos h]
theorem stepT_dead {l : List KnotM} {s : SubM} {i : Nat} (h : s.live = false) : stepT l s i = l := by unfold stepT; rw [h]; rfl

theorem trieTo_fit {S : Nat} {l : List SubM} : ∀ k, (∀ j (hj : j < l.length), j < k → l[j].fil.size ≤ S) → FitT (S + 1 + k * (S + 1)) (trieTo l k)
  | 0, _ => ⟨by simp [trieTo], fun x hx => by
      rw [trieTo] at hx
      rw [List.mem_singleton.1 hx]
      exact ⟨Nat.zero_le _, Nat.zero_le _⟩⟩
  | k + 1, hs => by
    have ih := trieTo_fit k (fun j hj h => hs j hj (by omega))
    have e : S + 1 + (k + 1) * (S + 1) = (S + 1 + k * (S + 1)) + (S + 1) := by rw [Nat.add_mul]; omega
    rw [e]
    by_cases h : k < l.length
    · rw [trieTo_succ h]
      have hf := hs k h (Nat.lt_succ_self k)
      unfold stepT
      split
      · exact (withL_fit ih (by omega)).mono (by omega)
      · exact ih.mono (by omega)
    · rw [trieTo, List.getElem?_eq_none (by omega)]
      exact ih.mono (by omega)

/-- What a broker's rightness asks ahead of its subs. -/
def headB (b : BrokerM) : Bool := inB b.max 1 100 && (decide ((b.subs.length : Int) ≤ b.max) && (inB b.seq 0 100000 && (keepB b.keep && (uptoB b.keep b.seq && (ringB b.rcap b.ring && uptoB b.ring b.seq)))))
/-- Are the subs of those right? -/
def subsB (l : List SubM) (n : Int) (closed : Bool) : Bool := l.all fun s => subB s n closed
def brokerB (b : BrokerM) : Bool := headB b && (subsB b.subs b.seq b.closed && triesB (trieTo b.subs b.subs.length) b.trie)

theorem subsB_succ {l : List SubM} {n : Int} {c : Bool} {k : Nat} (h : k < l.length) (ht : subsB (l.take k) n c = true) (hk : subB l[k] n c = true) : subsB (l.take (k + 1)) n c = true := by
  unfold subsB at ht ⊢
  rw [List.take_succ_eq_append_getElem h, List.all_append, ht]
  simp [hk]
theorem subsB_bad {l : List SubM} {n : Int} {c : Bool} {k : Nat} (h : k < l.length) (hk : subB l[k] n c = false) : subsB l n c = false := by
  unfold subsB
  rw [List.all_eq_false]
  exact ⟨l[k], List.getElem_mem h, by rw [hk]; simp⟩
theorem subsB_fil {l : List SubM} {n : Int} {c : Bool} {k : Nat} (h : subsB (l.take k) n c = true) (j : Nat) (hj : j < l.length) (hk : j < k) : l[j].fil.size ≤ 77 := by
  unfold subsB at h
  rw [List.all_eq_true] at h
  have h2 := h l[j] (List.mem_iff_getElem.2 ⟨j, by rw [List.length_take]; omega, by rw [List.getElem_take]⟩)
  unfold subB at h2
  rw [Bool.and_eq_true] at h2
  exact filter_size h2.1
theorem trieTo_small {l : List SubM} {n : Int} {c : Bool} {k : Nat} (h : subsB (l.take k) n c = true) (hk : k ≤ 100) : KSmall (trieTo l k) :=
  ((trieTo_fit k (fun j hj hjk => subsB_fil h j hj hjk)).mono (show _ ≤ 1048576 by have : k * (77 + 1) ≤ 100 * (77 + 1) := Nat.mul_le_mul_right _ hk; omega)).small (Nat.le_refl _)
theorem brokerB_head {b : BrokerM} (h : headB b = false) : brokerB b = false := by unfold brokerB; rw [h]; rfl
theorem brokerB_sub {b : BrokerM} {k : Nat} (h : k < b.subs.length) (hk : subB b.subs[k] b.seq b.closed = false) : brokerB b = false := by
  unfold brokerB
  rw [subsB_bad h hk]
  simp
theorem brokerB_end {b : BrokerM} (h : headB b = true) (h2 : subsB b.subs b.seq b.closed = true) : brokerB b = triesB (trieTo b.subs b.subs.length) b.trie := by
  unfold brokerB
  rw [h, h2]
  simp

end Go.Proofs.YtmfbffhbgelnnaaGreatDoor

/- The walks of the program's looks at a broker's subs, at its Seq, at whether it is Closed. -/
namespace Go.Proofs.YtmfbffhbgelnnaaGreatDoor
open Go.RowKit

def subsP (l : List SubM) (most : Int) : Bool := (decide (1 ≤ most) && decide (most ≤ 100)) && (decide ((l.length : Int) ≤ most) && l.all subP)
def seqsP (b : BrokerM) : Bool := (decide (0 ≤ b.seq) && decide (b.seq ≤ 100000)) && (uptoB b.keep b.seq && (uptoB b.ring b.seq && b.subs.all fun s => uptoB s.box.q b.seq))
def closedP (b : BrokerM) : Bool := !b.closed || b.subs.all fun s => s.box.shut

theorem any_not {α : Type} (l : List α) (p : α → Bool) : (l.any fun x => !p x) = !l.all p := by
  rw [List.not_all_eq_any_not]

set_option maxRecDepth 100000 in
set_option maxHeartbeats 1600000 in
theorem subsOk_any (v : Value) (l : List SubM) (most : Int) (m : Int) (w : World) (hl : l.length ≤ 1048576) (hf : ∀ s ∈ l, s.fil.size ≤ 1048576) (hq : ∀ s ∈ l, s.box.q.length ≤ 1048576 ∧ ∀ x ∈ s.box.q, x.2.2.1.size ≤ 1048576) (hv : SubsAt w v l) (hm : w.cell? ⟨0, 0, none⟩ = some (.int .i64 m)) :
    Calls Tryz.prog 41 #[v, .int .i64 most] w fun e w' => e = .returned (.bool (subsP l most)) ∧ Below w.heap.size w w' := by
  have CC := Lib.hid (containsS_any v l (fun x => !subP x) 82 #[] (enters_of Tryz.func82 (by kernel_rfl) rfl) w (by omega) hv (fun W x u hx hb hu => subC_any x u m W (hf x hx) (hq x hx) hu ((hb.cell (World.block_lt_of_cell? _ _ hm)).trans hm)))
  have HQ : Hid (subsP l most = ((decide (1 ≤ most) && decide (most ≤ 100)) && (decide ((l.length : Int) ≤ most) && l.all subP))) := Lib.hid rfl
  have HA := Lib.hid (any_not l subP)
  generalize (l.any fun x => !subP x) = an at CC HA
  generalize subsP l most = R at HQ ⊢
  generalize l.all subP = al at HA HQ
  obtain ⟨ua, uc, rfl, _, _, _⟩ := hv
  clear hf hq hm
  go_enter Tryz.func41, Tryz.ntmps41
  by_cases h1 : 1 ≤ most
  · have g1 : decide (most < 1) = false := decide_eq_false (by omega)
    by_cases h2 : most ≤ 100
    · have g2 : decide (100 < most) = false := decide_eq_false (by omega)
      by_cases h3 : (l.length : Int) ≤ most
      · have g3 : decide (most < (l.length : Int)) = false := decide_eq_false (by omega)
        have HE := Lib.hid (show R = !an by rw [HQ.out, HA.out, decide_eq_true h1, decide_eq_true h2, decide_eq_true h3]; simp)
        clear h1 h2 h3
        go_wp2_with fail
        refine CC.out.mono ?_
        rintro e w1 ⟨rfl, hb⟩
        have HB := Lib.hid hb
        clear hb CC
        go_wp2
        go_ret
        exact ⟨ret_bool HE.out.symm, HB.out⟩
      · have g3 : decide (most < (l.length : Int)) = true := decide_eq_true (by omega)
        have HE := Lib.hid (show R = false by rw [HQ.out, decide_eq_false h3]; simp)
        clear h1 h2 h3
        go_wp2
        go_ret
        exact ⟨ret_bool HE.out.symm, Below.refl _ _⟩
    · have g2 : decide (100 < most) = true := decide_eq_true (by omega)
      have HE := Lib.hid (show R = false by rw [HQ.out, decide_eq_false h2]; simp)
      clear h1 h2
      go_wp2
      go_ret
      exact ⟨ret_bool HE.out.symm, Below.refl _ _⟩
  · have g1 : decide (most < 1) = true := decide_eq_true (by omega)
    have HE := Lib.hid (show R = false by rw [HQ.out, decide_eq_false h1]; simp)
    clear h1
    go_wp2
    go_ret
    exact ⟨ret_bool HE.out.symm, Below.refl _ _⟩

/-! ### closedOk -/

set_option maxRecDepth 100000 in
set_option maxHeartbeats 1600000 in
theorem closedOk_any (b : BrokerM) (v : BrV) (w : World) (hl : b.subs.length ≤ 1048576) (hv : BrAt w v b) :
    Calls Tryz.prog 45 #[bragg b v] w fun e w' => e = .returned (.bool (closedP b)) ∧ Below w.heap.size w w' := by
  have CC := Lib.hid (fun wx (h : SubsAt wx v.s b.subs) => containsS_any v.s b.subs (fun x => !x.box.shut) 88 #[] (enters_of Tryz.func88 (by kernel_rfl) rfl) wx (by omega) h (fun W x u hx hb hu => openC_any x u W))
  have HQ : Hid (closedP b = (!b.closed || b.subs.all fun s => s.box.shut)) := Lib.hid rfl
  have HA := Lib.hid (any_not b.subs fun s => s.box.shut)
  generalize (b.subs.any fun x => !x.box.shut) = an at CC HA
  generalize closedP b = R at HQ ⊢
  generalize (b.subs.all fun s => s.box.shut) = al at HA HQ
  have HV := Lib.hid hv
  obtain ⟨a1, c1, a2, c2, a3, c3, a5, c5, rfl⟩ := hv.slices
  clear hv
  go_enter Tryz.func45, Tryz.ntmps45
  dsimp only at CC
  go_upto_region 1 with (fail)
  have b0 : Below w.heap.size w (w.alloc (.cells (brcells b ⟨.slice a1 b.subs.length c1, .slice a2 b.trie.length c2, .slice a3 b.keep.length c3, .slice a5 b.ring.length c5⟩) 37)) := (Below.refl _ _).alloc (Nat.le_refl _) _
  have r0 : BBr (w.alloc (.cells (brcells b ⟨.slice a1 b.subs.length c1, .slice a2 b.trie.length c2, .slice a3 b.keep.length c3, .slice a5 b.ring.length c5⟩) 37)) w.heap.size 37 b ⟨.slice a1 b.subs.length c1, .slice a2 b.trie.length c2, .slice a3 b.keep.length c3, .slice a5 b.ring.length c5⟩ := BBr.new _ _ _ _
  have v0 := HV.out.below b0
  change Code.wp _ _ _ _ (w.alloc (.cells (brcells b ⟨.slice a1 b.subs.length c1, .slice a2 b.trie.length c2, .slice a3 b.keep.length c3, .slice a5 b.ring.length c5⟩) 37))
  generalize w.alloc (.cells (brcells b ⟨.slice a1 b.subs.length c1, .slice a2 b.trie.length c2, .slice a3 b.keep.length c3, .slice a5 b.ring.length c5⟩) 37) = w0 at b0 r0 v0 ⊢
  obtain ⟨_, x1, _, _, _, _, _, x7⟩ := r0.cells
  dsimp only at x1 x7
  have B0 := Lib.hid b0
  have V0 := Lib.hid v0.subs
  clear b0 r0 v0 HV
  dsimp only at V0
  generalize b.closed = cl at x7 HQ
  cases cl
  · have HE := Lib.hid (show R = true by rw [HQ.out]; rfl)
    go_wp2
    go_ret
    exact ⟨ret_bool HE.out.symm, B0.out⟩
  · have HE := Lib.hid (show R = !an by rw [HQ.out, HA.out]; simp)
    go_wp2_with fail
    refine (CC.out _ V0.out).mono ?_
    rintro e w1 ⟨rfl, hb⟩
    have HB := Lib.hid (below_end B0.out hb)
    clear hb CC x1 x7 B0 V0
    go_wp2
    go_ret
    exact ⟨ret_bool HE.out.symm, HB.out⟩

/-! ### seqsOk -/

set_option maxRecDepth 100000 in
set_option maxHeartbeats 3200000 in
theorem seqsOk_any (b : BrokerM) (v : BrV) (w : World) (hs : BrSmall b) (hv : BrAt w v b) :
    Calls Tryz.prog 44 #[bragg b v] w fun e w' => e = .returned (.bool (seqsP b)) ∧ Below w.heap.size w w' := by
  have C1 := Lib.hid (fun wx (h : MsgsAt wx v.k b.keep) => later_any v.k b.keep b.seq wx (by have := hs.keep; omega) h)
  have C2 := Lib.hid (fun wx (h : MsgsAt wx v.r b.ring) => later_any v.r b.ring b.seq wx (by have := hs.ring; omega) h)
  have CC := Lib.hid (fun F wx (h : SubsAt wx v.s b.subs) (hF : wx.cell? ⟨F, 6, none⟩ = some (.int .i64 b.seq)) => containsS_any v.s b.subs (fun x => !uptoB x.box.q b.seq) 87 #[.pointer (some ⟨F, 0, none⟩)] (enters_of Tryz.func87 (by kernel_rfl) rfl) wx (by have := hs.subs; omega) h (fun W x u hx hb hu => seqC_any x u b.seq F W (by have := (hs.qs x hx).1; omega) hu ((hb.cell (World.block_lt_of_cell? _ _ hF)).trans hF)))
  have HQ : Hid (seqsP b = ((decide (0 ≤ b.seq) && decide (b.seq ≤ 100000)) && (uptoB b.keep b.seq && (uptoB b.ring b.seq && b.subs.all fun s => uptoB s.box.q b.seq)))) := Lib.hid rfl
  have HA := Lib.hid (any_not b.subs fun s => uptoB s.box.q b.seq)
  generalize (b.subs.any fun x => !uptoB x.box.q b.seq) = an at CC HA
  generalize seqsP b = R at HQ ⊢
  generalize (b.subs.all fun s => uptoB s.box.q b.seq) = al at HA HQ
  generalize uptoB b.keep b.seq = p1 at C1 HQ
  generalize uptoB b.ring b.seq = p2 at C2 HQ
  have HV := Lib.hid hv
  obtain ⟨a1, c1, a2, c2, a3, c3, a5, c5, rfl⟩ := hv.slices
  clear hv hs
  go_enter Tryz.func44, Tryz.ntmps44
  dsimp only at CC C1 C2
  go_upto_region 1 with (fail)
  have b0 : Below w.heap.size w (w.alloc (.cells (brcells b ⟨.slice a1 b.subs.length c1, .slice a2 b.trie.length c2, .slice a3 b.keep.length c3, .slice a5 b.ring.length c5⟩) 37)) := (Below.refl _ _).alloc (Nat.le_refl _) _
  have r0 : BBr (w.alloc (.cells (brcells b ⟨.slice a1 b.subs.length c1, .slice a2 b.trie.length c2, .slice a3 b.keep.length c3, .slice a5 b.ring.length c5⟩) 37)) w.heap.size 37 b ⟨.slice a1 b.subs.length c1, .slice a2 b.trie.length c2, .slice a3 b.keep.length c3, .slice a5 b.ring.length c5⟩ := BBr.new _ _ _ _
  have v0 := HV.out.below b0
  change Code.wp _ _ _ _ (w.alloc (.cells (brcells b ⟨.slice a1 b.subs.length c1, .slice a2 b.trie.length c2, .slice a3 b.keep.length c3, .slice a5 b.ring.length c5⟩) 37))
  generalize w.alloc (.cells (brcells b ⟨.slice a1 b.subs.length c1, .slice a2 b.trie.length c2, .slice a3 b.keep.length c3, .slice a5 b.ring.length c5⟩) 37) = w0 at b0 r0 v0 ⊢
  obtain ⟨x0, x1, x2, x3, x4, x5, x6, x7⟩ := r0.cells
  dsimp only at x0 x1 x2 x3 x4 x5 x6 x7
  have B0 := Lib.hid b0
  have V0 := Lib.hid v0
  have R0 := Lib.hid r0
  clear b0 r0 v0 HV x0 x1 x2 x4 x7
  generalize hsq : b.seq = sq at x6 HQ C1 C2 CC
  have HSQ := Lib.hid hsq
  clear hsq
  by_cases h1 : 0 ≤ sq
  · have g1 : decide (sq < 0) = false := decide_eq_false (by omega)
    by_cases h2 : sq ≤ 100000
    · have g2 : decide (100000 < sq) = false := decide_eq_false (by omega)
      replace HQ := Lib.hid (show R = (p1 && (p2 && al)) by rw [HQ.out, decide_eq_true h1, decide_eq_true h2]; simp)
      clear h1 h2
      go_wp2_with fail
      refine (C1.out _ V0.out.keep).mono ?_
      rintro e w1 ⟨rfl, hb⟩
      have B1 := Lib.hid (below_end B0.out hb)
      have V1 := Lib.hid (V0.out.below hb)
      have r1 := R0.out.below hb
      clear hb B0 V0 R0 x3 x5 x6 C1
      obtain ⟨_, x1, _, x3, _, x5, x6, _⟩ := r1.cells
      dsimp only at x1 x3 x5 x6
      rw [HSQ.out] at x6
      have R1 := Lib.hid r1
      clear r1
      cases p1
      · have HE := Lib.hid (show R = false by rw [HQ.out]; rfl)
        go_wp2
        go_ret
        exact ⟨ret_bool HE.out.symm, B1.out⟩
      go_wp2_with fail
      refine (C2.out _ V1.out.ring).mono ?_
      rintro e w2 ⟨rfl, hb⟩
      have B2 := Lib.hid (below_end B1.out hb)
      have V2 := Lib.hid (V1.out.below hb)
      have r2 := R1.out.below hb
      clear hb B1 V1 R1 x1 x3 x5 x6 C2
      obtain ⟨_, x1, _, x3, _, x5, x6, _⟩ := r2.cells
      dsimp only at x1 x3 x5 x6
      rw [HSQ.out] at x6
      cases p2
      · have HE := Lib.hid (show R = false by rw [HQ.out]; rfl)
        go_wp2
        go_ret
        exact ⟨ret_bool HE.out.symm, B2.out⟩
      have HE := Lib.hid (show R = !an by rw [HQ.out, HA.out]; simp)
      have CF := Lib.hid (CC.out w.heap.size w2 V2.out.subs x6)
      clear CC r2
      go_wp2_with fail
      refine CF.out.mono ?_
      rintro e w3 ⟨rfl, hb⟩
      have B3 := Lib.hid (below_end B2.out hb)
      clear hb CF V2 B2 x1 x3 x5 x6
      go_wp2
      go_ret
      exact ⟨ret_bool HE.out.symm, B3.out⟩
    · have g2 : decide (100000 < sq) = true := decide_eq_true (by omega)
      have HE := Lib.hid (show R = false by rw [HQ.out, decide_eq_false h2]; simp)
      clear h1 h2
      go_wp2
      go_ret
      exact ⟨ret_bool HE.out.symm, B0.out⟩
  · have g1 : decide (sq < 0) = true := decide_eq_true (by omega)
    have HE := Lib.hid (show R = false by rw [HQ.out, decide_eq_false h1]; simp)
    clear h1
    go_wp2
    go_ret
    exact ⟨ret_bool HE.out.symm, B0.out⟩

end Go.Proofs.YtmfbffhbgelnnaaGreatDoor

/- (STrie9, what names no function of the laws.) -/
namespace Go.Proofs.YtmfbffhbgelnnaaGreatDoor
open Go.RowKit

def idsStep (t : ByteArray) (out : List Int) (x : KnotM) : List Int := if matchB x.1 t then x.2.foldl addId out else out
def idsTo (l : List KnotM) (t : ByteArray) (k : Nat) : List Int := ((l.take k).drop 1).foldl (idsStep t) []
/-- 'IdsFor'. -/
def idsL (l : List KnotM) (t : ByteArray) : List Int := if trieB l then (l.drop 1).foldl (idsStep t) [] else []

theorem idsTo_next {l : List KnotM} {t : ByteArray} {k : Nat} (h : k < l.length) (h1 : 1 ≤ k) : idsTo l t (k + 1) = idsStep t (idsTo l t k) l[k] := by
  unfold idsTo
  rw [List.take_succ_eq_append_getElem h, List.drop_append_of_le_length (by rw [List.length_take]; omega), List.foldl_append]; rfl

theorem foldl_rises : ∀ (ids out : List Int), (∀ x ∈ ids, idOk x = true) → rises out = true → rises (ids.foldl addId out) = true
  | [], _, _, h => h
  | x :: ids, out, h1, h => foldl_rises ids (addId out x) (fun y hy => h1 y (List.mem_cons_of_mem _ hy)) (addId_rises h (h1 x (by simp)))

theorem knot_rises {l : List KnotM} (h : trieB l = true) {k : Nat} (hk : k < l.length) (h1 : 1 ≤ k) : rises l[k].2 = true := by
  cases e : rises l[k].2
  · rw [knotsTo_bad h1 hk (by rw [knotOk, e]; simp)] at h; cases h
  · rfl

end Go.Proofs.YtmfbffhbgelnnaaGreatDoor

/- Those for a topic rise. -/
namespace Go.Proofs.YtmfbffhbgelnnaaGreatDoor
open Go.RowKit

theorem steps_rise (t : ByteArray) : ∀ (l : List KnotM) (out : List Int), (∀ k ∈ l, rises k.2 = true) → rises out = true → rises (l.foldl (idsStep t) out) = true
  | [], _, _, h => h
  | x :: l, out, h1, h => by
    rw [List.foldl_cons]
    refine steps_rise t l _ (fun k hk => h1 k (List.mem_cons_of_mem _ hk)) ?_
    unfold idsStep
    split
    · exact foldl_rises _ _ (rises_pair.1 (h1 x (by simp))).1 h
    · exact h

theorem idsL_rises {l : List KnotM} {t : ByteArray} : rises (idsL l t) = true := by
  unfold idsL
  split
  · rename_i h
    refine steps_rise t _ _ (fun k hk => ?_) rfl
    obtain ⟨j, hj, rfl⟩ := List.mem_iff_getElem.1 hk
    rw [List.length_drop] at hj
    rw [List.getElem_drop]
    exact knot_rises h (by omega) (by omega)
  · rfl

end Go.Proofs.YtmfbffhbgelnnaaGreatDoor
