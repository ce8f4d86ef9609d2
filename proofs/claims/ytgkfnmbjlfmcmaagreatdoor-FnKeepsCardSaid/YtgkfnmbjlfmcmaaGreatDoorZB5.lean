/- Small texts, laid together. -/
import Derived.Test.YtgkfnmbjlfmcmaaGreatDoorZKeepE
import Derived.Maps.RangeWalk
import Derived.Lib.SlMapFilter
import Derived.Sort.KeysCollected
import Derived.Test.YtgkfnmbjlfmcmaaGreatDoorZB2
import Derived.WalkKit
import Derived.Shelf.SlSortCmp.KitK
import Derived.Maps.OwnSet
import Derived.StringKeys
import Derived.Test.YtgkfnmbjlfmcmaaGreatDoorZIMatch
import Derived.Deep.LoopGhost
import Derived.Test.YtgkfnmbjlfmcmaaGreatDoorZB1
import Derived.Shelf.SlSortCmp.NoneTotal
import Derived.Shelf.AbstractIn
import Derived.RangeFuncNested
import Derived.RangeFuncMany
import Derived.RangeFuncLeaves
import Derived.Sort.MapsRangeIn
import Derived.OwnWalkIn
import Derived.TacticsInMore
import Derived.RegionIn
import Derived.LoopNIn
import Derived.LoopIn
import Derived.Shelf.Abstract
import Derived.RangeFuncBox
import Derived.RangeFuncWrites
import Derived.Maps.OwnIn
import Derived.Test.YtgkfnmbjlfmcmaaGreatDoorZB3
set_option linter.unusedSimpArgs false
set_option linter.unusedVariables false
/- A map of messages by their topics: what it holds. -/
namespace Go.Proofs.YtgkfnmbjlfmcmaaGreatDoor
open Go.RowKit Go.Maps Go.ChangeMaps

/-- How a message reads as an element of a map. -/
def msgElem : Value → Option (DataW MsgM × List MemPlace)
  | .agg cs => match cs.toList with
    | [.int .i64 q, .int .i64 f, .string p, .int .i64 d] => some (.held (q, f, p, d), [])
    | _ => none
  | _ => none

theorem msgElem_mk (x : MsgM) : msgElem (magg x) = some (.held x, []) := rfl

theorem msgElem_inv {v : Value} {z : DataW MsgM × List MemPlace} (h : msgElem v = some z) : ∃ x : MsgM, v = magg x ∧ z = (.held x, []) := by
  unfold msgElem at h
  split at h
  · rename_i cs
    split at h
    · rename_i q f p d e
      refine ⟨(q, f, p, d), ?_, (Option.some.inj h).symm⟩
      cases cs with | mk l => dsimp only at e; subst e; rfl
    · cases h
  · cases h

abbrev tk (x : MsgM) : List UInt8 := x.2.2.1.data.toList
def entM (x : MsgM) : Lit × DataW MsgM := (.string (tk x), .held x)

/-- The map D holds the messages l, each by its topic. -/
def MapIs (D : DataW MsgM) (l : List MsgM) : Prop := ∃ es, D = .map es ∧ es.Pairwise (fun p q => p.1 ≠ q.1) ∧ es.Perm (l.map entM)

theorem sameT_tk (a b : MsgM) : sameT a.2.2.1 b.2.2.1 = (tk a == tk b) := by
  unfold sameT; rw [Go.ByteArray.toList_eq, Go.ByteArray.toList_eq]

theorem tk_eq {a b : MsgM} (h : tk a = tk b) : a.2.2.1 = b.2.2.1 := by
  have := Array.toList_inj.1 h
  cases h1 : a.2.2.1; cases h2 : b.2.2.1
  rw [h1, h2] at this; simpa using this

theorem MapIs.apart {D : DataW MsgM} {l : List MsgM} (h : MapIs D l) : l.Pairwise (fun a b => tk a ≠ tk b) := by
  obtain ⟨es, _, hp, hl⟩ := h
  have := (hl.pairwise_iff (fun {x y} (hxy : x.1 ≠ y.1) => Ne.symm hxy)).1 hp
  rw [List.pairwise_map] at this
  refine this.imp fun {a b} hab e => hab ?_
  unfold entM; rw [e]

theorem MapIs.size {D : DataW MsgM} {l : List MsgM} (h : MapIs D l) : Maps.size D = l.length := by
  obtain ⟨es, rfl, _, hl⟩ := h
  rw [Maps.size_eq, hl.length_eq, List.length_map]

theorem MapIs.has {D : DataW MsgM} {l : List MsgM} (h : MapIs D l) (x : MsgM) : Maps.has D (.string (tk x)) = l.any fun y => sameT y.2.2.1 x.2.2.1 := by
  obtain ⟨es, rfl, _, hl⟩ := h
  rw [Maps.has_eq, hl.any_eq, List.any_map]
  congr 1
  funext y
  simp only [Function.comp, entM, Lit.sameKey, sameT_tk]

theorem MapIs.at {D : DataW MsgM} {l : List MsgM} (h : MapIs D l) {x : List UInt8} {y : MsgM} (hx : ∀ zd, D.atKey (.string x) zd = .held y) : y ∈ l ∧ tk y = x := by
  have hh := Maps.has_true_of_atKey hx
  obtain ⟨es, rfl, hp, hl⟩ := h
  rw [Maps.has_eq, List.any_eq_true] at hh
  obtain ⟨p, hpm, hk⟩ := hh
  obtain ⟨z, hz, rfl⟩ := List.mem_map.1 (hl.mem_iff.1 hpm)
  have e1 : tk z = x := by simpa [entM, Lit.sameKey] using hk
  subst e1
  have h2 := WideAt.atKey_mem (.nil : DataW MsgM) (show WideAt.IsKeyLit (.string (tk z)) from by first | trivial | simp [WideAt.IsKeyLit]) hp (show (Lit.string (tk z), DataW.held z) ∈ es from hpm)
  rw [hx .nil] at h2
  cases h2
  exact ⟨hz, rfl⟩

theorem perm_insertM (x : Lit × DataW MsgM) (l : List (Lit × DataW MsgM)) : (DataW.insert x l).Perm (x :: l) := by
  induction l with
  | nil => exact List.Perm.refl _
  | cons y r ih =>
    unfold DataW.insert
    split
    · exact List.Perm.refl _
    · exact (ih.cons y).trans (List.Perm.swap x y r)

theorem mapIs_nil : MapIs (.map []) [] := ⟨[], rfl, List.Pairwise.nil, List.Perm.refl _⟩

theorem notKey_ent (x : MsgM) : ((notKey (Lit.string (tk x))) ∘ entM) = fun y : MsgM => !(sameT y.2.2.1 x.2.2.1) := by
  funext y
  simp only [Function.comp, notKey, entM, Lit.sameKey, sameT_tk]

theorem MapIs.del {D : DataW MsgM} {l : List MsgM} (h : MapIs D l) (x : MsgM) : MapIs (D.del (.string (tk x))) (l.filter fun y => !(sameT y.2.2.1 x.2.2.1)) := by
  obtain ⟨es, rfl, hp, hl⟩ := h
  refine ⟨_, DataW.del_eq _ _, ?_, ?_⟩
  · exact hp.filter _
  · have := hl.filter (notKey (Lit.string (tk x)))
    rw [List.filter_map, notKey_ent] at this
    exact this

theorem MapIs.put {D : DataW MsgM} {l : List MsgM} (h : MapIs D l) (x : MsgM) : MapIs (D.put (.string (tk x)) (.held x)) (x :: l.filter fun y => !(sameT y.2.2.1 x.2.2.1)) := by
  obtain ⟨es, rfl, hp, hl⟩ := h
  have hf := hl.filter (notKey (Lit.string (tk x)))
  rw [List.filter_map, notKey_ent] at hf
  refine ⟨_, DataW.put_eq _ _ _, ?_, ?_⟩
  · refine ((perm_insertM _ _).pairwise_iff (fun {x y} (hxy : x.1 ≠ y.1) => Ne.symm hxy)).2 ?_
    rw [List.pairwise_cons]
    refine ⟨fun y hy => ?_, hp.filter _⟩
    have h1 := (List.mem_filter.1 hy).2
    intro e
    unfold notKey at h1
    rw [show y.1 = Lit.string (tk x) from e.symm] at h1
    simp [Lit.sameKey] at h1
  · exact (perm_insertM _ _).trans (hf.cons _)

/-- What stays behind maps.DeleteFunc. -/
theorem MapIs.strike {D : DataW MsgM} {l : List MsgM} (h : MapIs D l) (pd : Lit → DataW MsgM → Bool) (q : MsgM → Bool) (hq : ∀ x, pd (.string (tk x)) (.held x) = q x) : MapIs (Lib.deleteFuncD pd D) (l.filter fun y => !(q y)) := by
  obtain ⟨es, rfl, hp, hl⟩ := h
  refine ⟨_, rfl, hp.filter _, ?_⟩
  have hf := hl.filter (fun p => !pd p.1 p.2)
  rw [List.filter_map] at hf
  have e : ((fun p : Lit × DataW MsgM => !pd p.1 p.2) ∘ entM) = fun y => !(q y) := by funext y; simp only [Function.comp, entM, hq]
  rw [e] at hf
  exact hf

theorem nodup_of_apart {l : List MsgM} (h : l.Pairwise (fun a b => tk a ≠ tk b)) : l.Nodup := h.imp fun {a b} hab e => hab (by rw [e])

theorem apart_inj {l : List MsgM} (h : l.Pairwise (fun a b => tk a ≠ tk b)) {x y : MsgM} (hx : x ∈ l) (hy : y ∈ l) (e : tk x = tk y) : x = y := by
  induction l with
  | nil => cases hx
  | cons a r ih =>
    obtain ⟨h1, h2⟩ := List.pairwise_cons.1 h
    rcases List.mem_cons.1 hx with hx1 | hx1
    · rcases List.mem_cons.1 hy with hy1 | hy1
      · rw [hx1, hy1]
      · rw [hx1] at e; exact absurd e (h1 y hy1)
    · rcases List.mem_cons.1 hy with hy1 | hy1
      · rw [hy1] at e; exact absurd e.symm (h1 x hx1)
      · exact ih h2 hx1 hy1

/-- All have come. -/
theorem MapIs.all {D : DataW MsgM} {l ms : List MsgM} (h : MapIs D l) (hk : (ms.map tk).Perm (strKeys D)) (hm : ∀ x ∈ ms, x ∈ l) : ms.Perm l := by
  have ha := h.apart
  obtain ⟨es, rfl, hp, hl⟩ := h
  have e : (strKeys (.map es)).Perm (l.map tk) := by
    have := hl.map (fun p => strOf p.1)
    rw [List.map_map] at this
    exact this
  have hk2 := hk.trans e
  have hnd : (l.map tk).Nodup := by
    unfold List.Nodup
    rw [List.pairwise_map]; exact ha
  have hnd2 := hk2.nodup_iff.2 hnd
  have hms : ms.Nodup := by
    unfold List.Nodup at hnd2 ⊢
    rw [List.pairwise_map] at hnd2
    exact hnd2.imp fun {a b} hab e => hab (by rw [e])
  refine (List.perm_ext_iff_of_nodup hms (nodup_of_apart ha)).2 fun x => ⟨hm x, fun hx => ?_⟩
  have h1 : tk x ∈ ms.map tk := hk2.mem_iff.2 (List.mem_map_of_mem hx)
  obtain ⟨y, hy, e2⟩ := List.mem_map.1 h1
  rw [← apart_inj ha (hm y hy) hx e2]; exact hy

end Go.Proofs.YtgkfnmbjlfmcmaaGreatDoor

/- The walks of cmp.Compare, of impl.byTopic: how messages are ordered. -/
namespace Go.Proofs.YtgkfnmbjlfmcmaaGreatDoor
open Go.RowKit Go.Sort

def cmpT (a b : ByteArray) : Int := if ltT a b then -1 else if ltT b a then 1 else 0
def cmpI (a b : Int) : Int := if a < b then -1 else if b < a then 1 else 0
def topicC (a b : MsgM) : Int := cmpT a.2.2.1 b.2.2.1
def seqC (a b : MsgM) : Int := if cmpI a.1 b.1 = 0 then topicC a b else cmpI a.1 b.1

theorem cmpT_lt (a b : ByteArray) : decide (cmpT a b < 0) = ltT a b := by
  unfold cmpT
  cases h : ltT a b
  · cases ltT b a <;> simp
  · simp

theorem ltT_ntrans {a b c : ByteArray} (h1 : ltT a b = false) (h2 : ltT b c = false) : ltT a c = false := by
  rcases ltT_tri a b with h | h | h
  · rw [h1] at h; cases h
  · cases h3 : ltT a c
    · rfl
    · rw [sameT_lt h h3] at h2; cases h2
  · rcases ltT_tri b c with h3 | h3 | h3
    · rw [h2] at h3; cases h3
    · cases h4 : ltT a c
      · rfl
      · have h5 := ltT_trans h h4
        rw [h2] at h5; cases h5
    · cases h4 : ltT a c
      · rfl
      · have := ltT_trans h4 h3
        have h5 := ltT_asymm h
        rw [this] at h5; cases h5

theorem topicC_lt (a b : MsgM) : ltOf topicC a b = ltT a.2.2.1 b.2.2.1 := cmpT_lt _ _

theorem topicC_swo : SWO (ltOf topicC) where
  irrefl x := by rw [topicC_lt]; exact ltT_irrefl _
  trans x y z h1 h2 := by rw [topicC_lt] at *; exact ltT_trans h1 h2
  ntrans x y z h1 h2 := by rw [topicC_lt] at *; exact ltT_ntrans h1 h2

def seqLt (a b : MsgM) : Bool := decide (a.1 < b.1) || (decide (a.1 = b.1) && ltT a.2.2.1 b.2.2.1)

theorem seqC_lt (a b : MsgM) : ltOf seqC a b = seqLt a b := by
  unfold ltOf seqC seqLt cmpI
  by_cases h1 : a.1 < b.1
  · simp [h1]
  · by_cases h2 : b.1 < a.1
    · have : ¬ a.1 = b.1 := by omega
      simp [h1, h2, this]
    · have e1 : a.1 = b.1 := by omega
      have h3 := cmpT_lt a.2.2.1 b.2.2.1
      rw [if_neg h1, if_neg h2, if_pos rfl, decide_eq_false h1, decide_eq_true e1, Bool.false_or, Bool.true_and]
      exact h3

theorem seqC_swo : SWO (ltOf seqC) where
  irrefl x := by rw [seqC_lt]; unfold seqLt; rw [ltT_irrefl]; simp
  trans x y z h1 h2 := by
    rw [seqC_lt] at *
    unfold seqLt at *
    simp only [Bool.or_eq_true, Bool.and_eq_true, decide_eq_true_eq] at *
    rcases h1 with h1 | ⟨h1, h3⟩
    · rcases h2 with h2 | ⟨h2, _⟩
      · left; omega
      · left; omega
    · rcases h2 with h2 | ⟨h2, h4⟩
      · left; omega
      · right; exact ⟨by omega, ltT_trans h3 h4⟩
  ntrans x y z h1 h2 := by
    rw [seqC_lt] at *
    unfold seqLt at *
    simp only [Bool.or_eq_false_iff, Bool.and_eq_false_iff, decide_eq_false_iff_not] at *
    refine ⟨by omega, ?_⟩
    by_cases h : x.1 = z.1
    · have e1 : x.1 = y.1 := by omega
      have e2 : y.1 = z.1 := by omega
      right
      exact ltT_ntrans (h1.2.resolve_left (by simpa using e1)) (h2.2.resolve_left (by simpa using e2))
    · left; exact h

/-! ### cmp.Compare -/

set_option maxRecDepth 100000 in
set_option maxHeartbeats 800000 in
theorem compareS_any (x y : ByteArray) (w : World) :
    Calls Tryz.prog 45 #[.string x, .string y] w fun e w' => e = .returned (.int .i64 (cmpT x y)) ∧ w' = w := by
  have e1 : (x.toList == x.toList) = true := by simp
  have e2 : (y.toList == y.toList) = true := by simp
  have HE : Hid (cmpT x y = if ltT x y then -1 else if ltT y x then 1 else 0) := rfl
  generalize cmpT x y = c at HE ⊢
  obtain ⟨a, ha⟩ : ∃ a, Op.bytesLess x.toList y.toList = a := ⟨_, rfl⟩
  obtain ⟨b, hb⟩ : ∃ b, Op.bytesLess y.toList x.toList = b := ⟨_, rfl⟩
  change Hid (c = if Op.bytesLess x.toList y.toList then -1 else if Op.bytesLess y.toList x.toList then 1 else 0) at HE
  rw [ha, hb] at HE
  go_enter Tryz.func45, Tryz.ntmps45
  cases a
  · have he : (x.toList == y.toList) = !b := by
      change sameT x y = !b
      cases b
      · rcases ltT_tri x y with h | h | h
        · rw [show ltT x y = false from ha] at h; cases h
        · rw [h]; rfl
        · rw [show ltT y x = false from hb] at h; cases h
      · rw [ltT_not_same2 (show ltT y x = true from hb)]; rfl
    cases b
    · go_wp2
      go_ret
      exact ⟨by rw [HE.out]; rfl, rfl⟩
    · go_wp2
      go_ret
      exact ⟨by rw [HE.out]; rfl, rfl⟩
  · go_wp2
    go_ret
    exact ⟨by rw [HE.out]; rfl, rfl⟩

set_option maxRecDepth 100000 in
set_option maxHeartbeats 1600000 in
theorem byTopic_any (a b : MsgM) (w : World) :
    Calls Tryz.prog 25 #[magg a, magg b] w fun e w' => e = .returned (.int .i64 (topicC a b)) ∧ ∃ os, w' = grow w os := by
  have CC := Lib.hid (fun w' => compareS_any a.2.2.1 b.2.2.1 w')
  have HE : Hid (topicC a b = cmpT a.2.2.1 b.2.2.1) := rfl
  generalize topicC a b = c at HE ⊢
  obtain ⟨q, f, p, d⟩ := a
  obtain ⟨q2, f2, p2, d2⟩ := b
  go_enter Tryz.func25, Tryz.ntmps25
  go_wp2_with fail
  refine (CC.out _).mono ?_
  rintro e w1 ⟨rfl, rfl⟩
  go_wp2
  go_ret
  exact ⟨by rw [HE.out]; rfl, _, by rw [alloc_eq_grow, alloc_eq_grow, grow_grow]⟩

end Go.Proofs.YtgkfnmbjlfmcmaaGreatDoor

/- The walk of impl.lastWordsOf: a keep becomes a map. -/
namespace Go.Proofs.YtgkfnmbjlfmcmaaGreatDoor
open Go.RowKit Go.Maps

theorem keyedT : Keyed Tryz.prog 9 := string_keyed Tryz.underlying9

theorem keyT {p : ByteArray} (hp : p.size ≤ maxLen) : keyOf Tryz.prog 9 (.string p) = some (.string p.data.toList) := Go.WideMaps.keyOf_string_mk Tryz.underlying9 hp

theorem zeroM (w : World) : (zeroValue 26).run Tryz.prog w = .ok (magg (0, 0, ⟨#[]⟩, 0)) w := by kernel_rfl

/-- A map of the call's own that holds the messages l. -/
def MapOwn (w : World) (B n : Nat) (l : List MsgM) : Prop := ∃ D, w.ownsMap Tryz.prog 9 msgElem B n D ∧ MapIs D l

theorem MapIs.perm {D : DataW MsgM} {l l' : List MsgM} (h : MapIs D l) (hp : l.Perm l') : MapIs D l' := by
  obtain ⟨es, rfl, h1, h2⟩ := h
  exact ⟨es, rfl, h1, h2.trans (hp.map _)⟩

theorem MapOwn.perm {w : World} {B n : Nat} {l l' : List MsgM} (h : MapOwn w B n l) (hp : l.Perm l') : MapOwn w B n l' := by
  obtain ⟨D, h1, h2⟩ := h
  exact ⟨D, h1, h2.perm hp⟩

theorem MapOwn.below {w w' : World} {B n : Nat} {l : List MsgM} (h : MapOwn w B n l) (hb : Below w.heap.size w w') : MapOwn w' B n l := by
  obtain ⟨D, h1, h2⟩ := h
  have hlt := h1.lt
  obtain ⟨es, clock, h3, h4⟩ := h1
  exact ⟨D, ⟨es, clock, (hb.block B hlt).trans h3, h4⟩, h2⟩

theorem rise_fresh {l : List MsgM} {k : Nat} (hr : RiseK l) (hk : k < l.length) : (l.take k).filter (fun y => !(sameT y.2.2.1 l[k].2.2.1)) = l.take k := by
  refine List.filter_eq_self.2 fun y hy => ?_
  obtain ⟨j, hj, rfl⟩ := List.getElem_of_mem hy
  have hj2 : j < k := by simp at hj; omega
  rw [List.getElem_take]
  have := List.pairwise_iff_getElem.1 hr j k (by omega) hk hj2
  rw [ltT_not_same this]; rfl

set_option maxRecDepth 100000 in
set_option maxHeartbeats 3200000 in
theorem lastWordsOf_any (v : Value) (l : List MsgM) (w : World) (hl : l.length ≤ 1048576) (hs : ∀ x ∈ l, x.2.2.1.size ≤ 1048576) (hr : RiseK l) (hv : MsgsAt w v l) :
    Calls Tryz.prog 21 #[v] w fun e w' => e = .returned (.map (some w.heap.size)) ∧ MapOwn w' w.heap.size l.length l ∧ Below w.heap.size w w' := by
  obtain ⟨a, c, rfl, hc1, hc2, hc3⟩ := hv
  have HC := Lib.hid hc3
  have HS := Lib.hid hs
  have HR := Lib.hid hr
  clear hc3 hs hr
  have hmm := @run_makeMap Tryz.prog
  go_enter Tryz.func21, Tryz.ntmps21
  go_wp2
  go_loopw [9] (fun i wr => ∃ k : Nat, k ≤ l.length ∧ i = .int .i64 k ∧ Hid (MapOwn wr w.heap.size k (l.take k)) ∧ Hid (Below w.heap.size w wr)) (fun i _ => l.length - (intOf i).toNat)
  case atStart => exact ⟨0, Nat.zero_le _, rfl, ⟨_, World.ownsMap_made _ _ _ _, mapIs_nil⟩, (Below.refl _ _).alloc (Nat.le_refl _) _⟩
  case round =>
    obtain ⟨k, hk, rfl, HW, HB⟩ := hrel
    by_cases hlt : k < l.length
    · obtain ⟨b, o, rfl, hin⟩ : ∃ b o, a = some ⟨b, o, none⟩ ∧ MsgsIn w b o l := by
        rcases HC.out with h | h
        · subst h; simp at hlt
        · exact h
      obtain ⟨p0, p1, p2, p3⟩ := (hin.below HB.out) k hlt
      have HPT : Hid (∀ D, MapIs D (l.take k) → MapIs (D.put (.string (tk l[k])) (.held l[k])) (l.take (k + 1))) := Lib.hid (fun D hD => by
        have h := hD.put l[k]
        rw [rise_fresh HR.out hlt] at h
        refine h.perm ?_
        rw [List.take_succ_eq_append_getElem hlt]
        exact (List.perm_append_singleton _ _).symm)
      have hps := HS.out _ (List.getElem_mem hlt)
      generalize l[k] = x at p0 p1 p2 p3 HPT hps
      obtain ⟨q, f, p, d⟩ := x
      dsimp only at hps
      have hkey := keyT (p := p) (by unfold maxLen; omega)
      obtain ⟨D, hD1, hD2⟩ := HW.out
      have HD := Lib.hid hD1
      have HM := Lib.hid (HPT.out D hD2)
      clear hin HW HPT hD1 hD2
      go_wp2_with (first
        | (at_mapUpdate; refine wpList_mapUpdate_own _ rfl _ _ _ 47 rfl 9 26 keyedT Tryz.underlying47 msgElem w.heap.size k D rfl (HD.out.alloc _) (by unfold maxLen; omega) _ _ _ rfl rfl hkey _ [] (msgElem_mk (q, f, p, d)) ?_; intro w1 hown1 hgrow1)
        | go_in)
      have HB2 := Lib.hid ((HB.out.trans (((Below.refl wr.heap.size wr).alloc (Nat.le_refl _) (.cells #[.int .i64 q, .int .i64 f, .string p, .int .i64 d] 26)).mono HB.out.size)).grown hgrow1 (by have := HB.out.size; simp; omega) (fun j hj => by cases hj; exact Nat.le_refl _))
      go_roundw
      case rel => exact ⟨k + 1, by omega, by go_num, Lib.hid ⟨_, hown1, HM.out⟩, HB2⟩
      case measure => simp [intOf]; omega
    · obtain rfl : k = l.length := by omega
      have HF : Hid (MapOwn wr w.heap.size l.length l) := Lib.hid (by have := HW.out; rw [List.take_length] at this; exact this)
      go_wp2
      go_ret
      exact ⟨rfl, HF.out, HB.out⟩

end Go.Proofs.YtgkfnmbjlfmcmaaGreatDoor

/- The walks of impl.KeptFor's closure and of maps.DeleteFunc over a map of messages. -/
namespace Go.Proofs.YtgkfnmbjlfmcmaaGreatDoor
open Go.RowKit Go.Maps

set_option maxRecDepth 100000 in
set_option maxHeartbeats 1600000 in
theorem closureD_any (f t : ByteArray) (x : MsgM) (Bf : Nat) (m : Int) (w : World) (hf : f.size ≤ 1048576) (ht : t.size ≤ 1048576) (hc : w.cell? ⟨Bf, 0, none⟩ = some (.string f)) (hm : w.cell? ⟨0, 0, none⟩ = some (.int .i64 m)) :
    Calls Tryz.prog 31 #[.string t, magg x, .pointer (some ⟨Bf, 0, none⟩)] w fun e w' => e = .returned (.bool (!matchB f t)) ∧ Below w.heap.size w w' := by
  have CM := Lib.hid (fun wx hm => implMatches_any f t m wx hf ht hm)
  have HM := Lib.hid hm
  obtain ⟨b, hb⟩ : ∃ b, matchB f t = b := ⟨_, rfl⟩
  rw [hb] at CM ⊢
  obtain ⟨q, g, p, d⟩ := x
  have hc1 := ((Below.refl w.heap.size w).alloc (Nat.le_refl _) (.cells #[.int .i64 q, .int .i64 g, .string p, .int .i64 d] 26)).cell (World.block_lt_of_cell? _ _ hc)
  rw [hc] at hc1
  clear hb hf ht hm hc
  go_enter Tryz.func31, Tryz.ntmps31
  go_wp2_with fail
  have hb0 : Below w.heap.size w (w.alloc (.cells #[.int .i64 q, .int .i64 g, .string p, .int .i64 d] 26)) := (Below.refl _ _).alloc (Nat.le_refl _) _
  refine (CM.out _ ((hb0.cell (World.block_lt_of_cell? _ _ HM.out)).trans HM.out)).mono ?_
  rintro e w1 ⟨rfl, hb⟩
  have B1 := Lib.hid (below_end hb0 hb)
  clear hb hb0 hc1
  go_wp2
  go_ret
  exact ⟨rfl, B1.out⟩

theorem below_grown {w w' : World} (h : Below w.heap.size w w') : w.grownBy w' none := ⟨h.os, h.tape, h.output, h.size, fun i hi _ => h.block i hi⟩

/-- What is struck: what does not match. -/
def strikeP (f : ByteArray) (kl : Lit) (_ : DataW MsgM) : Bool := match kl with | .string s => !(matchB f ⟨s.toArray⟩) | _ => false

theorem strikeP_tk (f : ByteArray) (x : MsgM) : strikeP f (.string (tk x)) (.held x) = !(matchB f x.2.2.1) := by
  unfold strikeP tk
  cases h : x.2.2.1; rfl

theorem enc_tk (x : MsgM) : encStr (tk x) = .string x.2.2.1 := by
  unfold tk encStr
  cases h : x.2.2.1; rfl

theorem Fk_at {L : List MsgM} {es0 : List (Lit × DataW MsgM)} (hp : es0.Pairwise fun p q => p.1 ≠ q.1) (hl : es0.Perm (L.map entM)) {pd : Lit → DataW MsgM → Bool} {left : Lit → Bool} {x : List UInt8} {c : MsgM}
    (hat : ∀ zd, (Fk pd es0 left).atKey (.string x) zd = .held c) : c ∈ L ∧ tk c = x := by
  have hM : MapIs (Fk pd es0 left) (L.filter ((fun p => !pd p.1 p.2 || left p.1) ∘ entM)) := by
    refine ⟨_, rfl, hp.filter _, ?_⟩
    have hf := hl.filter (fun p => !pd p.1 p.2 || left p.1)
    rw [List.filter_map] at hf
    exact hf
  have := hM.at hat
  exact ⟨(List.mem_filter.1 this.1).1, this.2⟩

theorem cell_map_ne {w : World} {Bf b n : Nat} {v : Value} {R : Value → Option (DataW MsgM × List MemPlace)} {k : TypeId} {D : DataW MsgM} (hc : w.cell? ⟨Bf, 0, none⟩ = some v) (ho : w.ownsMap Tryz.prog k R b n D) : Bf ≠ b := by
  obtain ⟨es, clock, hb, _⟩ := ho
  intro e
  subst e
  simp [World.cell?, hb] at hc

theorem grown_cell_map {w w' : World} {Bf b : Nat} {v : Value} (hc : w.cell? ⟨Bf, 0, none⟩ = some v) (hg : w.grownBy w' (some b)) (hne : Bf ≠ b) : w'.cell? ⟨Bf, 0, none⟩ = some v := by
  rw [← hc]
  exact World.cell?_of_block (hg.block Bf (World.block_lt_of_cell? _ _ hc) (fun e => hne (by cases e; rfl)))

set_option maxRecDepth 100000 in
set_option maxHeartbeats 4000000 in
theorem deleteFunc_any (f : ByteArray) (Bf b n : Nat) (L : List MsgM) (m : Int) (w : World) (hfs : f.size ≤ 1048576) (hs : ∀ x ∈ L, x.2.2.1.size ≤ 1048576) (hw : MapOwn w b n L) (hc : w.cell? ⟨Bf, 0, none⟩ = some (.string f)) (hm : w.cell? ⟨0, 0, none⟩ = some (.int .i64 m)) :
    Calls Tryz.prog 30 #[.map (some b), .func (.func 31) #[] #[.pointer (some ⟨Bf, 0, none⟩)]] w fun e w' =>
      e = .returned (.tuple #[]) ∧ MapOwn w' b n (L.filter fun x => matchB f x.2.2.1) ∧ w.grownBy w' (some b) := by
  obtain ⟨D, hown, hM⟩ := hw
  obtain ⟨es0, rfl, hap, hkeys⟩ := hown.entries keyedT
  have HL : Hid (es0.Perm (L.map entM)) := by
    obtain ⟨es, he, _, hl⟩ := hM
    cases he
    exact hl
  have HAP := Lib.hid hap
  have HMX := Lib.hid (hM.strike (strikeP f) (fun x => !(matchB f x.2.2.1)) (strikeP_tk f))
  have HS := Lib.hid hs
  have HC := Lib.hid (fun wx (hg : w.grownBy wx (some b)) => grown_cell_map hc hg (cell_map_ne hc hown))
  have HMM := Lib.hid (fun wx (hg : w.grownBy wx (some b)) => grown_cell_map hm hg (cell_map_ne hm hown))
  have CD := Lib.hid (fun t x wx ht hc hm => closureD_any f t x Bf m wx hfs ht hc hm)
  have eg : ∀ args w, (callFunc 31 args).run Tryz.prog w = .ok (.enter 31 args) w := enters_of Tryz.func31 (by kernel_rfl) rfl
  clear hs hM hm hc hfs
  go_enter Tryz.func30, Tryz.ntmps30
  go_wp2_with (first
    | (at_range; refine wpList_range_own _ rfl _ 47 rfl 9 26 keyedT Tryz.underlying47 msgElem b n _ rfl hown ?_; intro w0 hrg0 hg0 hs0)
    | go_in)
  go_frame
  go_loopw [4] (fun _ wr => ∃ (left : Lit → Bool) (cnt : Nat), wr.ranges Tryz.prog 9 msgElem b w.heap.size n (Fk (strikeP f) es0 left) left cnt ∧ w.grownBy wr (some b))
    (fun _ wr => wr.rangeLeft b w.heap.size)
  case atStart => exact ⟨_, _, by rw [Fk_start hkeys]; exact hrg0, hg0.but _⟩
  case round =>
    obtain ⟨left, cnt, hrg, hgw⟩ := hrel
    go_wp2_with (first
      | (at_next; refine wpList_next_ranges _ rfl _ rfl 9 keyedT msgElem encStr magg (fun key kl hk => by obtain ⟨x, hx, _⟩ := Maps.keyOf_str Tryz.underlying9 hk; exact ⟨x, hx⟩) (fun v y hv => by obtain ⟨c, rfl, _⟩ := msgElem_inv hv; exact ⟨c, rfl⟩) b w.heap.size n _ _ _ rfl hrg ?_ ?_)
      | go_in)
    · intro _ hl0
      go_wp2
      go_end0
      have he := hrg.owns
      rw [Fk_end hl0] at he
      refine ⟨rfl, ⟨_, he, ?_⟩, hgw⟩
      have := HMX.out
      simp only [Bool.not_not] at this
      exact this
    · intro x q g p d kl yd yp w1 cnt1 hkey hlk hv hat hrg1 hlt hg1 hs1 hen
      obtain ⟨c, hce⟩ : ∃ c : MsgM, (q, g, p, d) = c := ⟨_, rfl⟩
      rw [hce] at hv
      obtain ⟨x', ex, rfl, _⟩ := Maps.keyOf_str Tryz.underlying9 hkey
      obtain rfl : x = x' := encStr_inj ex
      obtain rfl : yd = .held c := by have := (msgElem_mk c).symm.trans hv; simpa using (congrArg (fun z => z.map Prod.fst) this).symm
      obtain ⟨hcL, rfl⟩ := Fk_at HAP.out HL.out hat
      have hsz := HS.out c hcL
      subst hce
      simp only [enc_tk] at hkey hen ⊢
      dsimp only at hsz
      have hgw1 := hgw.andThen hg1 (fun j hj => by cases hj; exact Or.inl (Nat.le_refl _))
      have hgw2 := hgw1.andThen (World.grownBy_alloc w1 (.cells #[.int .i64 q, .int .i64 g, .string p, .int .i64 d] 26) none) (fun j hj => by cases hj)
      have hrg2 := hrg1.alloc (.cells #[.int .i64 q, .int .i64 g, .string p, .int .i64 d] 26)
      have hcl := CD.out p (q, g, p, d) _ hsz (HC.out _ hgw2) (HMM.out _ hgw2)
      have hst := strikeP_tk f (q, g, p, d)
      have HK := Lib.hid hkey
      have HLK := Lib.hid hlk
      have HAT := Lib.hid hat
      have hlt2 := hrg2.lt
      have hle2 : Hid (wr.rangeLeft b w.heap.size = cnt ∧ cnt1 < cnt) := Lib.hid ⟨hrg.left_eq, hlt⟩
      clear hs1 hlk hat hcL hg1 hgw hgw1 hrg1 hv hrg hkey hlt
      dsimp only at hst
      cases hp : matchB f p
      · rw [hp] at hcl hst
        go_wp2_with (first
          | (go_at_fn 31; refine hcl.mono ?_; rintro e w2 ⟨rfl, hb2⟩; have hg2 := below_grown hb2; have hrg3 := hrg2.kept hg2 (by simp) (by simp))
          | (at_delete; refine wpList_delete_ranges _ rfl _ _ 47 9 rfl 26 keyedT Tryz.underlying47 msgElem b w.heap.size n _ _ _ rfl hrg3 _ _ rfl HK.out ?_; intro w3 cnt3 hrg4 hle hturn; go_frame)
          | go_in)
        rw [strike_twice] at hrg4
        go_roundw
        case rel => exact ⟨_, cnt3, by rw [← Fk_struck HAP.out (keyedT.key HK.out) HLK.out hst HAT.out]; exact hrg4, (hgw2.andThen hg2 (fun j hj => by cases hj)).andThen hturn.grown (fun j hj => by cases hj; exact Or.inr rfl)⟩
        case measure => rw [hrg4.left_eq, hle2.out.1]; have := hle2.out.2; omega
      · rw [hp] at hcl hst
        go_wp2_with (first
          | (go_at_fn 31; refine hcl.mono ?_; rintro e w2 ⟨rfl, hb2⟩)
          | go_in)
        have hg2 := below_grown hb2
        have hrg3 := hrg2.kept hg2 (by simp) (by simp)
        go_roundw
        case rel => exact ⟨_, cnt1, by rw [← Fk_stays HAP.out (keyedT.key HK.out) HLK.out hst HAT.out]; exact hrg3, hgw2.andThen hg2 (fun j hj => by cases hj)⟩
        case measure => rw [hrg3.left_eq, hle2.out.1]; exact hle2.out.2

end Go.Proofs.YtgkfnmbjlfmcmaaGreatDoor

/- slices.SortFunc of an own row of messages: the contract of the kit, at own rows. -/
namespace Go.Proofs.YtgkfnmbjlfmcmaaGreatDoor
open Go.RowKit Go.Sort Go.Lib

theorem flat_mcells (l : List MsgM) : flatK mval 4 l.toArray = (mcells l).toArray := by
  refine ext_get! (by rw [size_flatK, List.size_toArray, List.size_toArray, mcells_length]) fun t ht => ?_
  have ht2 : t < l.length * 4 := by simpa using ht
  rw [get_flatK _ _ _ _ (by simpa using ht2)]
  obtain ⟨j, r, hr, rfl⟩ : ∃ j r, r < 4 ∧ t = j * 4 + r := ⟨t / 4, t % 4, Nat.mod_lt _ (by omega), by omega⟩
  rw [show (j * 4 + r) / 4 = j by omega, show (j * 4 + r) % 4 = r by omega]
  have hj : j < l.length := by omega
  have e := mcells_at l j hj
  have hd : l.toArray[j]! = l[j] := by rw [getElem!_pos l.toArray j (by simpa using hj)]; simp
  have hlt : j * 4 + r < (mcells l).length := by rw [mcells_length]; exact ht2
  have hg : some ((mcells l).toArray[j * 4 + r]!) = (mcells l)[j * 4 + r]? := by
    rw [getElem!_pos (mcells l).toArray _ (by simpa using hlt)]
    simp [hlt]
  rw [hd]
  refine Option.some.inj (Eq.trans ?_ hg.symm)
  rcases (show r = 0 ∨ r = 1 ∨ r = 2 ∨ r = 3 by omega) with h | h | h | h
  · subst h; rw [Nat.add_zero, e.1]; rfl
  · subst h; rw [e.2.1]; rfl
  · subst h; rw [e.2.2.1]; rfl
  · subst h; rw [e.2.2.2]; rfl

theorem toList_flat {l : List MsgM} {cur : Array Value} (h : cur.toList.take (l.length * 4) = mcells l) (d : List MsgM) (hd : d.length = l.length) :
    (putCells id 0 (flatK mval 4 d.toArray) cur).toList.take (d.length * 4) = mcells d := by
  rw [flat_mcells]
  have hlen : l.length * 4 ≤ cur.size := by
    have := congrArg List.length h
    rw [List.length_take, mcells_length] at this
    simp at this; omega
  refine List.ext_getElem? fun t => ?_
  rw [List.getElem?_take]
  split
  · rename_i ht
    have h1 : t < cur.size := by omega
    have h2 : t < (mcells d).length := by rw [mcells_length]; exact ht
    rw [Array.getElem?_toList, putCells, Array.getElem?_mapIdx, Array.getElem?_eq_getElem h1]
    simp only [Option.map_some, Nat.zero_le, true_and, Nat.zero_add, Nat.sub_zero, List.size_toArray, id]
    rw [if_pos h2, getElem!_pos _ t (by simpa using h2)]
    simp [h2]
  · rename_i ht
    rw [List.getElem?_eq_none (by rw [mcells_length]; omega)]

/-- The row behind the sort. -/
theorem own_sorted {w : World} {B g c : Nat} {l d : List MsgM} {n : Nat} {os : Array Obj} (h : MOwn w B (.slice (some ⟨g, 0, none⟩) l.length c) l) (hd : d.length = l.length) :
    MOwn (sortWorldK mval 4 w g 0 n d.toArray os) B (.slice (some ⟨g, 0, none⟩) l.length c) d ∧ w.grownBy (sortWorldK mval 4 w g 0 n d.toArray os) (some g) := by
  rcases h.2 with ⟨e, _⟩ | ⟨g2, cap, cur, e, hB, hh, h4, h5, h6, h7⟩
  · cases e
  · cases e
    have hlt := (Array.getElem?_eq_some_iff.1 hh).1
    have hg : (sortWorldK mval 4 w g 0 n d.toArray os).heap[g]? = some (.cells (putCells id 0 (flatK mval 4 d.toArray) cur) 26 (0, 0)) := by
      unfold sortWorldK
      rw [heap_grow_old _ _ (by rw [size_putRowK]; exact hlt)]
      show (w.heap.modify g (onCells _))[g]? = _
      rw [Array.getElem?_modify, if_pos rfl, hh]; rfl
    refine ⟨⟨by rw [mcells_length], .inr ⟨g, c, _, by rw [hd], hB, hg, by rw [hd]; exact h4, h5, ?_, ?_⟩⟩, ?_⟩
    · rw [← h6]; unfold putCells; simp
    · exact toList_flat h7 d hd
    · refine ⟨rfl, rfl, rfl, ?_, fun i hi hne => ?_⟩
      · unfold sortWorldK; rw [size_grow, size_putRowK]; exact Nat.le_add_right _ _
      · unfold sortWorldK
        rw [heap_grow_old _ _ (by rw [size_putRowK]; exact hi)]
        show (w.heap.modify g (onCells _))[i]? = _
        rw [Array.getElem?_modify, if_neg (fun e => hne (by rw [e]))]

theorem holds_own {w : World} {B g c : Nat} {l : List MsgM} (h : MOwn w B (.slice (some ⟨g, 0, none⟩) l.length c) l) : HoldsK mval 4 w g 0 l.toArray := by
  unfold HoldsK
  rw [flat_mcells]
  intro j hj
  have hj2 : j < l.length * 4 := by rw [← mcells_length]; simpa using hj
  rw [Nat.zero_add]
  refine ⟨?_, h.frozenAt j⟩
  rw [h.cellAt j hj2, getElem!_pos _ j hj]
  simp [show j < (mcells l).length by rw [mcells_length]; exact hj2]

theorem perm_list {l : List MsgM} {d : Array MsgM} (h : PermIn 0 l.toArray.size l.toArray d) : d.toList.Perm l := by
  obtain ⟨h1, _, h3⟩ := h
  have e1 : (d.extract 0 l.toArray.size).toList = d.toList := by rw [← h1]; simp
  have e2 : (l.toArray.extract 0 l.toArray.size).toList = l := by simp
  rw [e1, e2] at h3; exact h3

theorem sorted_list {lt : MsgM → MsgM → Bool} {d : Array MsgM} {n : Nat} (hn : d.size = n) (h : SortedIn lt 0 n d) : d.toList.Pairwise fun x y => lt y x = false := by
  rw [List.pairwise_iff_getElem]
  intro i j hi hj hij
  have := h i j (Nat.zero_le _) hij (by rw [← hn]; simpa using hj)
  rw [getElem!_pos d i (by simpa using hi), getElem!_pos d j (by simpa using hj)] at this
  simpa using this

/-- slices.SortFunc of an own row. -/
theorem sortFunc_any (cf : MsgM → MsgM → Int) (hO : SWO (ltOf cf)) (g : Nat) (eg : ∀ args w, (callFunc g args).run Tryz.prog w = .ok (.enter g args) w)
    (hcmp : ∀ a b W, Calls Tryz.prog g #[magg a, magg b] W fun e w' => e = .returned (.int .i64 (cf a b)) ∧ ∃ q os, w' = grow (W.drewN q) os)
    (B : Nat) (v : Value) (l : List MsgM) (w : World) (hl : l.length ≤ 1048576) (ho : MOwn w B v l) :
    Calls Tryz.prog 62 #[v, .func (.func g) #[] #[]] w fun e w' => e = .returned (.tuple #[]) ∧
      ∃ d, MOwn w' B v d ∧ d.Perm l ∧ (d.Pairwise fun x y => ltOf cf y x = false) ∧ w.grownBy w' v.ownBlock := by
  rcases ho.2 with ⟨hv, h0⟩ | ⟨g2, cap, cur, hv, _, hh, _⟩
  · have hn : l = [] := List.length_eq_zero_iff.1 h0
    subst hn
    subst hv
    refine (AnyF.slices_SortFunc_none Tryz.sortM none 0 _ w).mono ?_
    rintro e w' ⟨rfl, rfl⟩
    exact ⟨rfl, [], ho, List.Perm.refl _, List.Pairwise.nil, ⟨rfl, rfl, rfl, Nat.le_refl _, fun _ _ _ => rfl⟩⟩
  · subst hv
    have hlt := (Array.getElem?_eq_some_iff.1 hh).1
    have H := AnyQ.slices_SortFunc Tryz.sortM 4 Tryz.isAgg26 Tryz.sizeOf26 mval (fun _ => rfl) (fun x u hu => by simp [mval] at hu; rcases hu with rfl | rfl | rfl | rfl <;> rfl) cf hO g #[] g2 0 cap l.toArray w eg
      (fun _ _ _ _ x y => hcmp x y _) (holds_own ho) hlt (by simp; omega)
    rw [show l.toArray.size = l.length by simp] at H
    refine H.mono ?_
    rintro e w' ⟨rfl, d', n, os, hp, hs, rfl⟩
    have hsz : d'.size = l.length := by have := hp.1; simpa using this
    have hd : d'.toList.length = l.length := by simpa using hsz
    have hr := own_sorted (d := d'.toList) (n := n) (os := os) ho hd
    simp only [Array.toArray_toList] at hr
    exact ⟨rfl, d'.toList, by rw [← show l.length = l.length from rfl]; exact hr.1, perm_list (by simpa using hp), sorted_list hsz hs, hr.2⟩

end Go.Proofs.YtgkfnmbjlfmcmaaGreatDoor

/- The walks of maps.Values and its iterator over a map of messages. -/
namespace Go.Proofs.YtgkfnmbjlfmcmaaGreatDoor
open Go.RowKit Go.Maps Go.Shelf

attribute [local go_sem] Oper.semAt_some

set_option maxRecDepth 100000 in
set_option maxHeartbeats 2000000 in
theorem vals_in (n : Nat) (hn : 1 ≤ n) (l Bm b nn : Nat) (L : List MsgM) (D0 : DataW MsgM) (hM : MapIs D0 L) (J Jx : List MsgM → World → Prop)
    (hY : ∀ pre x W, J pre W → pre.length < L.length → YieldAt Fence.wide (n - 1) Tryz.prog l #[magg x] W fun e W' =>
      (e = .returned (.bool true) ∧ J (pre ++ [x]) W' ∧ KeepsWalks W W') ∨ (e = .returned (.bool false) ∧ Jx (pre ++ [x]) W'))
    (W : World) (hJ : AbidesFrom W.heap.size J) (hm : W.cell? ⟨Bm, 0, none⟩ = some (.map (some b))) (hown : W.ownsMap Tryz.prog 9 msgElem b nn D0) (h0 : J [] W) :
    CallsIn Fence.wide n Tryz.prog 63 #[.func (.yield l) #[] #[], .pointer (some ⟨Bm, 0, none⟩)] W fun e W' => (∃ v, e = .returned v) ∧
      ((∃ xs, xs.Perm L ∧ J xs W') ∨ (∃ pre, True ∧ Jx pre W')) := by
  have HY := Lib.hid hY
  have HM := Lib.hid hM
  clear hY hM
  refine callsIn_of_wp Tryz.func63 rfl trivial ?_ rfl
  simp only [Tryz.ntmps63, List.size_toArray, List.length_cons, List.length_nil, Nat.reduceAdd, Nat.reduceSub, Array.replicate_succ, Array.replicate_zero, List.push_toArray, List.append_toArray, List.nil_append, List.cons_append]
  gi_wp2_with (first
    | (gi_at_range; refine wpListIn_range_own _ rfl _ 47 rfl 9 26 keyedT Tryz.underlying47 _ b nn _ rfl hown ?_; intro w0 hrg0 hg0 hs0)
    | gi_in)
  go_frame
  gi_loopw [4] (fun _ wr => ∃ (left : Lit → Bool) (cnt : Nat) (ms : List MsgM), wr.ranges Tryz.prog 9 msgElem b W.heap.size nn D0 left cnt ∧ ms.length + cnt ≤ Maps.size D0 ∧ Collected D0 left (ms.map tk) ∧ (∀ y ∈ ms, y ∈ L) ∧ Hid (J ms wr))
    (fun _ wr => wr.rangeLeft b W.heap.size)
  case atStart =>
    exact ⟨_, _, [], hrg0, by simp, Collected.start D0, by simp, hJ [] W w0 none h0 hg0 (fun r e => by cases e)⟩
  case round =>
    obtain ⟨left, cnt, ms, hrg, hcs, hC, hV, hJs⟩ := hrel
    gi_wp2_with (first
      | (gi_at_next; refine wpListIn_next_ranges _ rfl _ rfl 9 keyedT msgElem encStr magg (fun key kl hk => by obtain ⟨x, hx, _⟩ := Maps.keyOf_str Tryz.underlying9 hk; exact ⟨x, hx⟩) (fun v y hv => by obtain ⟨c, rfl, _⟩ := msgElem_inv hv; exact ⟨c, rfl⟩) b W.heap.size nn _ _ _ rfl hrg ?_ ?_)
      | gi_in)
    · intro hc0 hl0
      gi_wp2
      go_end0
      exact ⟨⟨_, rfl⟩, .inl ⟨ms, HM.out.all (hC.perm hown keyedT Tryz.underlying9 hl0) hV, hJs.out⟩⟩
    · intro x q f p d kl yd yp w2 cnt2 hkey hlk hv hat hrg2 hlt hg2 hs2 hen
      obtain ⟨c, hce⟩ : ∃ c : MsgM, (q, f, p, d) = c := ⟨_, rfl⟩
      rw [hce] at hv
      obtain ⟨x', ex, rfl, _⟩ := Maps.keyOf_str Tryz.underlying9 hkey
      obtain rfl : x = x' := encStr_inj ex
      obtain rfl : yd = .held c := by have := (msgElem_mk c).symm.trans hv; simpa using (congrArg (fun z => z.map Prod.fst) this).symm
      obtain ⟨hcL, rfl⟩ := HM.out.at hat
      have hsz := HM.out.size
      have hC2 : Hid (Collected D0 (fun z => left z && !z.sameKey (.string (tk c))) ((ms ++ [c]).map tk)) := Lib.hid (by simpa using hC.step hlk hat)
      have hV2 : Hid (∀ y ∈ ms ++ [c], y ∈ L) := Lib.hid (fun y hy => (List.mem_append.1 hy).elim (hV y) (fun e => by rw [List.mem_singleton.1 e]; exact hcL))
      have hJ2 : J ms w2 := hJ ms wr w2 (some W.heap.size) hJs.out hg2 (fun r e => by cases e; exact ⟨Nat.le_refl _, hrg.iter_walk⟩)
      have hlen : Hid (ms.length + 1 + cnt2 ≤ Maps.size D0 ∧ ms.length < L.length) := Lib.hid ⟨by omega, by omega⟩
      have hrl : Hid (wr.rangeLeft b W.heap.size = cnt ∧ cnt2 < cnt) := Lib.hid ⟨hrg.left_eq, hlt⟩
      have HRG := Lib.hid hrg2
      clear hs2 hkey hlk hv hat hC hV hJs hrg hcs hlt hsz hcL hrg2
      subst hce
      have hJ3 : J ms (w2.alloc (.cells #[.int .i64 q, .int .i64 f, .string p, .int .i64 d] 26)) := hJ ms w2 _ none hJ2 (World.grownBy_alloc _ _ _) (fun r e => by cases e)
      obtain ⟨fn, tmps, assign, body, hy, hR⟩ := HY.out ms (q, f, p, d) _ hJ3 hlen.out.2
      clear hJ2 hJ3
      gi_wp2
      refine hR.mono ?_
      rintro e W3 (⟨rfl, hJ3, hk3⟩ | ⟨rfl, hJx3⟩)
      · gi_wp2
        have hrg3 := ((HRG.out.alloc _)).of_walks hk3
        go_roundw
        case rel => exact ⟨_, cnt2, ms ++ [(q, f, p, d)], hrg3, by have := hlen.out.1; simp; omega, hC2.out, hV2.out, hJ3⟩
        case measure => rw [hrg3.left_eq, hrl.out.1]; exact hrl.out.2
      · gi_wp2
        refine bodyPost_ret (results_none rfl _ _ _) rfl ?_
        exact ⟨⟨_, rfl⟩, .inr ⟨_, trivial, hJx3⟩⟩

/-- maps.Values hands back the iterator, which holds the map. -/
theorem values_in (n : Nat) (mb : Option Nat) (w : World) :
    CallsIn Fence.wide n Tryz.prog 44 #[.map mb] w fun e w' => e = .returned (.func (.func 63) #[] #[.pointer (some ⟨w.heap.size, 0, none⟩)]) ∧
      w' = w.alloc (.cells #[.map mb] 47) := by
  refine callsIn_of_wp Tryz.func44 rfl trivial ?_ rfl
  simp only [Tryz.ntmps44, List.size_toArray, List.length_cons, List.length_nil, Nat.reduceAdd, Nat.reduceSub, Array.replicate_succ, Array.replicate_zero, List.push_toArray, List.append_toArray, List.nil_append, List.cons_append]
  gi_wp2
  go_ret
  exact ⟨rfl, rfl⟩

/-- The iterator goes by the messages, in some order. -/
theorem vals_stops (n : Nat) (hn : 1 ≤ n) (Bm b nn : Nat) (L : List MsgM) (w : World) (hBm : Bm < w.heap.size) (hm : w.cell? ⟨Bm, 0, none⟩ = some (.map (some b))) (hw : MapOwn w b nn L) :
    SeqStopsK Fence.wide n Tryz.prog 63 #[.pointer (some ⟨Bm, 0, none⟩)] (fun x : MsgM => #[magg x]) KeepsWalks (fun xs => xs.Perm L) (fun _ => True) L.length w := fun l J Jx W hW hJ _ hY h0 => by
  obtain ⟨D, h1, h2⟩ := hw.below hW
  exact vals_in n hn l Bm b nn L D h2 J Jx hY W hJ ((hW.cell (p := ⟨Bm, 0, none⟩) hBm).trans hm) h1 h0

end Go.Proofs.YtgkfnmbjlfmcmaaGreatDoor

/- The walks of slices.AppendSeq, slices.Collect, slices.SortedFunc and impl.lastWords.sorted over a map of messages. -/
namespace Go.Proofs.YtgkfnmbjlfmcmaaGreatDoor
open Go.RowKit Go.Maps Go.Shelf

attribute [local go_sem] Oper.semAt_some

/-- What the loop's variable is in a round: a box that holds the message. -/
def SeqAx (w : World) (Bm : Nat) (x : MsgM) (a' : Act) (W : World) : Prop :=
  ∃ B5, a' = { tmps := #[.slice none 0 0, .func (.func 63) #[] #[.pointer (some ⟨Bm, 0, none⟩)], .pointer (some ⟨w.heap.size, 0, none⟩), undef, .slice none 0 0, .pointer (some ⟨B5, 0, none⟩),
      .func (.func 63) #[] #[.pointer (some ⟨Bm, 0, none⟩)], magg x, undef, undef, undef, undef, undef], defers := [] } ∧
    W.cell? ⟨B5, 0, none⟩ = some (.int .i64 x.1) ∧ W.cell? ⟨B5, 1, none⟩ = some (.int .i64 x.2.1) ∧ W.cell? ⟨B5, 2, none⟩ = some (.string x.2.2.1) ∧ W.cell? ⟨B5, 3, none⟩ = some (.int .i64 x.2.2.2)

set_option maxRecDepth 100000 in
set_option maxHeartbeats 2000000 in
theorem appendSeq_in (Bm b nn : Nat) (L : List MsgM) (w : World) (hL : L.length ≤ 1048576) (hBm : Bm < w.heap.size) (hm : w.cell? ⟨Bm, 0, none⟩ = some (.map (some b))) (hw : MapOwn w b nn L) :
    CallsIn Fence.wide 3 Tryz.prog 72 #[.slice none 0 0, .func (.func 63) #[] #[.pointer (some ⟨Bm, 0, none⟩)]] w fun e w' =>
      ∃ v xs, e = .returned v ∧ xs.Perm L ∧ MOwn w' w.heap.size v xs ∧ Below w.heap.size w w' := by
  obtain ⟨i0, hi, hz0, hz1, hz2⟩ := msg_info
  refine callsIn_of_wp_marks Tryz.func72 rfl trivial ?_ rfl
  simp only [Tryz.ntmps72, List.size_toArray, List.length_cons, List.length_nil, Nat.reduceAdd, Nat.reduceSub, Array.replicate_succ, Array.replicate_zero, List.push_toArray, List.append_toArray, List.nil_append, List.cons_append]
  gi_wp2_with fail
  have bO := Boxed.new w 24 (.slice none 0 0)
  have hB0 : Below w.heap.size w (w.alloc (.cells #[.slice none 0 0] 24)) := (Below.refl _ w).alloc (Nat.le_refl _) _
  have hs0 : (w.alloc (.cells #[.slice none 0 0] 24)).heap.size = w.heap.size + 1 := by simp
  refine wpIn_rangeFunc_ownH rfl (by omega) (gf := 63) (lb := #[.pointer (some ⟨Bm, 0, none⟩)]) rfl trivial (enters_of Tryz.func63 (by kernel_rfl) rfl)
    (vals_stops 2 (by omega) Bm b nn L _ (by rw [hs0]; omega) ((hB0.cell (p := ⟨Bm, 0, none⟩) hBm).trans hm) (hw.below hB0)) walksK_t walksK_b (Below.refl _ _) (fun _ => rfl)
    (fun pre W => (∃ v, Boxed W w.heap.size 24 v ∧ W.ownsRow w.heap.size 26 4 v pre.length (mcells pre) ∧ True) ∧ Below w.heap.size w W)
    (fun _ _ _ => False)
    (OwnFrom.and (Own.from (holdsRow_own w.heap.size w.heap.size 24 26 4 (fun pre : List MsgM => pre.length) (fun pre => mcells pre) (fun _ _ => True)) _) (ownFrom_below (Nat.le_refl _) (by rw [hs0]; omega)))
    (fun _ _ _ _ _ hs _ _ => hs)
    ⟨⟨_, bO, World.ownsRow_nil _ _ _ _, trivial⟩, hB0⟩
    (SeqAx w Bm) ?hAx ?assign ?body ?done ?stop
  case hAx =>
    rintro x a' s A B row ⟨B5, h1, h2⟩ hg hr
    have hr' := fun r e => (hr r e).2
    exact ⟨B5, h1, cell_kept h2.1 hg hr', cell_kept h2.2.1 hg hr', cell_kept h2.2.2.1 hg hr', cell_kept h2.2.2.2 hg hr'⟩
  case assign =>
    rintro l pre ⟨q, f, p, d⟩ W K ⟨⟨v, hv, hrow, _⟩, hB⟩ hK
    gi_wp2
    refine hK _ _ ((KeepsOthers.alloc W _).from _) (KeepsOthers.alloc W _).walks ⟨⟨v, hv.alloc _, hrow.alloc _, trivial⟩, hB.trans ((Below.refl _ _).alloc hB.size _)⟩ ⟨W.heap.size, rfl, ?_, ?_, ?_, ?_⟩ <;> rw [World.cell?_alloc_at _ _ _ _ rfl] <;> rfl
  case body =>
    rintro l pre ⟨q, f, p, d⟩ a' W hl hrec ⟨⟨v, hv, hrow, _⟩, hB⟩ ⟨B5, rfl, h0, h1, h2, h3⟩ hlt
    have hc := hv.cell
    have hsz := hB.size
    obtain ⟨va, vc, rfl⟩ := own_slice hrow
    dsimp only at h0 h1 h2 h3
    gi_wp2_with (gi_at_builtin; refine wpListIn_append_own _ rfl _ _ 24 rfl w.heap.size 26 i0 (.agg #[.int .i64 0, .int .i64 0, .string ⟨#[]⟩, .int .i64 0]) 4 40 Tryz.underlying24 hi hz0 hz1 hz2 rfl (by decide) _ _ _ rfl (hrow.alloc _) ⟨W.heap.size, 0, none⟩ 1 1 (mcells [(q, f, p, d)]) rfl rfl (msg_new W (q, f, p, d) _) (mcells_one _) (by unfold maxLen; omega) (by omega) (by simp; omega) ?_; intro v' w1 hown' hgrow _; obtain ⟨g', cap', rfl⟩ := ownsRow_succ hown'; obtain ⟨hv1, hv2, hr2, hk2, hb2⟩ := hv.appended (by decide) hrow hB.size (Nat.le_refl _) hown' hgrow; have hc1 := hv1.cell; have hf1 := hv1.frozen)
    exact ⟨hk2.from _, hk2.walks, ⟨_, hv2, by rw [List.length_append, mcells_app]; exact hr2, trivial⟩, hB.trans hb2⟩
  case done =>
    rintro D ys W hD hperm ⟨⟨v, hv, hrow, _⟩, hB⟩ hK
    have hc := hv.cell
    obtain ⟨va, vc, rfl⟩ := own_slice hrow
    gi_wp2
    refine ⟨by simp, .inl ⟨_, _, rfl, run_takeDeferred hK, ?_⟩⟩
    exact ⟨_, results_tmp rfl _ _ _, .slice va ys.length vc, ys, rfl, hperm, ownsRow_putObj hrow _ hK rfl, hB.trans (belowK_b (w := w) (Nat.le_refl _) W D _ _ (by rw [hs0] at hD; omega) hK rfl rfl)⟩
  case stop =>
    rintro D c pre W _ _ h _
    exact h.elim

theorem collect_any (Bm b nn : Nat) (L : List MsgM) (w : World) (hL : L.length ≤ 1048576) (hBm : Bm < w.heap.size) (hm : w.cell? ⟨Bm, 0, none⟩ = some (.map (some b))) (hw : MapOwn w b nn L) :
    Calls Tryz.prog 61 #[.func (.func 63) #[] #[.pointer (some ⟨Bm, 0, none⟩)]] w fun e w' =>
      ∃ v xs, e = .returned v ∧ xs.Perm L ∧ MOwn w' w.heap.size v xs ∧ Below w.heap.size w w' := by
  have CA := (callsIn_wide (n := 3)).1 (appendSeq_in Bm b nn L w hL hBm hm hw)
  clear hm hw
  go_enter Tryz.func61, Tryz.ntmps61
  go_wp2_with fail
  refine CA.mono ?_
  rintro e w1 ⟨v, xs, rfl, hp, ho, hb⟩
  obtain ⟨va, vc, rfl⟩ := own_slice ho
  go_wp2
  go_ret
  exact ⟨.slice va xs.length vc, xs, rfl, hp, ho, hb⟩

end Go.Proofs.YtgkfnmbjlfmcmaaGreatDoor

/- The walks of slices.SortedFunc and impl.lastWords.sorted. -/
namespace Go.Proofs.YtgkfnmbjlfmcmaaGreatDoor
open Go.RowKit Go.Maps Go.Sort

theorem sortedFunc_any (cf : MsgM → MsgM → Int) (hO : SWO (ltOf cf)) (g : Nat) (eg : ∀ args w, (callFunc g args).run Tryz.prog w = .ok (.enter g args) w)
    (hcmp : ∀ a b W, Calls Tryz.prog g #[magg a, magg b] W fun e w' => e = .returned (.int .i64 (cf a b)) ∧ ∃ q os, w' = grow (W.drewN q) os)
    (Bm b nn : Nat) (L : List MsgM) (w : World) (hL : L.length ≤ 1048576) (hBm : Bm < w.heap.size) (hm : w.cell? ⟨Bm, 0, none⟩ = some (.map (some b))) (hw : MapOwn w b nn L) :
    Calls Tryz.prog 43 #[.func (.func 63) #[] #[.pointer (some ⟨Bm, 0, none⟩)], .func (.func g) #[] #[]] w fun e w' =>
      ∃ v d, e = .returned v ∧ MOwn w' w.heap.size v d ∧ d.Perm L ∧ (d.Pairwise fun x y => ltOf cf y x = false) ∧ Below w.heap.size w w' := by
  have CC := collect_any Bm b nn L w hL hBm hm hw
  have CS := Lib.hid (fun B v l wx hl ho => sortFunc_any cf hO g eg hcmp B v l wx hl ho)
  clear hO eg hcmp hw hm
  go_enter Tryz.func43, Tryz.ntmps43
  go_wp2_with fail
  refine CC.mono ?_
  rintro e w1 ⟨v, xs, rfl, hp, ho, hb⟩
  obtain ⟨va, vc, rfl⟩ := own_slice ho
  have CS1 := Lib.hid (CS.out _ _ _ w1 (by rw [hp.length_eq]; exact hL) ho)
  have HP := Lib.hid hp
  have HO := Lib.hid ho
  have HB := Lib.hid hb
  clear CS CC hp ho hb
  go_wp2_with fail
  refine CS1.out.mono ?_
  rintro e w2 ⟨rfl, d, ho2, hp2, hs2, hg2⟩
  have HB2 : Hid (Below w.heap.size w w2) := Lib.hid (HB.out.grown hg2 HB.out.size (fun k h => (HO.out.lt k h).1))
  go_wp2
  go_ret
  exact ⟨.slice va xs.length vc, d, rfl, ho2, hp2.trans HP.out, hs2, HB2.out⟩

theorem sorted_any (cf : MsgM → MsgM → Int) (hO : SWO (ltOf cf)) (g : Nat) (eg : ∀ args w, (callFunc g args).run Tryz.prog w = .ok (.enter g args) w)
    (hcmp : ∀ a b W, Calls Tryz.prog g #[magg a, magg b] W fun e w' => e = .returned (.int .i64 (cf a b)) ∧ ∃ q os, w' = grow (W.drewN q) os)
    (b nn : Nat) (L : List MsgM) (w : World) (hL : L.length ≤ 1048576) (hw : MapOwn w b nn L) :
    Calls Tryz.prog 24 #[.map (some b), .func (.func g) #[] #[]] w fun e w' =>
      ∃ v d, e = .returned v ∧ MOwn w' w.heap.size v d ∧ d.Perm L ∧ (d.Pairwise fun x y => ltOf cf y x = false) ∧ Below w.heap.size w w' := by
  have CV := Lib.hid ((callsIn_wide (n := 1)).1 (values_in 1 (some b) w))
  have CC := Lib.hid (fun wx (h : wx = w.alloc (.cells #[.map (some b)] 47)) => sortedFunc_any cf hO g eg hcmp w.heap.size b nn L wx hL (by rw [h]; simp) (by rw [h, World.cell?_alloc_at _ _ _ _ rfl]; rfl) (by rw [h]; exact hw.below ((Below.refl _ _).alloc (Nat.le_refl _) _)))
  clear hw
  go_enter Tryz.func24, Tryz.ntmps24
  go_wp2_with fail
  refine CV.out.mono ?_
  rintro e w1 ⟨rfl, hw1⟩
  have B1 : Hid (Below w.heap.size w w1) := Lib.hid (by rw [hw1]; exact (Below.refl _ _).alloc (Nat.le_refl _) _)
  have CC1 := Lib.hid (CC.out w1 hw1)
  clear hw1 CV CC hO eg hcmp
  go_wp2_with fail
  refine CC1.out.mono ?_
  rintro e w2 ⟨v, d, rfl, ho, hp, hs, hb⟩
  obtain ⟨va, vc, rfl⟩ := own_slice ho
  have HB2 := Lib.hid (below_end B1.out hb)
  have HO := Lib.hid (own_mono ho B1.out.size)
  clear hb CC1 ho
  go_wp2
  go_ret
  exact ⟨.slice va d.length vc, d, rfl, HO.out, hp, hs, HB2.out⟩

end Go.Proofs.YtgkfnmbjlfmcmaaGreatDoor

/- What a keep becomes by one message more. -/
namespace Go.Proofs.YtgkfnmbjlfmcmaaGreatDoor

def putHas (l : List MsgM) (x : MsgM) : Bool := l.any fun y => sameT y.2.2.1 x.2.2.1
/-- Is there room for it? -/
def putB (l : List MsgM) (x : MsgM) : Bool := x.2.2.2 == 0 || (putHas l x || decide (l.length < 24))
def putK (l : List MsgM) (x : MsgM) : List MsgM :=
  if x.2.2.2 == 0 then l.filter fun y => !(sameT y.2.2.1 x.2.2.1) else if putHas l x || decide (l.length < 24) then x :: l.filter fun y => !(sameT y.2.2.1 x.2.2.1) else l

end Go.Proofs.YtgkfnmbjlfmcmaaGreatDoor

/- The walk of impl.lastWords.put. -/
namespace Go.Proofs.YtgkfnmbjlfmcmaaGreatDoor
open Go.RowKit Go.Maps

theorem wpList_lookup_msg {P : Program} (w : World) {ops : Array Oper} {rest : List Oper} {o : Oper} {a : Act} {Q : Exit → Act → World → Prop} (hg : o.guard = none) (m x : Operand) (t : TypeId) (hop : o.op = Op.lookup t m x true)
    (k e : TypeId) (K : Keyed P k) (ht : P.underlying t = some (.map k e)) (hz : (zeroValue e).run P w = .ok (magg (0, 0, ⟨#[]⟩, 0)) w) (b n : Nat) (D : DataW MsgM)
    (hm : a.eval m = .map (some b)) (hown : w.ownsMap P k msgElem b n D) (key : Value) (kl : Lit) (hx : a.eval x = key) (hkey : keyOf P k key = some kl)
    (hK : ∀ q f p d, wpList P ops Q rest (a.put o.dst (.tuple #[.agg #[.int .i64 q, .int .i64 f, .string p, .int .i64 d], .bool (Maps.has D kl)])) w) :
    wpList P ops Q (o :: rest) a w :=
  wpList_lookup_own_ok w hg m x t hop k e K ht msgElem hz (.held (0, 0, ⟨#[]⟩, 0)) [] rfl b n D hm hown key kl hx hkey (fun v ps hv => by
    obtain ⟨⟨q, f, p, d⟩, rfl, _⟩ := msgElem_inv hv
    exact hK q f p d)

set_option maxRecDepth 100000 in
set_option maxHeartbeats 3200000 in
theorem put_any (B n : Nat) (l : List MsgM) (x : MsgM) (w : World) (hn : n < 9223372036854775807) (hs : x.2.2.1.size ≤ 1048576) (hw : MapOwn w B n l) :
    Calls Tryz.prog 23 #[.map (some B), magg x] w fun e w' => e = .returned (.bool (putB l x)) ∧ MapOwn w' B (n + 1) (putK l x) ∧ w.grownBy w' (some B) := by
  obtain ⟨D, hD, hM⟩ := hw
  have HP := Lib.hid (hM.put x)
  have HX := Lib.hid (hM.del x)
  have hh := hM.has x
  have hsz := hM.size
  have HB : Hid (putB l x = (x.2.2.2 == 0 || (putHas l x || decide (l.length < 24)))) := rfl
  have HK : Hid (putK l x = if x.2.2.2 == 0 then l.filter fun y => !(sameT y.2.2.1 x.2.2.1) else if putHas l x || decide (l.length < 24) then x :: l.filter fun y => !(sameT y.2.2.1 x.2.2.1) else l) := rfl
  change _ = putHas l x at hh
  generalize putB l x = pb at HB ⊢
  generalize putK l x = pk at HK ⊢
  obtain ⟨hs2, hhs⟩ : ∃ b, putHas l x = b := ⟨_, rfl⟩
  rw [hhs] at HB HK hh
  clear hhs
  have HM := Lib.hid hM
  have hlen := fun (o1 o2 : Obj) ty => ((hD.alloc o1).alloc o2).len Tryz.underlying47 ty
  simp only [hsz] at hlen
  obtain ⟨N, hN⟩ : ∃ N, l.length = N := ⟨_, rfl⟩
  simp only [hN] at HB HK hlen
  have HD := Lib.hid hD
  clear hM hN hsz hD
  obtain ⟨q, f, p, d⟩ := x
  dsimp only at hs
  have hkey := keyT (p := p) (by unfold maxLen; omega)
  change Maps.has D (.string p.data.toList) = hs2 at hh
  by_cases hd : d = 0
  · have hd1 : (d == 0) = true := by simp [hd]
    have HB2 : Hid (pb = true) := Lib.hid (by rw [HB.out]; simp [hd])
    have HK2 : Hid (pk = l.filter fun y => !(sameT y.2.2.1 p)) := Lib.hid (by rw [HK.out, if_pos (by simpa using hd1)])
    clear HB HK hd
    go_enter Tryz.func23, Tryz.ntmps23
    go_wp2_with (first
      | (at_delete; refine wpList_delete_own _ rfl _ _ 47 9 rfl 26 keyedT Tryz.underlying47 msgElem B n D rfl (HD.out.alloc _) _ _ rfl hkey ?_; intro w1 hown1 hturn1)
      | go_in)
    go_ret
    exact ⟨ret_bool HB2.out.symm, ⟨_, hown1.mono (by omega), by rw [HK2.out]; exact HX.out⟩, ((World.grownBy_alloc w _ none).but _).trans hturn1.grown⟩
  · have hd1 : (d == 0) = false := by simp [hd]
    have HB1 : Hid (pb = (hs2 || decide (N < 24))) := Lib.hid (by rw [HB.out]; simp [hd])
    have HK1 : Hid (pk = if hs2 || decide (N < 24) then (q, f, p, d) :: l.filter fun y => !(sameT y.2.2.1 p) else l) := Lib.hid (by rw [HK.out, if_neg (by simpa using hd1)])
    clear HB HK hd
    cases hs2
    · by_cases h24 : N < 24
      · have g1 : decide ((24 : Int) ≤ (N : Int)) = false := decide_eq_false (by omega)
        have HB2 : Hid (pb = true) := Lib.hid (by rw [HB1.out]; simp [h24])
        have HK2 : Hid (pk = (q, f, p, d) :: l.filter fun y => !(sameT y.2.2.1 p)) := Lib.hid (by rw [HK1.out]; simp [h24])
        clear HB1 HK1
        go_enter Tryz.func23, Tryz.ntmps23
        go_wp2_with (first
          | (at_lookup; refine wpList_lookup_msg _ rfl _ _ 47 rfl 9 26 keyedT Tryz.underlying47 (zeroM _) B n D rfl (HD.out.alloc _) _ _ rfl hkey ?_; intro y0 y1 y2 y3; rw [hh])
          | (at_mapUpdate; refine wpList_mapUpdate_own _ rfl _ _ _ 47 rfl 9 26 keyedT Tryz.underlying47 msgElem B n D rfl ((HD.out.alloc _).alloc _) (by unfold maxLen; omega) _ _ _ rfl rfl hkey _ [] (msgElem_mk (q, f, p, d)) ?_; intro w1 hown1 hgrow1)
          | go_in)
        go_ret
        exact ⟨ret_bool HB2.out.symm, ⟨_, hown1, by rw [HK2.out]; exact HP.out⟩, (((World.grownBy_alloc w _ none).trans (World.grownBy_alloc _ _ none)).but _).trans hgrow1⟩
      · have g1 : decide ((24 : Int) ≤ (N : Int)) = true := decide_eq_true (by omega)
        have HB2 : Hid (pb = false) := Lib.hid (by rw [HB1.out]; simp [h24])
        have HK2 : Hid (pk = l) := Lib.hid (by rw [HK1.out]; simp [h24])
        clear HB1 HK1
        go_enter Tryz.func23, Tryz.ntmps23
        go_wp2_with (first
          | (at_lookup; refine wpList_lookup_msg _ rfl _ _ 47 rfl 9 26 keyedT Tryz.underlying47 (zeroM _) B n D rfl (HD.out.alloc _) _ _ rfl hkey ?_; intro y0 y1 y2 y3; rw [hh])
          | go_in)
        go_ret
        exact ⟨ret_bool HB2.out.symm, ⟨_, ((HD.out.alloc _).alloc _).mono (by omega), by rw [HK2.out]; exact HM.out⟩, ((World.grownBy_alloc w _ none).trans (World.grownBy_alloc _ _ none)).but _⟩
    · have HB2 : Hid (pb = true) := Lib.hid (by rw [HB1.out]; rfl)
      have HK2 : Hid (pk = (q, f, p, d) :: l.filter fun y => !(sameT y.2.2.1 p)) := Lib.hid (by rw [HK1.out]; rfl)
      clear HB1 HK1
      go_enter Tryz.func23, Tryz.ntmps23
      go_wp2_with (first
        | (at_lookup; refine wpList_lookup_msg _ rfl _ _ 47 rfl 9 26 keyedT Tryz.underlying47 (zeroM _) B n D rfl (HD.out.alloc _) _ _ rfl hkey ?_; intro y0 y1 y2 y3; rw [hh])
        | (at_mapUpdate; refine wpList_mapUpdate_own _ rfl _ _ _ 47 rfl 9 26 keyedT Tryz.underlying47 msgElem B n D rfl ((HD.out.alloc _).alloc _) (by unfold maxLen; omega) _ _ _ rfl rfl hkey _ [] (msgElem_mk (q, f, p, d)) ?_; intro w1 hown1 hgrow1)
        | go_in)
      go_ret
      exact ⟨ret_bool HB2.out.symm, ⟨_, hown1, by rw [HK2.out]; exact HP.out⟩, (((World.grownBy_alloc w _ none).trans (World.grownBy_alloc _ _ none)).but _).trans hgrow1⟩

end Go.Proofs.YtgkfnmbjlfmcmaaGreatDoor

/- What a keep is, put in order. -/
namespace Go.Proofs.YtgkfnmbjlfmcmaaGreatDoor
open Go.RowKit Go.Sort

theorem keepTo_good {l : List MsgM} {k : Nat} (h : keepTo l k = true) {j : Nat} (hj : j < k) (hl : j < l.length) : keepNext l j hl = true := by
  unfold keepTo at h
  rw [List.all_eq_true] at h
  have := h j (List.mem_range.2 hj)
  rw [dif_pos hl] at this; exact this

theorem rise_of_next {l : List MsgM} (h : ∀ j (hj : j + 1 < l.length), ltT (l[j]'(by omega)).2.2.1 l[j + 1].2.2.1 = true) : RiseK l := by
  unfold RiseK
  rw [List.pairwise_iff_getElem]
  intro i j hi hj hij
  obtain ⟨n, rfl⟩ : ∃ n, j = i + 1 + n := ⟨j - (i + 1), by omega⟩
  clear hij
  induction n with
  | zero => exact h i hj
  | succ n ih =>
    have h1 := ih (by omega)
    have h2 := h (i + 1 + n) hj
    exact ltT_trans h1 h2

theorem keepB_rise {l : List MsgM} (h : keepB l = true) : RiseK l ∧ l.length ≤ 24 ∧ ∀ x ∈ l, msgB x = true ∧ x.2.2.2 ≠ 0 := by
  unfold keepB at h
  rw [Bool.and_eq_true, decide_eq_true_eq] at h
  refine ⟨rise_of_next fun j hj => ?_, h.2, fun x hx => ?_⟩
  · have h1 := keepTo_good h.1 (show j + 1 < l.length from hj) hj
    unfold keepNext at h1
    simp only [Bool.and_eq_true, Bool.or_eq_true, decide_eq_true_eq, Nat.add_one_ne_zero, false_or, Nat.add_sub_cancel] at h1
    have h2 := h1.2.2
    rw [leB_ltT] at h2
    simpa using h2
  · obtain ⟨j, hj, rfl⟩ := List.getElem_of_mem hx
    have h1 := keepTo_good h.1 hj hj
    unfold keepNext at h1
    simp only [Bool.and_eq_true] at h1
    exact ⟨h1.1, by simpa using h1.2.1⟩

/-- Two lists in order, one a permutation of the other, with topics that differ, are one. -/
theorem rise_unique {a b : List MsgM} (hp : a.Perm b) (ha : a.Pairwise fun x y => ltT y.2.2.1 x.2.2.1 = false) (hb : RiseK b) : a = b := by
  refine List.Perm.eq_of_pairwise (le := fun x y => ltT y.2.2.1 x.2.2.1 = false) (fun x y hx hy h1 h2 => ?_) ha (hb.imp fun h => ltT_asymm h) hp
  have hxb := hp.mem_iff.1 hx
  obtain ⟨i, hi, rfl⟩ := List.getElem_of_mem hxb
  obtain ⟨j, hj, rfl⟩ := List.getElem_of_mem hy
  by_cases e : i = j
  · subst e; rfl
  · rcases Nat.lt_or_ge i j with h | h
    · have := List.pairwise_iff_getElem.1 hb i j hi hj h
      rw [this] at h2; cases h2
    · have := List.pairwise_iff_getElem.1 hb j i hj hi (by omega)
      rw [this] at h1; cases h1

theorem filter_split {l : List MsgM} (m : MsgM) (hr : RiseK l) : (m :: l.filter fun y => !(sameT y.2.2.1 m.2.2.1)).Perm (l.filter (fun x => ltT x.2.2.1 m.2.2.1) ++ [m] ++ l.filter (fun x => ltT m.2.2.1 x.2.2.1)) := by
  have h1 : (l.filter fun y => !(sameT y.2.2.1 m.2.2.1)).Perm (l.filter (fun x => ltT x.2.2.1 m.2.2.1) ++ l.filter (fun x => ltT m.2.2.1 x.2.2.1)) := by
    clear hr
    induction l with
    | nil => exact List.Perm.refl _
    | cons x l ih =>
      rw [List.filter_cons, List.filter_cons, List.filter_cons]
      rcases ltT_tri x.2.2.1 m.2.2.1 with h | h | h
      · rw [ltT_not_same h, h, ltT_asymm h]; exact ih.cons x
      · have e1 : ltT x.2.2.1 m.2.2.1 = false := by cases e : ltT x.2.2.1 m.2.2.1; rfl; rw [ltT_not_same e] at h; cases h
        have e2 : ltT m.2.2.1 x.2.2.1 = false := by cases e : ltT m.2.2.1 x.2.2.1; rfl; rw [ltT_not_same2 e] at h; cases h
        rw [h, e1, e2]; exact ih
      · rw [ltT_not_same2 h, h, ltT_asymm h]
        exact (ih.cons x).trans List.perm_middle.symm
  rw [List.append_assoc, List.singleton_append]
  exact (h1.cons m).trans List.perm_middle.symm

theorem filter_len_le {l : List MsgM} (m : MsgM) (hr : RiseK l) : (l.filter fun y => !(sameT y.2.2.1 m.2.2.1)).length + (if putHas l m then 1 else 0) = l.length := by
  unfold putHas
  induction l with
  | nil => simp
  | cons x l ih =>
    obtain ⟨h1, h2⟩ := List.pairwise_cons.1 hr
    rw [List.filter_cons, List.any_cons]
    cases h : sameT x.2.2.1 m.2.2.1
    · have := ih h2
      simp only [Bool.not_false, if_true, List.length_cons, Bool.false_or] at this ⊢
      omega
    · have h3 : l.any (fun y => sameT y.2.2.1 m.2.2.1) = false := by
        rw [List.any_eq_false]
        intro y hy
        rw [ltT_not_same2 (sameT_lt h (h1 y hy))]; simp
      have := ih h2
      rw [h3] at this
      simp only [Bool.not_true, Bool.false_eq_true, if_false, Bool.true_or, if_true, List.length_cons] at this ⊢
      omega

/-- What Kept puts away, in order. -/
theorem kept_sorted {l d : List MsgM} {m : MsgM} (hk : keepB l = true) (hm : msgB m = true) (hp : d.Perm (putK l m)) (hs : d.Pairwise fun x y => ltOf topicC y x = false) : (d, putB l m) = keptM l m := by
  obtain ⟨hr, h24, _⟩ := keepB_rise hk
  have hs2 : d.Pairwise fun x y => ltT y.2.2.1 x.2.2.1 = false := hs.imp fun h => by rw [topicC_lt] at h; exact h
  have hlen := filter_len_le m hr
  unfold keptM
  rw [hk, hm, if_pos rfl, if_pos rfl]
  unfold putK putB at *
  have hko := keptOut_rise m hr
  cases hb : (m.2.2.2 == 0)
  · rw [hb] at hp hko
    simp only [Bool.false_eq_true, if_false] at hp hko
    have hol : (keptOut l m).length = (l.filter fun y => !(sameT y.2.2.1 m.2.2.1)).length + 1 := by
      rw [hko, ← (filter_split m hr).length_eq]; rfl
    cases hh : (putHas l m || decide (l.length < 24))
    · rw [hh] at hp
      simp only [Bool.false_eq_true, if_false] at hp
      rw [Bool.or_eq_false_iff, decide_eq_false_iff_not] at hh
      rw [hh.1] at hlen
      simp only [Bool.false_eq_true, if_false] at hlen
      rw [if_pos (by omega), rise_unique hp hs2 hr]; rfl
    · rw [hh] at hp
      simp only [if_true] at hp
      have hle : ¬ 24 < (keptOut l m).length := by
        rw [Bool.or_eq_true, decide_eq_true_eq] at hh
        rcases hh with hh | hh
        · rw [hh] at hlen; simp only [if_true] at hlen; omega
        · omega
      rw [if_neg hle]
      have hro : RiseK (keptOut l m) := by
        rw [hko]
        unfold RiseK
        rw [List.append_assoc, List.pairwise_append]
        refine ⟨hr.filter _, ?_, fun x hx y hy => ?_⟩
        · rw [List.singleton_append, List.pairwise_cons]
          exact ⟨fun y hy => (List.mem_filter.1 hy).2, hr.filter _⟩
        · have h1 := (List.mem_filter.1 hx).2
          rcases List.mem_append.1 hy with h2 | h2
          · rw [List.mem_singleton.1 h2]; exact h1
          · exact ltT_trans h1 (List.mem_filter.1 h2).2
      have hp2 : d.Perm (keptOut l m) := by rw [hko]; exact hp.trans (filter_split m hr)
      rw [rise_unique hp2 hs2 hro]; rfl
  · rw [hb] at hp hko
    simp only [if_true] at hp hko
    have hle : ¬ 24 < (keptOut l m).length := by rw [hko]; have := List.length_filter_le (fun y : MsgM => !(sameT y.2.2.1 m.2.2.1)) l; omega
    rw [if_neg hle, hko, rise_unique hp hs2 (hr.filter _)]; rfl

end Go.Proofs.YtgkfnmbjlfmcmaaGreatDoor

/- What is told of a keep, put in order. -/
namespace Go.Proofs.YtgkfnmbjlfmcmaaGreatDoor
open Go.RowKit Go.Sort

theorem posM_above (out : List MsgM) (q : Int) : ∀ k j, posM out q k ≤ j → j < k → q < (out.getD j (0, 0, ⟨#[]⟩, 0)).1
  | 0, j, _, h => by omega
  | k + 1, j, h1, h2 => by
    unfold posM at h1
    split at h1
    · rename_i h3
      by_cases e : j = k
      · subst e; exact h3
      · exact posM_above out q k j h1 (by omega)
    · omega

theorem posM_below (out : List MsgM) (q : Int) : ∀ k, 0 < posM out q k → (out.getD (posM out q k - 1) (0, 0, ⟨#[]⟩, 0)).1 ≤ q
  | 0, h => by simp [posM] at h
  | k + 1, h => by
    unfold posM at h ⊢
    split at h
    · rename_i h3
      rw [if_pos h3]
      exact posM_below out q k h
    · rename_i h3
      rw [if_neg h3]
      simp only [Nat.add_sub_cancel]
      omega

theorem seqLt_le {a b : MsgM} (h : seqLt a b = true) : a.1 ≤ b.1 := by
  unfold seqLt at h
  simp only [Bool.or_eq_true, Bool.and_eq_true, decide_eq_true_eq] at h
  rcases h with h | ⟨h, _⟩ <;> omega

theorem putSeq_perm (out : List MsgM) (x : MsgM) : (putSeq out x).Perm (x :: out) := by
  unfold putSeq
  rw [List.append_assoc, List.singleton_append]
  refine List.perm_middle.trans ?_
  rw [List.take_append_drop]

theorem putSeq_sorted {out : List MsgM} {x : MsgM} (hs : out.Pairwise fun a b => seqLt a b = true) (ht : ∀ y ∈ out, ltT y.2.2.1 x.2.2.1 = true) : (putSeq out x).Pairwise fun a b => seqLt a b = true := by
  have hle := posM_le out x.1 out.length
  have ha := posM_above out x.1 out.length
  have hb := posM_below out x.1 out.length
  unfold putSeq
  generalize posM out x.1 out.length = p at hle ha hb
  have hsplit : (out.take p ++ out.drop p).Pairwise fun a b => seqLt a b = true := by rw [List.take_append_drop]; exact hs
  rw [List.pairwise_append] at hsplit
  obtain ⟨h1, h2, h3⟩ := hsplit
  rw [List.append_assoc, List.pairwise_append]
  refine ⟨h1, ?_, ?_⟩
  · rw [List.singleton_append, List.pairwise_cons]
    refine ⟨fun z hz => ?_, h2⟩
    obtain ⟨j, hj, rfl⟩ := List.getElem_of_mem hz
    have hj2 : p + j < out.length := by simp at hj; omega
    have := ha (p + j) (by omega) hj2
    rw [List.getD_eq_getElem?_getD, List.getElem?_eq_getElem hj2] at this
    rw [List.getElem_drop]
    unfold seqLt
    simp only [Option.getD_some] at this
    rw [decide_eq_true this]; rfl
  · intro y hy z hz
    rcases List.mem_append.1 hz with hz | hz
    · rw [List.mem_singleton.1 hz]
      obtain ⟨j, hj, rfl⟩ := List.getElem_of_mem hy
      have hj2 : j < p := by simp at hj; omega
      have hj3 : j < out.length := by omega
      rw [List.getElem_take]
      have h4 := hb (by omega)
      have hp1 : p - 1 < out.length := by omega
      rw [List.getD_eq_getElem?_getD, List.getElem?_eq_getElem hp1] at h4
      simp only [Option.getD_some] at h4
      have h5 : out[j].1 ≤ out[p - 1].1 := by
        by_cases e : j = p - 1
        · subst e; exact Int.le_refl _
        · exact seqLt_le (List.pairwise_iff_getElem.1 hs j (p - 1) hj3 hp1 (by omega))
      have h6 := ht out[j] (List.getElem_mem hj3)
      unfold seqLt
      rw [h6]
      by_cases h7 : out[j].1 < x.1
      · rw [decide_eq_true h7]; rfl
      · rw [decide_eq_true (show out[j].1 = x.1 by omega)]; simp
    · exact h3 y hy z hz

theorem forFold {f : ByteArray} : ∀ (l out : List MsgM), out.Pairwise (fun a b => seqLt a b = true) → RiseK l → (∀ y ∈ out, ∀ x ∈ l, ltT y.2.2.1 x.2.2.1 = true) →
    (l.foldl (fun out x => if matchB f x.2.2.1 then putSeq out x else out) out).Pairwise (fun a b => seqLt a b = true) ∧ (l.foldl (fun out x => if matchB f x.2.2.1 then putSeq out x else out) out).Perm (out ++ l.filter fun x => matchB f x.2.2.1)
  | [], out, hs, _, _ => ⟨hs, by simp⟩
  | x :: l, out, hs, hr, ht => by
    obtain ⟨h1, h2⟩ := List.pairwise_cons.1 hr
    rw [List.foldl_cons, List.filter_cons]
    cases hm : matchB f x.2.2.1
    · simp only [Bool.false_eq_true, if_false]
      exact forFold (f := f) l out hs h2 fun y hy z hz => ht y hy z (List.mem_cons_of_mem _ hz)
    · simp only [if_true]
      have h3 := forFold (f := f) l (putSeq out x) (putSeq_sorted hs fun y hy => ht y hy x (List.mem_cons_self ..)) h2 (fun y hy z hz => by
        rcases List.mem_cons.1 ((putSeq_perm out x).mem_iff.1 hy) with e | hy
        · rw [e]; exact h1 z hz
        · exact ht y hy z (List.mem_cons_of_mem _ hz))
      refine ⟨h3.1, h3.2.trans ?_⟩
      exact ((putSeq_perm out x).append_right _).trans List.perm_middle.symm

/-- What KeptFor tells, in order. -/
theorem for_sorted {l d : List MsgM} {f : ByteArray} (hk : keepB l = true) (hp : d.Perm (l.filter fun x => matchB f x.2.2.1)) (hs : d.Pairwise fun x y => ltOf seqC y x = false) : d = forM l f := by
  obtain ⟨hr, _, _⟩ := keepB_rise hk
  have h := forFold (f := f) l [] List.Pairwise.nil hr (by simp)
  rw [List.nil_append] at h
  unfold forM
  rw [hk, if_pos rfl, forTo_list]
  generalize l.foldl (fun out x => if matchB f x.2.2.1 then putSeq out x else out) [] = R at h
  obtain ⟨h1, h2⟩ := h
  refine List.Perm.eq_of_pairwise (le := fun x y => seqLt y x = false) (fun x y hx hy h3 h4 => ?_) (hs.imp fun h => by rw [seqC_lt] at h; exact h) (h1.imp fun {a b} h => ?_) (hp.trans h2.symm)
  · have hxl := (List.mem_filter.1 (hp.mem_iff.1 hx)).1
    have hyl := (List.mem_filter.1 (h2.mem_iff.1 hy)).1
    unfold seqLt at h3 h4
    simp only [Bool.or_eq_false_iff, Bool.and_eq_false_iff, decide_eq_false_iff_not] at h3 h4
    have e : x.1 = y.1 := by omega
    have h5 : ltT y.2.2.1 x.2.2.1 = false := h3.2.resolve_left (by simp [e])
    have h6 : ltT x.2.2.1 y.2.2.1 = false := h4.2.resolve_left (by simp [e])
    obtain ⟨i, hi, rfl⟩ := List.getElem_of_mem hxl
    obtain ⟨j, hj, rfl⟩ := List.getElem_of_mem hyl
    by_cases e2 : i = j
    · subst e2; rfl
    · rcases Nat.lt_or_ge i j with h | h
      · rw [List.pairwise_iff_getElem.1 hr i j hi hj h] at h6; cases h6
      · rw [List.pairwise_iff_getElem.1 hr j i hj hi (by omega)] at h5; cases h5
  · have := seqC_swo
    cases e : seqLt b a
    · rfl
    · have h5 := this.trans a b a (by rw [seqC_lt]; exact h) (by rw [seqC_lt]; exact e)
      rw [this.irrefl] at h5; cases h5

end Go.Proofs.YtgkfnmbjlfmcmaaGreatDoor

/- The walk of impl.Kept. -/
namespace Go.Proofs.YtgkfnmbjlfmcmaaGreatDoor
open Go.RowKit Go.Maps Go.Sort

theorem sortedT_any (b nn : Nat) (L : List MsgM) (w : World) (hL : L.length ≤ 1048576) (hw : MapOwn w b nn L) :
    Calls Tryz.prog 24 #[.map (some b), .func (.func 25) #[] #[]] w fun e w' =>
      ∃ v d, e = .returned v ∧ MOwn w' w.heap.size v d ∧ d.Perm L ∧ (d.Pairwise fun x y => ltOf topicC y x = false) ∧ Below w.heap.size w w' :=
  sorted_any topicC topicC_swo _ (enters_of Tryz.func25 (by kernel_rfl) rfl) (fun a b W => (byTopic_any a b W).mono fun _ _ ⟨h1, os, h2⟩ => ⟨h1, 0, os, h2⟩) b nn L w hL hw

theorem putK_len (l : List MsgM) (x : MsgM) : (putK l x).length ≤ l.length + 1 := by
  have := List.length_filter_le (fun y : MsgM => !(sameT y.2.2.1 x.2.2.1)) l
  unfold putK
  split
  · omega
  · split
    · simp only [List.length_cons]; omega
    · omega

set_option maxRecDepth 100000 in
set_option maxHeartbeats 3200000 in
theorem implKept_any (v : Value) (l : List MsgM) (x : MsgM) (m : Int) (w : World) (hl : l.length ≤ 1048576) (hs : ∀ x ∈ l, x.2.2.1.size ≤ 1048576) (hx : x.2.2.1.size ≤ 1048576) (hv : MsgsAt w v l) (hm : w.cell? ⟨0, 0, none⟩ = some (.int .i64 m)) :
    Calls Tryz.prog 6 #[v, magg x] w fun e w' =>
      ∃ V u pre post, e = .returned (.tuple #[u, .bool (keptM l x).2]) ∧ MOwn w' w.heap.size V (pre ++ (keptM l x).1 ++ post) ∧ PartOf V pre.length (keptM l x).1.length u ∧ Below w.heap.size w w' := by
  have CK := Lib.hid (fun wx (h : MsgsAt wx v l) hm => implKeepOk_any v l m wx hl hs h hm)
  have CL := Lib.hid (fun wx (h : MsgsAt wx v l) hr => lastWordsOf_any v l wx hl hs hr h)
  have CM := Lib.hid (fun wx hm => implMsgOk_any x m wx hx hm)
  have CP := Lib.hid (fun B wx h => put_any B l.length l x wx (by omega) hx h)
  have CS := Lib.hid (fun B n L wx hL h => sortedT_any B n L wx hL h)
  have HB : Hid (keptM l x = if keepB l then (if msgB x then (if 24 < (keptOut l x).length then (l, false) else (keptOut l x, true)) else (l, false)) else ([], false)) := rfl
  have HV := Lib.hid hv
  have HM := Lib.hid hm
  have HPL := Lib.hid (putK_len l x)
  have HKS := Lib.hid (fun d h1 h2 => @kept_sorted l d x h1 h2)
  have HKR := Lib.hid (@keepB_rise l)
  have HL := Lib.hid hl
  obtain ⟨ua, uc, rfl, _, _, _⟩ := hv
  obtain ⟨b1, hb1⟩ : ∃ b, keepB l = b := ⟨_, rfl⟩
  obtain ⟨b2, hb2⟩ : ∃ b, msgB x = b := ⟨_, rfl⟩
  simp only [hb1] at CK HB HKR HKS
  simp only [hb2] at CM HB HKS
  obtain ⟨R, hR⟩ : ∃ R, keptM l x = R := ⟨_, rfl⟩
  simp only [hR] at HB HKS ⊢
  obtain ⟨pk, hpk⟩ : ∃ pk, putK l x = pk := ⟨_, rfl⟩
  obtain ⟨pb, hpb⟩ : ∃ pb, putB l x = pb := ⟨_, rfl⟩
  simp only [hpk] at HPL HKS CP
  simp only [hpb] at HKS CP
  obtain ⟨q, f, p, d⟩ := x
  clear hb1 hb2 hR hpk hpb hl hs hx hm
  go_enter Tryz.func6, Tryz.ntmps6
  go_wp2_with fail
  have hb0 : Below w.heap.size w (w.alloc (.cells #[.int .i64 q, .int .i64 f, .string p, .int .i64 d] 26)) := (Below.refl _ _).alloc (Nat.le_refl _) _
  have h0 : (w.alloc (.cells #[.int .i64 q, .int .i64 f, .string p, .int .i64 d] 26)).heap[w.heap.size]? = some (.cells #[.int .i64 q, .int .i64 f, .string p, .int .i64 d] 26 (0, 0)) := heap_alloc_new _ _
  generalize w.alloc (.cells #[.int .i64 q, .int .i64 f, .string p, .int .i64 d] 26) = w0 at hb0 h0 ⊢
  have HMX := Lib.hid (fun wx (h : Below w.heap.size w wx) => (h.cell (World.block_lt_of_cell? _ _ HM.out)).trans HM.out)
  have hs0 : w.heap.size < w0.heap.size := (Array.getElem?_eq_some_iff.1 h0).1
  refine (CK.out _ (HV.out.below hb0) (HMX.out _ hb0)).mono ?_
  rintro e w1 ⟨rfl, hb⟩
  have B1 := Lib.hid (below_end hb0 hb)
  have H1 := (hb.block w.heap.size hs0).trans h0
  have hs1 : w.heap.size < w1.heap.size := Nat.lt_of_lt_of_le hs0 hb.size
  clear hb hb0 h0 hs0 CK
  cases b1
  · have HE : Hid (R = ([], false)) := Lib.hid HB.out
    go_wp2
    go_ret2
    exact ⟨.slice none 0 0, .slice none 0 0, [], [], by rw [HE.out]; rfl, by rw [HE.out]; exact World.ownsRow_nil _ _ _ _, by rw [HE.out]; exact .inl ⟨rfl, rfl, rfl⟩, B1.out⟩
  obtain ⟨hr, h24, hgood⟩ := HKR.out rfl
  have HR := Lib.hid hr
  have H24 := Lib.hid h24
  clear hr h24 hgood
  go_wp2_with fail
  refine (CL.out _ (HV.out.below B1.out) HR.out).mono ?_
  rintro e w2 ⟨rfl, hw2, hb⟩
  have B2 := Lib.hid (below_end B1.out hb)
  have H2 := (hb.block w.heap.size hs1).trans H1
  have hs2 : w.heap.size < w2.heap.size := Nat.lt_of_lt_of_le hs1 hb.size
  have W2 := Lib.hid hw2
  clear hb hw2 CL H1
  have d0 : w2.cell? ⟨w.heap.size, 0, none⟩ = some (.int .i64 q) := cell_of_heap H2 0
  have d1 : w2.cell? ⟨w.heap.size, 1, none⟩ = some (.int .i64 f) := cell_of_heap H2 1
  have d2 : w2.cell? ⟨w.heap.size, 2, none⟩ = some (.string p) := cell_of_heap H2 2
  have d3 : w2.cell? ⟨w.heap.size, 3, none⟩ = some (.int .i64 d) := cell_of_heap H2 3
  go_wp2_with fail
  refine (CM.out _ (HMX.out _ B2.out)).mono ?_
  rintro e w3 ⟨rfl, hb⟩
  have B3 := Lib.hid (below_end B2.out hb)
  have H3 := (hb.block w.heap.size hs2).trans H2
  have W3 := Lib.hid (W2.out.below hb)
  clear hb CM H2 d0 d1 d2 d3 W2
  have d0 : w3.cell? ⟨w.heap.size, 0, none⟩ = some (.int .i64 q) := cell_of_heap H3 0
  have d1 : w3.cell? ⟨w.heap.size, 1, none⟩ = some (.int .i64 f) := cell_of_heap H3 1
  have d2 : w3.cell? ⟨w.heap.size, 2, none⟩ = some (.string p) := cell_of_heap H3 2
  have d3 : w3.cell? ⟨w.heap.size, 3, none⟩ = some (.int .i64 d) := cell_of_heap H3 3
  cases b2
  · have HE : Hid (R = (l, false)) := Lib.hid HB.out
    go_wp2_with fail
    refine (CS.out _ _ l w3 HL.out W3.out).mono ?_
    rintro e w4 ⟨u, dd, rfl, ho, hp, hss, hb⟩
    obtain ⟨za, zc, rfl⟩ := own_slice ho
    have B4 := Lib.hid (below_end B3.out hb)
    have hdl : dd = l := rise_unique hp (hss.imp fun h => by rw [topicC_lt] at h; exact h) HR.out
    subst hdl
    have O4 := Lib.hid (own_mono ho B3.out.size)
    clear hb ho hp hss
    go_wp2
    go_ret2
    exact ⟨_, _, [], [], by rw [HE.out]; rfl, by rw [HE.out, List.nil_append, List.append_nil]; exact O4.out, by rw [HE.out]; exact PartOf.whole O4.out, B4.out⟩
  · go_wp2_with fail
    refine (CP.out _ w3 W3.out).mono ?_
    rintro e w4 ⟨rfl, hw4, hg⟩
    have B4 := Lib.hid (B3.out.grown hg B3.out.size (fun k h => by cases h; exact B1.out.size))
    have W4 := Lib.hid hw4
    clear hg hw4 d0 d1 d2 d3
    go_wp2_with fail
    refine (CS.out _ _ pk w4 (by have h1 := HPL.out; have h2 := H24.out; omega) W4.out).mono ?_
    rintro e w5 ⟨u, dd, rfl, ho, hp, hss, hb⟩
    obtain ⟨za, zc, rfl⟩ := own_slice ho
    have B5 := Lib.hid (below_end B4.out hb)
    have HE := Lib.hid (HKS.out dd (by trivial) (by trivial) hp hss)
    have O5 := Lib.hid (own_mono ho B4.out.size)
    clear hb ho hp hss
    go_wp2
    go_ret2
    exact ⟨_, _, [], [], by rw [← HE.out]; rfl, by rw [← HE.out, List.nil_append, List.append_nil]; exact O5.out, by rw [← HE.out]; exact PartOf.whole O5.out, B5.out⟩

end Go.Proofs.YtgkfnmbjlfmcmaaGreatDoor
