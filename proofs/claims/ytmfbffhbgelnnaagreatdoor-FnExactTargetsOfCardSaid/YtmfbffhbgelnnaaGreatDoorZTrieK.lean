/- The trie as keys (paths as lists of parts, numbers): what putting a number in and taking one out make of them. -/
import Derived.Test.YtmfbffhbgelnnaaGreatDoorZB8
import Derived.Test.YtmfbffhbgelnnaaGreatDoorZNodeP
set_option linter.unusedSimpArgs false
set_option linter.unusedVariables false
namespace Go.Proofs.YtmfbffhbgelnnaaGreatDoor
open Go.RowKit

abbrev PathM := List (List UInt8)
abbrev KeyM := PathM × List Int
def before (P Q : PathM) : Bool := less (jl P) (jl Q)
def paths (K : List KeyM) : List PathM := K.map (·.1)

theorem before_irrefl (P : PathM) : before P P = false := less_irrefl _
theorem before_trans {P Q R : PathM} (h : before P Q = true) (k : before Q R = true) : before P R = true := less_trans h k
theorem before_tri {P Q : PathM} (hP : Good P) (hQ : Good Q) : before P Q = true ∨ P = Q ∨ before Q P = true := by
  rcases less_tri (jl P) (jl Q) with h | h | h
  · exact .inl h
  · exact .inr (.inl (jl_inj hP hQ h))
  · exact .inr (.inr h)

theorem mem_paths {K : List KeyM} {P : PathM} : P ∈ paths K ↔ ∃ a ∈ K, a.1 = P := List.mem_map

theorem rising_of {K : List KeyM} (h : PathsOk (paths K)) : K.Pairwise fun a b => before a.1 b.1 = true := List.pairwise_map.1 h.sorted

theorem keys_ext {K L : List KeyM} (hK : PathsOk (paths K)) (hL : PathsOk (paths L)) (h : ∀ a, a ∈ K ↔ a ∈ L) : K = L :=
  sorted_ext (fun a b : KeyM => before a.1 b.1 = true) (fun a h => by rw [before_irrefl] at h; cases h) (fun a b c => before_trans) (rising_of hK) (rising_of hL) h

theorem key_same {K : List KeyM} (h : PathsOk (paths K)) {a b : KeyM} (ha : a ∈ K) (hb : b ∈ K) (e : a.1 = b.1) : a = b := by
  have hp := rising_of h
  clear h
  induction K with
  | nil => cases ha
  | cons c K ih =>
    rw [List.pairwise_cons] at hp
    rcases List.mem_cons.1 ha with ha | ha
    · rcases List.mem_cons.1 hb with hb | hb
      · rw [ha, hb]
      · have := hp.1 b hb; rw [← ha, e, before_irrefl] at this; cases this
    · rcases List.mem_cons.1 hb with hb | hb
      · have := hp.1 a ha; rw [← hb, e, before_irrefl] at this; cases this
      · exact ih ha hb hp.2

/-- Each front part of what is there is there. -/
theorem front_in {L : List PathM} (hL : PathsOk L) {P : PathM} (hP : P ∈ L) : ∀ d m, m + d = P.length → P.take m ∈ L
  | 0, m, hm => by rw [List.take_of_length_le (by omega)]; exact hP
  | d + 1, m, hm => by
    have h6 := hL.closed _ (front_in hL hP d (m + 1) (by omega)) (fun e => by have := congrArg List.length e; rw [List.length_take, List.length_nil] at this; omega)
    rw [List.dropLast_eq_take, List.length_take, List.take_take] at h6
    rw [show min (min (m + 1) P.length - 1) (m + 1) = m by omega] at h6
    exact h6

/-- A path more, with no numbers, where it isn't there. -/
def insP (K : List KeyM) (P : PathM) : List KeyM :=
  if P ∈ paths K then K else K.filter (fun a => before a.1 P) ++ (P, []) :: K.filter (fun a => before P a.1)

theorem insP_mem {K : List KeyM} {P : PathM} (hK : ∀ Q ∈ paths K, Good Q) (hP : Good P) (a : KeyM) : a ∈ insP K P ↔ a ∈ K ∨ (P ∉ paths K ∧ a = (P, [])) := by
  unfold insP
  split
  · rename_i h
    constructor
    · exact .inl
    · rintro (h1 | h1)
      · exact h1
      · exact absurd h h1.1
  · rename_i h
    rw [List.mem_append, List.mem_cons, List.mem_filter, List.mem_filter]
    constructor
    · rintro (h1 | h1 | h1)
      · exact .inl h1.1
      · exact .inr ⟨h, h1⟩
      · exact .inl h1.1
    · rintro (h1 | h1)
      · have hg := hK a.1 (mem_paths.2 ⟨a, h1, rfl⟩)
        rcases before_tri hg hP with h2 | h2 | h2
        · exact .inl ⟨h1, h2⟩
        · exact absurd (mem_paths.2 ⟨a, h1, h2⟩) h
        · exact .inr (.inr ⟨h1, h2⟩)
      · exact .inr (.inl h1.2)

theorem insP_paths {K : List KeyM} {P : PathM} (hK : ∀ Q ∈ paths K, Good Q) (hP : Good P) (Q : PathM) : Q ∈ paths (insP K P) ↔ Q ∈ paths K ∨ Q = P := by
  rw [mem_paths, mem_paths]
  constructor
  · rintro ⟨a, ha, rfl⟩
    rcases (insP_mem hK hP a).1 ha with h | h
    · exact .inl ⟨a, h, rfl⟩
    · rw [h.2]; exact .inr rfl
  · rintro (⟨a, ha, rfl⟩ | rfl)
    · exact ⟨a, (insP_mem hK hP a).2 (.inl ha), rfl⟩
    · by_cases h : Q ∈ paths K
      · obtain ⟨a, ha, e⟩ := mem_paths.1 h
        exact ⟨a, (insP_mem hK hP a).2 (.inl ha), e⟩
      · exact ⟨(Q, []), (insP_mem hK hP _).2 (.inr ⟨h, rfl⟩), rfl⟩

theorem insP_rising {K : List KeyM} {P : PathM} (hr : K.Pairwise fun a b => before a.1 b.1 = true) : (insP K P).Pairwise fun a b => before a.1 b.1 = true := by
  unfold insP
  split
  · exact hr
  · rw [List.pairwise_append, List.pairwise_cons]
    refine ⟨hr.filter _, ⟨fun b hb => (List.mem_filter.1 hb).2, hr.filter _⟩, fun a ha b hb => ?_⟩
    have h1 := (List.mem_filter.1 ha).2
    rcases List.mem_cons.1 hb with rfl | hb
    · exact h1
    · exact before_trans h1 (List.mem_filter.1 hb).2

theorem insP_ok {K : List KeyM} {P : PathM} (hK : PathsOk (paths K)) (hP : Good P) (hd : P.dropLast ∈ paths K) : PathsOk (paths (insP K P)) := by
  refine ⟨fun Q hQ hne => ?_, fun Q hQ => ?_, List.pairwise_map.2 (insP_rising (rising_of hK))⟩
  · rw [insP_paths hK.good hP] at hQ ⊢
    rcases hQ with h | rfl
    · exact .inl (hK.closed Q h hne)
    · exact .inl hd
  · rcases (insP_paths hK.good hP Q).1 hQ with h | rfl
    · exact hK.good Q h
    · exact hP

/-- The numbers at a path. -/
def idsAt (K : List KeyM) (P : PathM) : List Int := match K.find? (fun a => decide (a.1 = P)) with
  | some a => a.2
  | none => []
def addAt (K : List KeyM) (P : PathM) (id : Int) : List KeyM := K.map fun a => if a.1 = P then (a.1, into a.2 id) else a
def remAt (K : List KeyM) (P : PathM) (id : Int) : List KeyM := K.map fun a => if a.1 = P then (a.1, a.2.filter (fun y => decide (y ≠ id))) else a

theorem idsAt_of {K : List KeyM} (hK : PathsOk (paths K)) {a : KeyM} (ha : a ∈ K) : idsAt K a.1 = a.2 := by
  unfold idsAt
  cases e : K.find? (fun b => decide (b.1 = a.1)) with
  | none => have := List.find?_eq_none.1 e a ha; simp at this
  | some b =>
    have h1 := List.mem_of_find?_eq_some e
    have h2 := List.find?_some e
    rw [key_same hK h1 ha (by simpa using h2)]

theorem idsAt_none {K : List KeyM} {P : PathM} (h : P ∉ paths K) : idsAt K P = [] := by
  unfold idsAt
  cases e : K.find? (fun b => decide (b.1 = P)) with
  | none => rfl
  | some b => exact absurd (mem_paths.2 ⟨b, List.mem_of_find?_eq_some e, by simpa using List.find?_some e⟩) h

theorem addAt_paths (K : List KeyM) (P : PathM) (id : Int) : paths (addAt K P id) = paths K := by
  unfold paths addAt; rw [List.map_map]; apply List.map_congr_left; intro a _; simp only [Function.comp]; split <;> rfl
theorem remAt_paths (K : List KeyM) (P : PathM) (id : Int) : paths (remAt K P id) = paths K := by
  unfold paths remAt; rw [List.map_map]; apply List.map_congr_left; intro a _; simp only [Function.comp]; split <;> rfl

/-- What the program's put makes. -/
def preKeys : List KeyM → PathM → PathM → List KeyM
  | K, _, [] => K
  | K, X, p :: r => preKeys (insP K (X ++ [p])) (X ++ [p]) r
def putKeys (id : Int) : List KeyM → PathM → PathM → List KeyM × Bool
  | K, X, [] => if hasId (idsAt K X) id then (K, false) else (addAt K X id, true)
  | K, X, p :: r => putKeys id (insP K (X ++ [p])) (X ++ [p]) r

theorem putKeys_eq (id : Int) : ∀ (r : PathM) (K : List KeyM) (X : PathM), putKeys id K X r = if hasId (idsAt (preKeys K X r) (X ++ r)) id then (preKeys K X r, false) else (addAt (preKeys K X r) (X ++ r) id, true)
  | [], K, X => by rw [putKeys, preKeys, List.append_nil]
  | p :: r, K, X => by rw [putKeys, preKeys, putKeys_eq id r, List.append_assoc, List.singleton_append]

theorem preKeys_spec : ∀ (r : PathM) (K : List KeyM) (X : PathM), PathsOk (paths K) → X ∈ paths K → Good (X ++ r) →
    PathsOk (paths (preKeys K X r)) ∧ ∀ a, a ∈ preKeys K X r ↔ a ∈ K ∨ (a.2 = [] ∧ a.1 ∉ paths K ∧ ∃ n, X.length < n ∧ n ≤ (X ++ r).length ∧ a.1 = (X ++ r).take n)
  | [], K, X, hK, hX, hg => by
    refine ⟨hK, fun a => ?_⟩
    rw [preKeys]
    constructor
    · exact .inl
    · rintro (h | ⟨_, _, n, h1, h2, _⟩)
      · exact h
      · simp at h2; omega
  | p :: r, K, X, hK, hX, hg => by
    have e : X ++ p :: r = X ++ [p] ++ r := by simp
    have hgp : Good (X ++ [p]) := fun q hq => hg q (by rw [e]; exact List.mem_append_left _ hq)
    have hI := insP_ok hK hgp (by rw [List.dropLast_concat]; exact hX)
    have hXp : X ++ [p] ∈ paths (insP K (X ++ [p])) := (insP_paths hK.good hgp _).2 (.inr rfl)
    obtain ⟨h1, h2⟩ := preKeys_spec r (insP K (X ++ [p])) (X ++ [p]) hI hXp (by rw [← e]; exact hg)
    refine ⟨h1, fun a => ?_⟩
    rw [preKeys, h2, insP_mem hK.good hgp, insP_paths hK.good hgp, ← e]
    have hT : (X ++ p :: r).take (X.length + 1) = X ++ [p] := by rw [e]; exact List.take_left' (by simp)
    constructor
    · rintro ((h3 | ⟨h3, rfl⟩) | ⟨h3, h4, n, h5, h6, h7⟩)
      · exact .inl h3
      · exact .inr ⟨rfl, h3, X.length + 1, by omega, by simp, hT.symm⟩
      · rw [not_or] at h4
        exact .inr ⟨h3, h4.1, n, by rw [List.length_append] at h5; simp at h5; omega, h6, h7⟩
    · rintro (h3 | ⟨h3, h4, n, h5, h6, h7⟩)
      · exact .inl (.inl h3)
      · by_cases hn : n = X.length + 1
        · rw [hn, hT] at h7
          left; right
          exact ⟨by rw [← h7]; exact h4, by obtain ⟨a1, a2⟩ := a; simp only at h3 h7; rw [h3, h7]⟩
        · right
          refine ⟨h3, ?_, n, by simp; omega, h6, h7⟩
          rw [not_or]
          refine ⟨h4, fun e2 => ?_⟩
          rw [h7] at e2
          have := congrArg List.length e2
          rw [List.length_take] at this
          simp only [List.length_append, List.length_cons, List.length_nil] at this h6
          omega

/-- What the reference's loop over the paths makes. -/
def upKeys : Nat → List KeyM → PathM → List KeyM
  | 0, K, _ => K
  | n + 1, K, P => if P = [] then K else upKeys n (insP K P) P.dropLast

theorem upKeys_nil (n : Nat) (K : List KeyM) : upKeys n K [] = K := by cases n <;> simp [upKeys]

theorem upKeys_spec : ∀ (n : Nat) (K : List KeyM) (P : PathM), (∀ Q ∈ paths K, Good Q) → (K.Pairwise fun a b => before a.1 b.1 = true) → Good P → P.length ≤ n →
    (∀ Q ∈ paths (upKeys n K P), Good Q) ∧ ((upKeys n K P).Pairwise fun a b => before a.1 b.1 = true) ∧ ∀ a, a ∈ upKeys n K P ↔ a ∈ K ∨ (a.2 = [] ∧ a.1 ∉ paths K ∧ ∃ m, 0 < m ∧ m ≤ P.length ∧ a.1 = P.take m)
  | 0, K, P, hg, hr, hP, hn => by
    refine ⟨hg, hr, fun a => ?_⟩
    rw [upKeys]
    constructor
    · exact .inl
    · rintro (h | ⟨_, _, m, h1, h2, _⟩)
      · exact h
      · omega
  | n + 1, K, P, hg, hr, hP, hn => by
    by_cases h0 : P = []
    · subst h0
      rw [upKeys_nil]
      refine ⟨hg, hr, fun a => ?_⟩
      constructor
      · exact .inl
      · rintro (h | ⟨_, _, m, h1, h2, _⟩)
        · exact h
        · simp at h2; omega
    · rw [upKeys, if_neg h0]
      have hl : 0 < P.length := List.length_pos_iff.2 h0
      obtain ⟨h1, h2, h3⟩ := upKeys_spec n (insP K P) P.dropLast (fun Q hQ => by
        rcases (insP_paths hg hP Q).1 hQ with h | rfl
        · exact hg Q h
        · exact hP) (insP_rising hr) hP.dropLast (by rw [List.length_dropLast]; omega)
      refine ⟨h1, h2, fun a => ?_⟩
      rw [h3, insP_mem hg hP, insP_paths hg hP, List.length_dropLast]
      have ht : ∀ m, m ≤ P.length - 1 → P.dropLast.take m = P.take m := fun m hm => by
        rw [List.dropLast_eq_take, List.take_take, Nat.min_eq_left hm]
      constructor
      · rintro ((h4 | ⟨h4, rfl⟩) | ⟨h4, h5, m, h6, h7, h8⟩)
        · exact .inl h4
        · exact .inr ⟨rfl, h4, P.length, hl, Nat.le_refl _, by simp⟩
        · rw [not_or] at h5
          exact .inr ⟨h4, h5.1, m, h6, by omega, by rw [h8, ht m h7]⟩
      · rintro (h4 | ⟨h4, h5, m, h6, h7, h8⟩)
        · exact .inl (.inl h4)
        · by_cases hm : m = P.length
          · left; right
            rw [hm, List.take_length] at h8
            exact ⟨by rw [← h8]; exact h5, by obtain ⟨a1, a2⟩ := a; simp only at h4 h8; rw [h4, h8]⟩
          · right
            refine ⟨h4, ?_, m, h6, by omega, by rw [h8, ht m (by omega)]⟩
            rw [not_or]
            refine ⟨h5, fun e => ?_⟩
            rw [h8] at e
            have := congrArg List.length e
            rw [List.length_take] at this
            omega

/-- From short to long, or from long to short. -/
theorem up_pre {K : List KeyM} {P : PathM} {n : Nat} (hK : PathsOk (paths K)) (h0 : ([] : PathM) ∈ paths K) (hP : Good P) (hn : P.length ≤ n) : upKeys n K P = preKeys K [] P := by
  obtain ⟨h1, h2⟩ := preKeys_spec P K [] hK h0 hP
  obtain ⟨h3, h4, h5⟩ := upKeys_spec n K P hK.good (rising_of hK) hP hn
  refine sorted_ext (fun a b : KeyM => before a.1 b.1 = true) (fun a h => by rw [before_irrefl] at h; cases h) (fun a b c => before_trans) h4 (rising_of h1) fun a => ?_
  rw [h5, h2]
  simp only [List.nil_append, List.length_nil]

/-- Nothing is new where the path is there. -/
theorem pre_there {K : List KeyM} {P : PathM} (hK : PathsOk (paths K)) (h0 : ([] : PathM) ∈ paths K) (hP : P ∈ paths K) : preKeys K [] P = K := by
  obtain ⟨h1, h2⟩ := preKeys_spec P K [] hK h0 (hK.good P hP)
  refine keys_ext h1 hK fun a => ?_
  rw [h2]
  constructor
  · rintro (h | ⟨_, h, m, _, h4, h5⟩)
    · exact h
    · exfalso
      apply h
      rw [h5]
      simp only [List.nil_append] at h4 ⊢
      exact front_in hK hP (P.length - m) m (by omega)
  · exact .inl

theorem pre_has {K : List KeyM} {P : PathM} (hK : PathsOk (paths K)) (h0 : ([] : PathM) ∈ paths K) (hP : Good P) : P ∈ paths (preKeys K [] P) := by
  by_cases h : P ∈ paths K
  · rw [pre_there hK h0 h]; exact h
  · rw [mem_paths]
    refine ⟨(P, []), ((preKeys_spec P K [] hK h0 hP).2 _).2 (.inr ⟨rfl, h, P.length, ?_, Nat.le_refl _, by simp⟩), rfl⟩
    rcases P with _ | ⟨p, P⟩
    · exact absurd h0 h
    · simp

theorem pre_ids {K : List KeyM} {P : PathM} (hK : PathsOk (paths K)) (h0 : ([] : PathM) ∈ paths K) (hP : Good P) : idsAt (preKeys K [] P) P = idsAt K P := by
  obtain ⟨h1, h2⟩ := preKeys_spec P K [] hK h0 hP
  obtain ⟨a, ha, e⟩ := mem_paths.1 (pre_has hK h0 hP)
  have h3 := idsAt_of h1 ha
  rw [e] at h3
  rw [h3]
  rcases (h2 a).1 ha with h | ⟨h, h4, _⟩
  · have := idsAt_of hK h; rw [e] at this; exact this.symm
  · rw [h, idsAt_none (by rw [← e]; exact h4)]

/-- 'putKeys' from the root. -/
theorem put_root {K : List KeyM} {P : PathM} (id : Int) (hK : PathsOk (paths K)) (h0 : ([] : PathM) ∈ paths K) (hP : Good P) :
    putKeys id K [] P = if hasId (idsAt K P) id then (K, false) else (addAt (preKeys K [] P) P id, true) := by
  rw [putKeys_eq, List.nil_append, pre_ids hK h0 hP]
  split
  · rename_i h
    have : P ∈ paths K := by
      refine Classical.byContradiction fun hn => ?_
      rw [idsAt_none hn] at h; simp [hasId] at h
    rw [pre_there hK h0 this]
  · rfl

/-! ### Taking out -/

def hasKid (K : List KeyM) (P : PathM) : Bool := K.any fun a => decide (a.1 ≠ []) && decide (a.1.dropLast = P)
def emptyAt (K : List KeyM) (P : PathM) : Bool := (idsAt K P).isEmpty && !(hasKid K P)
def cutAt (K : List KeyM) (P : PathM) : List KeyM := K.filter fun a => decide (a.1 ≠ P)

/-- What the reference's loop makes. -/
def pruneK : Nat → List KeyM → PathM → List KeyM
  | 0, K, _ => K
  | n + 1, K, P => if P = [] then K else if emptyAt K P then pruneK n (cutAt K P) P.dropLast else K

/-- What the program makes on its way back (d: how many steps). -/
def backK : Nat → List KeyM → PathM → List KeyM
  | 0, K, _ => K
  | d + 1, K, P => if emptyAt (backK d K P) (P.take (P.length - d)) then cutAt (backK d K P) (P.take (P.length - d)) else backK d K P

def takeKeys (id : Int) : List KeyM → PathM → PathM → List KeyM × Bool
  | K, X, [] => if hasId (idsAt K X) id then (remAt K X id, true) else (K, false)
  | K, X, p :: r => if X ++ [p] ∈ paths K then
      (let y := takeKeys id K (X ++ [p]) r; if y.2 then (if emptyAt y.1 (X ++ [p]) then cutAt y.1 (X ++ [p]) else y.1, true) else (y.1, false))
    else (K, false)

theorem cut_paths (K : List KeyM) (P Q : PathM) : Q ∈ paths (cutAt K P) ↔ Q ∈ paths K ∧ Q ≠ P := by
  rw [mem_paths, mem_paths]
  unfold cutAt
  constructor
  · rintro ⟨a, ha, rfl⟩
    rw [List.mem_filter] at ha
    exact ⟨⟨a, ha.1, rfl⟩, by simpa using ha.2⟩
  · rintro ⟨⟨a, ha, rfl⟩, hne⟩
    exact ⟨a, List.mem_filter.2 ⟨ha, by simpa using hne⟩, rfl⟩

theorem kid_has {K : List KeyM} {P : PathM} : hasKid K P = true ↔ ∃ Q ∈ paths K, Q ≠ [] ∧ Q.dropLast = P := by
  unfold hasKid
  rw [List.any_eq_true]
  constructor
  · rintro ⟨a, ha, h⟩
    rw [Bool.and_eq_true, decide_eq_true_iff, decide_eq_true_iff] at h
    exact ⟨a.1, mem_paths.2 ⟨a, ha, rfl⟩, h⟩
  · rintro ⟨Q, hQ, h⟩
    obtain ⟨a, ha, rfl⟩ := mem_paths.1 hQ
    exact ⟨a, ha, by rw [Bool.and_eq_true, decide_eq_true_iff, decide_eq_true_iff]; exact h⟩

theorem empty_kid {K : List KeyM} {P : PathM} (h : emptyAt K P = true) : ∀ Q ∈ paths K, Q ≠ [] → Q.dropLast ≠ P := fun Q hQ hne e => by
  unfold emptyAt at h
  rw [Bool.and_eq_true] at h
  have := kid_has.2 ⟨Q, hQ, hne, e⟩
  rw [this] at h; simp at h

theorem cut_ok {K : List KeyM} {P : PathM} (hK : PathsOk (paths K)) (h : emptyAt K P = true) : PathsOk (paths (cutAt K P)) := by
  refine ⟨fun Q hQ hne => ?_, fun Q hQ => hK.good Q ((cut_paths K P Q).1 hQ).1, List.pairwise_map.2 ((rising_of hK).filter _)⟩
  rw [cut_paths] at hQ ⊢
  exact ⟨hK.closed Q hQ.1 hne, empty_kid h Q hQ.1 hne⟩

theorem prune_nil (n : Nat) (K : List KeyM) : pruneK n K [] = K := by cases n <;> simp [pruneK]

/-- One step more. -/
theorem prune_step : ∀ (n : Nat) (K : List KeyM) (P : PathM), PathsOk (paths K) → P ∈ paths K → n < P.length →
    pruneK (n + 1) K P = if emptyAt (pruneK n K P) (P.take (P.length - n)) then cutAt (pruneK n K P) (P.take (P.length - n)) else pruneK n K P
  | 0, K, P, hK, hP, hn => by
    have h0 : P ≠ [] := fun e => by rw [e] at hn; simp at hn
    have e0 : pruneK (0 + 1) K P = if emptyAt K P then cutAt K P else K := by rw [pruneK, if_neg h0]; rfl
    rw [e0, Nat.sub_zero, List.take_length]
    rfl
  | n + 1, K, P, hK, hP, hn => by
    have h0 : P ≠ [] := fun e => by rw [e] at hn; simp at hn
    rw [pruneK, if_neg h0]
    by_cases he : emptyAt K P = true
    · rw [if_pos he]
      have e1 : pruneK (n + 1) K P = pruneK n (cutAt K P) P.dropLast := by rw [pruneK, if_neg h0, if_pos he]
      have hne : P.dropLast ≠ P := fun e => by have := congrArg List.length e; rw [List.length_dropLast] at this; omega
      have h1 := prune_step n (cutAt K P) P.dropLast (cut_ok hK he) ((cut_paths K P _).2 ⟨hK.closed P hP h0, hne⟩) (by rw [List.length_dropLast]; omega)
      rw [h1, e1]
      have e2 : P.dropLast.take (P.dropLast.length - n) = P.take (P.length - (n + 1)) := by
        rw [List.length_dropLast, List.dropLast_eq_take, List.take_take]
        congr 1; omega
      rw [e2]
    · rw [if_neg he]
      have e1 : pruneK (n + 1) K P = K := by rw [pruneK, if_neg h0, if_neg he]
      rw [e1]
      have hk : emptyAt K (P.take (P.length - (n + 1))) = false := by
        unfold emptyAt
        have : hasKid K (P.take (P.length - (n + 1))) = true := by
          refine kid_has.2 ⟨P.take (P.length - n), front_in hK hP n _ (by omega), fun e => ?_, ?_⟩
          · have := congrArg List.length e; rw [List.length_take, List.length_nil] at this; omega
          · rw [List.dropLast_eq_take, List.length_take, List.take_take]; congr 1; omega
        rw [this]; simp
      rw [hk]; simp

theorem prune_back (K : List KeyM) (P : PathM) (hK : PathsOk (paths K)) (hP : P ∈ paths K) : ∀ n, n ≤ P.length → backK n K P = pruneK n K P
  | 0, _ => rfl
  | n + 1, h => by rw [backK, prune_step n K P hK hP (by omega), prune_back K P hK hP n (by omega)]

/-- What 'take' makes, as a loop. -/
theorem take_back (id : Int) : ∀ (r : PathM) (K : List KeyM) (X : PathM), PathsOk (paths K) → X ∈ paths K →
    takeKeys id K X r = if hasId (idsAt K (X ++ r)) id then (backK r.length (remAt K (X ++ r) id) (X ++ r), true) else (K, false)
  | [], K, X, hK, hX => by rw [takeKeys, List.append_nil]; rfl
  | p :: r, K, X, hK, hX => by
    have e : X ++ p :: r = X ++ [p] ++ r := by simp
    rw [takeKeys]
    by_cases h : X ++ [p] ∈ paths K
    · rw [if_pos h, take_back id r K (X ++ [p]) hK h, e]
      by_cases h2 : hasId (idsAt K (X ++ [p] ++ r)) id = true
      · simp only [h2, if_true, List.length_cons]
        rw [backK]
        have e3 : (X ++ [p] ++ r).take ((X ++ [p] ++ r).length - r.length) = X ++ [p] := by
          rw [List.take_left' (by simp; omega)]
        rw [e3]
      · simp only [h2]; rfl
    · rw [if_neg h]
      have h2 : X ++ p :: r ∉ paths K := fun h3 => by
        apply h
        have := front_in hK h3 r.length (X.length + 1) (by simp; omega)
        rw [e, List.take_left' (by simp)] at this
        exact this
      rw [idsAt_none h2]; rfl

theorem take_root (id : Int) {K : List KeyM} {P : PathM} (hK : PathsOk (paths K)) (h0 : ([] : PathM) ∈ paths K) :
    takeKeys id K [] P = if hasId (idsAt K P) id then (pruneK P.length (remAt K P id) P, true) else (K, false) := by
  rw [take_back id P K [] hK h0, List.nil_append]
  split
  · rename_i h
    have hP : P ∈ paths K := by
      refine Classical.byContradiction fun hn => ?_
      rw [idsAt_none hn] at h; simp [hasId] at h
    rw [prune_back _ _ (by rw [remAt_paths]; exact hK) (by rw [remAt_paths]; exact hP) _ (Nat.le_refl _)]
  · rfl

end Go.Proofs.YtmfbffhbgelnnaaGreatDoor
