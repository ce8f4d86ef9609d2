/- Small texts, laid together. -/
import Derived.Test.YtfkikdoecoobgaaDoorZCut
import Derived.Laws.Strings
import Derived.Test.YtfkikdoecoobgaaDoorZB1
import Derived.Lib.Hide
import Derived.Lib.SmallJoins
import Derived.BigQuiet
import Derived.Deep.QuietTactic
import Derived.OwnWalk
import Derived.Deep.RegionHeld
import Derived.Deep.Cut
import Derived.Deep.Draws
import Derived.WalkSpells
import Derived.WalkLawsBesides
import Derived.Deep.AppendLies
import Derived.Laws.Rows
set_option linter.unusedSimpArgs false
set_option linter.unusedVariables false
/- Plain mathematics of chapter 2: when the parts of a filter match those of a topic, and when they cover those of a filter. -/
namespace Go.Proofs.YtfkikdoecoobgaaDoor

def isPlus (p : ByteArray) : Bool := p.toList == [43]
def isHash (p : ByteArray) : Bool := p.toList == [35]
def alike (p q : ByteArray) : Bool := p.toList == q.toList

/-- Do the parts of a filter match those of a topic? -/
def matchP : List ByteArray → List ByteArray → Bool
  | [], [] => true
  | [], _ :: _ => false
  | p :: _, [] => isHash p
  | p :: ps, t :: ts => isHash p || ((isPlus p || alike p t) && matchP ps ts)

/-- Do the parts of a filter cover those of another? -/
def coverP : List ByteArray → List ByteArray → Bool
  | [], [] => true
  | [], _ :: _ => false
  | p :: _, [] => isHash p
  | p :: ps, q :: qs => isHash p || ((!isHash q) && (isPlus p || alike p q) && coverP ps qs)

/-- 'Matches'. -/
def matchB (f t : ByteArray) : Bool := filterP (parts f 47) && topicP (parts t 47) && matchP (parts f 47) (parts t 47)
/-- 'Covers'. -/
def coverB (a b : ByteArray) : Bool := filterP (parts a 47) && filterP (parts b 47) && coverP (parts a 47) (parts b 47)

theorem matchP_end (F T : List ByteArray) (k : Nat) (hF : F.length ≤ k) (hT : k ≤ T.length) : matchP (F.drop k) (T.drop k) = decide (k = T.length) := by
  rw [List.drop_of_length_le hF]
  by_cases h : k = T.length
  · rw [List.drop_of_length_le (by omega)]; simp [matchP, h]
  · rw [List.drop_eq_getElem_cons (show k < T.length by omega)]; simp [matchP, h]

theorem coverP_end (F T : List ByteArray) (k : Nat) (hF : F.length ≤ k) (hT : k ≤ T.length) : coverP (F.drop k) (T.drop k) = decide (k = T.length) := by
  rw [List.drop_of_length_le hF]
  by_cases h : k = T.length
  · rw [List.drop_of_length_le (by omega)]; simp [coverP, h]
  · rw [List.drop_eq_getElem_cons (show k < T.length by omega)]; simp [coverP, h]

theorem matchP_hash {F T : List ByteArray} {k : Nat} (h : k < F.length) (hp : isHash F[k] = true) : matchP (F.drop k) (T.drop k) = true := by
  rw [List.drop_eq_getElem_cons h]
  cases T.drop k <;> simp [matchP, hp]

theorem coverP_hash {F T : List ByteArray} {k : Nat} (h : k < F.length) (hp : isHash F[k] = true) : coverP (F.drop k) (T.drop k) = true := by
  rw [List.drop_eq_getElem_cons h]
  cases T.drop k <;> simp [coverP, hp]

theorem matchP_out {F T : List ByteArray} {k : Nat} (h : k < F.length) (hp : isHash F[k] = false) (hT : T.length ≤ k) : matchP (F.drop k) (T.drop k) = false := by
  rw [List.drop_eq_getElem_cons h, List.drop_of_length_le hT]; simp [matchP, hp]

theorem coverP_out {F T : List ByteArray} {k : Nat} (h : k < F.length) (hp : isHash F[k] = false) (hT : T.length ≤ k) : coverP (F.drop k) (T.drop k) = false := by
  rw [List.drop_eq_getElem_cons h, List.drop_of_length_le hT]; simp [coverP, hp]

theorem matchP_in {F T : List ByteArray} {k : Nat} (h : k < F.length) (hT : k < T.length) (hp : isHash F[k] = false) : matchP (F.drop k) (T.drop k) = ((isPlus F[k] || alike F[k] T[k]) && matchP (F.drop (k + 1)) (T.drop (k + 1))) := by
  rw [List.drop_eq_getElem_cons h, List.drop_eq_getElem_cons hT, matchP, hp, Bool.false_or]

theorem coverP_in {F T : List ByteArray} {k : Nat} (h : k < F.length) (hT : k < T.length) (hp : isHash F[k] = false) : coverP (F.drop k) (T.drop k) = ((!isHash T[k]) && (isPlus F[k] || alike F[k] T[k]) && coverP (F.drop (k + 1)) (T.drop (k + 1))) := by
  rw [List.drop_eq_getElem_cons h, List.drop_eq_getElem_cons hT, coverP, hp, Bool.false_or]

theorem alike_refl (p : ByteArray) : alike p p = true := by simp [alike]
theorem alike_trans {p q r : ByteArray} (h : alike p q = true) (k : alike q r = true) : alike p r = true := by
  simp only [alike, beq_iff_eq] at *; rw [h, k]
theorem plus_alike {p q : ByteArray} (h : alike p q = true) (k : isPlus q = true) : isPlus p = true := by
  simp only [alike, isPlus, beq_iff_eq] at *; rw [h, k]

theorem matchP_self : ∀ L : List ByteArray, matchP L L = true
  | [] => rfl
  | p :: L => by rw [matchP, alike_refl, matchP_self L]; simp

theorem coverP_self : ∀ L : List ByteArray, coverP L L = true
  | [] => rfl
  | p :: L => by rw [coverP, alike_refl, coverP_self L]; cases isHash p <;> simp

/-- What covers matches all that is matched. -/
theorem cover_match : ∀ A B T : List ByteArray, coverP A B = true → matchP B T = true → matchP A T = true
  | [], [], _, _, h => h
  | [], _ :: _, _, h, _ => by simp [coverP] at h
  | p :: ps, [], T, h, _ => by
    rw [coverP] at h
    cases T <;> simp [matchP, h]
  | p :: ps, q :: qs, T, h, k => by
    rw [coverP] at h
    by_cases hp : isHash p = true
    · cases T <;> simp [matchP, hp]
    · have hp2 : isHash p = false := by simpa using hp
      rw [hp2, Bool.false_or, Bool.and_eq_true, Bool.and_eq_true] at h
      obtain ⟨⟨hq, ha⟩, hc⟩ := h
      have hq2 : isHash q = false := by simpa using hq
      cases T with
      | nil => rw [matchP, hq2] at k; cases k
      | cons t ts =>
        rw [matchP, hq2, Bool.false_or, Bool.and_eq_true] at k
        obtain ⟨ka, kc⟩ := k
        rw [matchP, hp2, Bool.false_or, Bool.and_eq_true]
        refine ⟨?_, cover_match ps qs ts hc kc⟩
        rw [Bool.or_eq_true] at ha ka ⊢
        rcases ha with ha | ha
        · exact .inl ha
        · rcases ka with ka | ka
          · exact .inl (plus_alike ha ka)
          · exact .inr (alike_trans ha ka)

theorem matchB_self {x : ByteArray} (h : topicP (parts x 47) = true) (hf : filterP (parts x 47) = true) : matchB x x = true := by
  rw [matchB, h, hf, matchP_self]; rfl

theorem hash_isHash : isHash ⟨#[35]⟩ = true := by rw [isHash, Go.ByteArray.toList_eq]; rfl

theorem hash_parts : parts ⟨#[35]⟩ 47 = [⟨#[35]⟩] := by
  apply lists_ext; rw [parts_data]; rfl

theorem hash_filterP : filterP (parts ⟨#[35]⟩ 47) = true := by
  rw [hash_parts]; simp [filterP, filterTo, partF, Go.ByteArray.toList_eq]

theorem matchB_all {x : ByteArray} (h : topicP (parts x 47) = true) : matchB ⟨#[35]⟩ x = true := by
  rw [matchB, h, hash_filterP, hash_parts]
  cases parts x 47 <;> simp [matchP, hash_isHash]

theorem coverB_self {x : ByteArray} (h : filterP (parts x 47) = true) : coverB x x = true := by
  rw [coverB, h, coverP_self]; rfl

theorem coverB_all {x : ByteArray} (h : filterP (parts x 47) = true) : coverB ⟨#[35]⟩ x = true := by
  rw [coverB, h, hash_filterP, hash_parts]
  cases parts x 47 <;> simp [coverP, hash_isHash]

theorem coverB_match {p q x : ByteArray} (h : coverB p q = true) (k : matchB q x = true) : matchB p x = true := by
  simp only [coverB, matchB, Bool.and_eq_true] at *
  exact ⟨⟨h.1.1, k.1.2⟩, cover_match _ _ _ h.2 k.2⟩

end Go.Proofs.YtfkikdoecoobgaaDoor

/- Messages: how they lie in memory, as one and in rows; when they are right. -/
namespace Go.Proofs.YtfkikdoecoobgaaDoor
open Go.RowKit

/-- A message: its number, its teller, its topic, its body. -/
abbrev MsgM := Int × Int × ByteArray × Int

def mval (x : MsgM) : List Value := [.int .i64 x.1, .int .i64 x.2.1, .string x.2.2.1, .int .i64 x.2.2.2]
abbrev magg (x : MsgM) : Value := .agg #[.int .i64 x.1, .int .i64 x.2.1, .string x.2.2.1, .int .i64 x.2.2.2]
def mcells (l : List MsgM) : List Value := l.flatMap mval

/-- The four cells from (b, o) on hold the message x. -/
def MsgIn (w : World) (b o : Nat) (x : MsgM) : Prop :=
  w.cell? ⟨b, o, none⟩ = some (.int .i64 x.1) ∧ w.cell? ⟨b, o + 1, none⟩ = some (.int .i64 x.2.1) ∧ w.cell? ⟨b, o + 2, none⟩ = some (.string x.2.2.1) ∧ w.cell? ⟨b, o + 3, none⟩ = some (.int .i64 x.2.2.2)

/-- The cells from (b, o) on hold the messages l. -/
def MsgsIn (w : World) (b o : Nat) (l : List MsgM) : Prop := ∀ j (hj : j < l.length), MsgIn w b (o + j * 4) l[j]

/-- v reads as the messages l. -/
def MsgsAt (w : World) (v : Value) (l : List MsgM) : Prop :=
  ∃ a c, v = .slice a l.length c ∧ l.length ≤ c ∧ c ≤ maxLen ∧ (l = [] ∨ ∃ b o, a = some ⟨b, o, none⟩ ∧ MsgsIn w b o l)

theorem MsgIn.below {w w' : World} {b o : Nat} {x : MsgM} (h : MsgIn w b o x) (hb : Below w.heap.size w w') : MsgIn w' b o x := by
  have hlt := World.block_lt_of_cell? _ _ h.1
  exact ⟨(below_cell hb hlt).trans h.1, (below_cell hb hlt).trans h.2.1, (below_cell hb hlt).trans h.2.2.1, (below_cell hb hlt).trans h.2.2.2⟩

theorem MsgsIn.below {w w' : World} {b o : Nat} {l : List MsgM} (h : MsgsIn w b o l) (hb : Below w.heap.size w w') : MsgsIn w' b o l := fun j hj => (h j hj).below hb

theorem MsgsAt.below {w w' : World} {v : Value} {l : List MsgM} (h : MsgsAt w v l) (hb : Below w.heap.size w w') : MsgsAt w' v l := by
  obtain ⟨a, c, hv, h1, h2, h3⟩ := h
  refine ⟨a, c, hv, h1, h2, ?_⟩
  rcases h3 with h3 | ⟨b, o, ha, hi⟩
  · exact .inl h3
  · exact .inr ⟨b, o, ha, hi.below hb⟩

theorem MsgsAt.alloc {w : World} {v : Value} {l : List MsgM} (h : MsgsAt w v l) (x : Obj) : MsgsAt (w.alloc x) v l := h.below ((Below.refl _ _).alloc (Nat.le_refl _) x)

theorem mcells_cons (x : MsgM) (l : List MsgM) : mcells (x :: l) = .int .i64 x.1 :: .int .i64 x.2.1 :: .string x.2.2.1 :: .int .i64 x.2.2.2 :: mcells l := rfl
theorem mcells_app (a b : List MsgM) : mcells (a ++ b) = mcells a ++ mcells b := by simp [mcells]

theorem mcells_length : ∀ l : List MsgM, (mcells l).length = l.length * 4
  | [] => rfl
  | x :: l => by rw [mcells_cons]; simp only [List.length_cons, mcells_length l]; omega

theorem mcells_at : ∀ (l : List MsgM) (j : Nat) (h : j < l.length), (mcells l)[j * 4]? = some (.int .i64 l[j].1) ∧ (mcells l)[j * 4 + 1]? = some (.int .i64 l[j].2.1) ∧
    (mcells l)[j * 4 + 2]? = some (.string l[j].2.2.1) ∧ (mcells l)[j * 4 + 3]? = some (.int .i64 l[j].2.2.2)
  | x :: l, 0, _ => ⟨rfl, rfl, rfl, rfl⟩
  | x :: l, j + 1, h => by
    have ih := mcells_at l j (by simpa using h)
    rw [mcells_cons, show (j + 1) * 4 = j * 4 + 1 + 1 + 1 + 1 by omega, show j * 4 + 1 + 1 + 1 + 1 + 1 = (j * 4 + 1) + 1 + 1 + 1 + 1 by omega, show j * 4 + 1 + 1 + 1 + 1 + 2 = (j * 4 + 2) + 1 + 1 + 1 + 1 by omega, show j * 4 + 1 + 1 + 1 + 1 + 3 = (j * 4 + 3) + 1 + 1 + 1 + 1 by omega]
    simp only [List.getElem?_cons_succ, List.getElem_cons_succ]
    exact ih

theorem mcells_set : ∀ (l : List MsgM) (j : Nat) (x : MsgM), j < l.length →
    ((((mcells l).set (j * 4) (.int .i64 x.1)).set (j * 4 + 1) (.int .i64 x.2.1)).set (j * 4 + 2) (.string x.2.2.1)).set (j * 4 + 3) (.int .i64 x.2.2.2) = mcells (l.set j x)
  | y :: l, 0, x, _ => rfl
  | y :: l, j + 1, x, h => by
    rw [mcells_cons, show (j + 1) * 4 = j * 4 + 1 + 1 + 1 + 1 by omega, show j * 4 + 1 + 1 + 1 + 1 + 1 = (j * 4 + 1) + 1 + 1 + 1 + 1 by omega, show j * 4 + 1 + 1 + 1 + 1 + 2 = (j * 4 + 2) + 1 + 1 + 1 + 1 by omega, show j * 4 + 1 + 1 + 1 + 1 + 3 = (j * 4 + 3) + 1 + 1 + 1 + 1 by omega]
    simp only [List.set_cons_succ]
    rw [mcells_set l j x (by simpa using h), mcells_cons]

/-- An own row of messages. -/
def MOwn (w : World) (B : Nat) (v : Value) (l : List MsgM) : Prop := w.ownsRow B 29 4 v l.length (mcells l)

theorem own_msgs_at {w : World} {B : Nat} {v : Value} {l : List MsgM} (h : MOwn w B v l) : MsgsAt w v l := by
  rcases h.2 with ⟨rfl, h0⟩ | ⟨g, cap, cur, rfl, _, _, h4, h5, _, _⟩
  · exact ⟨none, 0, by rw [h0], by omega, by unfold maxLen; omega, .inl (List.length_eq_zero_iff.1 h0)⟩
  · refine ⟨_, cap, rfl, h4, h5, .inr ⟨g, 0, rfl, fun j hj => ?_⟩⟩
    have e := mcells_at l j hj
    refine ⟨?_, ?_, ?_, ?_⟩
    · rw [Nat.zero_add, h.cellAt _ (by omega)]; exact e.1
    · rw [Nat.zero_add, h.cellAt _ (by omega)]; exact e.2.1
    · rw [Nat.zero_add, h.cellAt _ (by omega)]; exact e.2.2.1
    · rw [Nat.zero_add, h.cellAt _ (by omega)]; exact e.2.2.2

/-! ### When they are right -/

def inB (x lo hi : Int) : Bool := decide (lo ≤ x) && decide (x ≤ hi)
def msgB (x : MsgM) : Bool := inB x.1 1 100000 && inB x.2.1 0 7 && topicP (parts x.2.2.1 47) && inB x.2.2.2 0 9999

/-- May message k stand behind the one ahead of it? -/
def nextM (l : List MsgM) (k : Nat) (h : k < l.length) : Bool := msgB l[k] && (decide (k = 0) || decide ((l[k - 1]'(by omega)).1 < l[k].1))
def msgsTo (l : List MsgM) (k : Nat) : Bool := (List.range k).all fun j => if h : j < l.length then nextM l j h else true
def msgsB (l : List MsgM) : Bool := msgsTo l l.length

theorem msgsTo_succ (l : List MsgM) (k : Nat) (h : k < l.length) : msgsTo l (k + 1) = (msgsTo l k && nextM l k h) := by
  unfold msgsTo; rw [List.range_succ, List.all_append]; simp [h]

theorem msgsTo_bad {l : List MsgM} {k : Nat} (h : k < l.length) (hb : nextM l k h = false) : msgsB l = false := by
  cases e : msgsB l
  · rfl
  · unfold msgsB msgsTo at e
    rw [List.all_eq_true] at e
    have := e k (List.mem_range.2 h)
    rw [dif_pos h, hb] at this; cases this

end Go.Proofs.YtfkikdoecoobgaaDoor

/- The walks of spec.l1Split and spec.PartsOf: the list of the parts, in memory of the call's own. -/
namespace Go.Proofs.YtfkikdoecoobgaaDoor
open Go.RowKit

theorem Tryd.infoString : (Tryd.prog.info? 9).map (fun i => (i.zero, i.size, i.bytes)) = some (some (.string ByteArray.empty), 1, 16) := by kernel_rfl

/-- The cells of a list of texts. -/
abbrev texts (l : List ByteArray) : List Value := l.map Value.string

theorem texts_snoc (l : List ByteArray) (x : ByteArray) : texts l ++ [.string x] = texts (l ++ [x]) := by simp [texts]

theorem one_string (x : ByteArray) : ∀ u ∈ [Value.string x], u.oneCell' = true := by
  intro u hu; simp at hu; subst hu; rfl

/-- What an append of one text has done: below B all is as it was. -/
theorem below_append {B : Nat} {w wr w' : World} {v : Value} {n : Nat} {xs : List Value} {o : Obj} {e : TypeId} {size : Nat} (hB : B ≤ wr.heap.size) (h : Below B w wr) (hown : wr.ownsRow B e size v n xs) (hg : (wr.alloc o).grownBy w' v.ownBlock) : Below B w w' :=
  (h.alloc hB o).grown hg (by simp; omega) (fun k hk => (hown.lt k hk).1)

set_option maxRecDepth 100000 in
set_option maxHeartbeats 800000 in
theorem specSplit_any (s : ByteArray) (c : UInt8) (w : World) (hs : s.size ≤ 1048576) :
    Calls Tryd.prog 60 #[.string s, .int .u8 (c.toNat : Int)] w fun e w' =>
      ∃ v, e = .returned v ∧ w'.ownsRow w.heap.size 9 1 v (parts s c).length (texts (parts s c)) ∧ Below w.heap.size w w' := by
  obtain ⟨i0, hi, hz0, hz1, hz2⟩ := info_parts Tryd.infoString
  go_enter Tryd.func60, Tryd.ntmps60
  go_wp2
  go_loopw [5, 6, 7] (fun v f i wr => ∃ (k fr : Nat) (l : List ByteArray), Hid (cutTo s c k = (l, fr)) ∧ k ≤ s.size + 1 ∧ fr ≤ k ∧ l.length ≤ k ∧ i = .int .i64 k ∧ f = .int .i64 fr ∧
      Hid (wr.ownsRow w.heap.size 9 1 v l.length (texts l)) ∧ Hid (Below w.heap.size w wr)) (fun _ _ i _ => s.size + 1 - (intOf i).toNat)
  case atStart => exact ⟨0, 0, [], rfl, Nat.zero_le _, Nat.zero_le _, Nat.zero_le _, rfl, rfl, World.ownsRow_made _ _ _ (Nat.le_refl _) (Nat.zero_le _) rfl, (Below.refl _ _).alloc (Nat.le_refl _) _⟩
  case round =>
    obtain ⟨k, fr, l, HC, hk, hfr, hl, rfl, rfl, H1, H2⟩ := hrel
    by_cases hd : k ≤ s.size
    · by_cases hhit : s.size ≤ k ∨ s.data.toList[k]? = some c
      · have HH : Hid (cutTo s c (k + 1) = (l ++ [s.extract fr k], k + 1)) := Lib.hid (by rw [cutTo_hit hhit, HC.out])
        have htest : k = s.size ∨ (k < s.size ∧ ∃ h : k < s.size, ((s[k].toNat : Int) == (c.toNat : Int)) = true) := by
          rcases hhit with h | h
          · exact .inl (by omega)
          · by_cases e : k = s.size
            · exact .inl e
            · refine .inr ⟨by omega, by omega, ?_⟩
              have hk2 : k < s.data.toList.length := show k < s.size by omega
              rw [List.getElem?_eq_getElem hk2] at h
              have e3 : s[k] = c := Option.some.inj h
              rw [e3]; simp
        clear hhit
        have htest2 : ((k : Int) == (s.size : Int)) = true ∨ (k < s.size ∧ ∃ h : k < s.size, ((s[k].toNat : Int) == (c.toNat : Int)) = true) := by
          rcases htest with h | h
          · exact .inl (by subst h; simp)
          · exact .inr h
        clear htest
        rcases htest2 with hc | ⟨hlt, hlt2, hc⟩
        all_goals
          go_wp2_with (at_builtin; go_must (refine wpList_append_own _ rfl _ _ 70 rfl w.heap.size 9 i0 (.string ByteArray.empty) 1 16 Tryd.underlying70 hi hz0 hz1 hz2 rfl (by decide) _ _ _ rfl (H1.out.alloc _) ⟨wr.heap.size, 0, none⟩ 1 1 [.string (s.extract fr k)] rfl rfl (cell_one_new _ _ _) (one_string _) (by unfold maxLen; omega) (by omega) (by have := H2.out.size; simp; omega) ?_))
          intro v' w1 hown' hgrow _
          have R1 : Hid (w1.ownsRow w.heap.size 9 1 v' (l ++ [s.extract fr k]).length (texts (l ++ [s.extract fr k]))) := Lib.hid (by rw [← texts_snoc]; simpa using hown')
          have R2 : Hid (Below w.heap.size w w1) := Lib.hid (below_append H2.out.size H2.out H1.out hgrow)
          clear hown' hgrow H1 H2 HC
          go_wp2
          go_roundw
          case rel => exact ⟨k + 1, k + 1, l ++ [s.extract fr k], HH, by omega, Nat.le_refl _, by simp; omega, by go_num, by go_num, R1, R2⟩
          case measure => simp [intOf]; omega
      · have HH : Hid (cutTo s c (k + 1) = (l, fr)) := Lib.hid (by rw [cutTo_miss (by omega) (fun e => hhit (.inr e)), HC.out])
        have hlt : k < s.size := by omega
        have hc : ((s[k].toNat : Int) == (c.toNat : Int)) = false := by
          have hk2 : k < s.data.toList.length := hlt
          have h3 : s[k] ≠ c := fun e => hhit (.inr (by rw [List.getElem?_eq_getElem hk2]; exact congrArg some e))
          rw [beq_eq_false_iff_ne]
          intro e
          exact h3 (UInt8.toNat_inj.1 (by omega))
        have hc0 : ((k : Int) == (s.size : Int)) = false := by rw [beq_eq_false_iff_ne]; omega
        clear hhit HC
        go_wp2
        go_roundw
        case rel => exact ⟨k + 1, fr, l, HH, by omega, by omega, by omega, by go_num, rfl, H1, H2⟩
        case measure => simp [intOf]; omega
    · obtain rfl : k = s.size + 1 := by omega
      have HP : Hid (parts s c = l) := Lib.hid (by unfold parts; rw [HC.out])
      clear HC
      go_wp2
      go_ret
      exact ⟨_, rfl, by rw [HP.out]; exact H1.out, H2.out⟩

theorem specParts_any (s : ByteArray) (w : World) (hs : s.size ≤ 1048576) :
    Calls Tryd.prog 52 #[.string s] w fun e w' =>
      ∃ v, e = .returned v ∧ w'.ownsRow w.heap.size 9 1 v (parts s 47).length (texts (parts s 47)) ∧ Below w.heap.size w w' := by
  go_enter Tryd.func52, Tryd.ntmps52
  go_wp2_with (go_at_call 60; refine (specSplit_any s 47 w hs).mono ?_; rintro e w' ⟨v, rfl, h1, h2⟩)
  go_ret
  exact ⟨_, rfl, h1, h2⟩

end Go.Proofs.YtfkikdoecoobgaaDoor

/- A row of texts, opened. -/
namespace Go.Proofs.YtfkikdoecoobgaaDoor
open Go.RowKit

/-- A row of texts that the call owns, opened: where it lies, and each cell. -/
theorem row_open {w : World} {B : Nat} {v : Value} {l : List ByteArray} {E : TypeId} (h : w.ownsRow B E 1 v l.length (texts l)) (hl : 0 < l.length) :
    ∃ g cap, v = .slice (some ⟨g, 0, none⟩) l.length cap ∧ B ≤ g ∧ g < w.heap.size ∧ (∀ j (hj : j < l.length), w.cell? ⟨g, j, none⟩ = some (.string l[j])) ∧ (∀ j, w.frozen? ⟨g, j, none⟩ = false) := by
  obtain ⟨g, cap, rfl⟩ := Joins.ownsRow_form h hl
  have hlt := h.lt g rfl
  refine ⟨g, cap, rfl, hlt.1, hlt.2, fun j hj => ?_, fun j => h.frozenAt j⟩
  rw [h.cellAt j (by omega)]
  simp [texts, hj]

end Go.Proofs.YtfkikdoecoobgaaDoor

/- (Dice, what names no function of the laws.) -/
namespace Go.Proofs.YtfkikdoecoobgaaDoor
open Go.RowKit

theorem and_u64 (x : Int) (M : Nat) (hM : M < 2147483648) : 0 ≤ bits .and .u64 x (M : Int) ∧ bits .and .u64 x (M : Int) ≤ M := by
  have e : bits .and .u64 x (M : Int) = IntKind.u64.wrap ((BitVec.ofInt 64 x &&& BitVec.ofInt 64 (M : Int)).toNat : Int) := rfl
  have h2 : (BitVec.ofInt 64 (M : Int)).toNat = M := by
    rw [BitVec.ofInt_natCast, BitVec.toNat_ofNat]; exact Nat.mod_eq_of_lt (by omega)
  have h3 : (BitVec.ofInt 64 x).toNat &&& M ≤ M := Nat.and_le_right
  rw [e, BitVec.toNat_and, h2, IntKind.wrap_u64]
  omega

theorem and_i64 (x : Int) (M : Nat) (hM : M < 2147483648) : 0 ≤ bits .and .i64 x (M : Int) ∧ bits .and .i64 x (M : Int) ≤ M := by
  have e : bits .and .i64 x (M : Int) = IntKind.i64.wrap ((BitVec.ofInt 64 x &&& BitVec.ofInt 64 (M : Int)).toNat : Int) := rfl
  have h2 : (BitVec.ofInt 64 (M : Int)).toNat = M := by
    rw [BitVec.ofInt_natCast, BitVec.toNat_ofNat]; exact Nat.mod_eq_of_lt (by omega)
  have h3 : (BitVec.ofInt 64 x).toNat &&& M ≤ M := Nat.and_le_right
  rw [e, BitVec.toNat_and, h2, IntKind.wrap_i64]
  omega

theorem mask_u64 (x : Int) : ∃ r : Nat, r ≤ 16777215 ∧ wrap64 (bits .and .u64 x 16777215) = r := by
  have h : 0 ≤ bits .and .u64 x 16777215 ∧ bits .and .u64 x 16777215 ≤ 16777215 := and_u64 x 16777215 (by decide)
  refine ⟨(bits .and .u64 x 16777215).toNat, by omega, ?_⟩
  unfold wrap64
  omega

theorem u64_nonneg (x : Int) : 0 ≤ IntKind.u64.wrap x := by rw [IntKind.wrap_u64]; omega

/-- The bytes of the code can be read; they lie below block g. -/
def CodeAt (g : Nat) (a : Option Addr) (len : Nat) (w : World) : Prop :=
  len = 0 ∨ ∃ b o, a = some ⟨b, o, none⟩ ∧ b < g ∧ ∀ j, j < len → ∃ z : Nat, z < 256 ∧ w.cell? ⟨b, o + j, none⟩ = some (.int .u8 z)

theorem CodeAt.below {g : Nat} {a : Option Addr} {len : Nat} {w w' : World} (h : CodeAt g a len w) (hb : ∀ k, k < g → w'.heap[k]? = w.heap[k]?) : CodeAt g a len w' := by
  rcases h with h | ⟨b, o, ha, hbg, hc⟩
  · exact .inl h
  · refine .inr ⟨b, o, ha, hbg, fun j hj => ?_⟩
    obtain ⟨z, hz, e⟩ := hc j hj
    exact ⟨z, hz, (World.cell?_of_block (hb b hbg)).trans e⟩

theorem CodeAt.mono {g g' : Nat} {a : Option Addr} {len : Nat} {w : World} (h : CodeAt g a len w) (hg : g ≤ g') : CodeAt g' a len w := by
  rcases h with h | ⟨b, o, ha, hb, hc⟩
  · exact .inl h
  · exact .inr ⟨b, o, ha, Nat.lt_of_lt_of_le hb hg, hc⟩

theorem big_any (a : Option Addr) (len cap : Nat) (w : World) :
    Calls Tryd.prog 4 #[.slice a len cap] w fun e w' => e = .returned (.bool (decide (4096 < len))) ∧ w = w' := by
  go_enter Tryd.func4, Tryd.ntmps4
  go_wp2
  go_ret
  exact ⟨ret_bool (by grind), rfl⟩

theorem CodeAt.grown {g : Nat} {a : Option Addr} {len : Nat} {w w' : World} (h : CodeAt g a len w) (hg : g ≤ w.heap.size) (hb : w.grownBy w' (some g)) : CodeAt g a len w' :=
  h.below fun k hk => hb.block k (by omega) (by simp; omega)

/-- A cell of a literal, laid ahead of a throw. -/
theorem pick_lit {w w1 : World} {E : TypeId} {cs : Array Value} {g r : Nat} (h : (w.alloc (.cells cs E)).grownBy w1 (some g)) (hg : g < w.heap.size) : w1.cell? ⟨w.heap.size, r, none⟩ = cs[r]? := by
  rw [World.cell?_of_block (a := ⟨w.heap.size, r, none⟩) (h.block w.heap.size (by simp) (by simp; omega)), World.cell?_alloc_at _ _ _ _ rfl]

/-! ### Texts with slashes between -/

theorem cut_eq (c : UInt8) (l : List UInt8) : cut c (c :: l) = [] :: cut c l := by rw [cut, if_pos rfl]
theorem cut_ne {c x : UInt8} {l p : List UInt8} {ps : List (List UInt8)} (h : ¬ x = c) (hl : cut c l = p :: ps) : cut c (x :: l) = (x :: p) :: ps := by rw [cut, if_neg h, hl]

theorem cut_app (c : UInt8) (a b : List UInt8) : cut c (a ++ c :: b) = cut c a ++ cut c b := by
  induction a with
  | nil => rw [List.nil_append, cut_eq]; rfl
  | cons x a ih =>
    obtain ⟨p, ps, h⟩ := cut_cons c a
    rw [List.cons_append]
    by_cases e : x = c
    · subst e; rw [cut_eq, cut_eq, ih]; rfl
    · rw [h] at ih
      rw [cut_ne e (ih.trans (List.cons_append ..)), cut_ne e h]; rfl

theorem cut_none (c : UInt8) (b : List UInt8) (h : c ∉ b) : cut c b = [b] := by
  induction b with
  | nil => rfl
  | cons x b ih =>
    simp only [List.mem_cons, not_or] at h
    rw [cut, if_neg (fun e => h.1 e.symm), ih h.2]

theorem parts_of_cut {s : ByteArray} {c : UInt8} {L : List ByteArray} (h : cut c s.data.toList = L.map (·.data.toList)) : parts s c = L :=
  lists_ext (by rw [parts_data, h])

theorem parts_one {s : ByteArray} {c : UInt8} (h : c ∉ s.data.toList) : parts s c = [s] := parts_of_cut (by rw [cut_none c _ h]; rfl)

theorem parts_app {s x : ByteArray} (h : (47 : UInt8) ∉ x.data.toList) : parts (s ++ ⟨#[47]⟩ ++ x) 47 = parts s 47 ++ [x] := by
  refine parts_of_cut ?_
  have e : (s ++ ⟨#[47]⟩ ++ x).data.toList = s.data.toList ++ 47 :: x.data.toList := by simp [ByteArray.data_append]
  rw [e, cut_app, cut_none _ _ h, ← parts_data]
  simp

/-- A part of a name as the dice draw it: a word or a plus, without a slash. -/
def goodPart (f : Bool) (p : ByteArray) : Prop := (isWord p = true ∨ (f = true ∧ p.toList = [43])) ∧ (47 : UInt8) ∉ p.data.toList

/-- A text of n parts, all of them good. -/
def NameN (f : Bool) (s : ByteArray) (n : Nat) : Prop := (parts s 47).length = n ∧ ∀ p ∈ parts s 47, goodPart f p

theorem NameN.one {f : Bool} {s : ByteArray} (h : goodPart f s) : NameN f s 1 := by
  rw [NameN, parts_one h.2]; exact ⟨rfl, fun p hp => by simp at hp; rw [hp]; exact h⟩

theorem NameN.next {f : Bool} {s x : ByteArray} {n : Nat} (h : NameN f s n) (hx : goodPart f x) : NameN f (s ++ ⟨#[47]⟩ ++ x) (n + 1) := by
  rw [NameN, parts_app hx.2]
  refine ⟨by simp [h.1], fun p hp => ?_⟩
  simp at hp
  rcases hp with hp | rfl
  · exact h.2 p hp
  · exact hx

theorem NameN.topic {s : ByteArray} {n : Nat} (h : NameN false s n) (hn : n ≤ 6) : topicP (parts s 47) = true := by
  rw [topicP, Bool.and_eq_true, decide_eq_true_iff, List.all_eq_true]
  refine ⟨by rw [h.1]; exact hn, fun p hp => ?_⟩
  rcases (h.2 p hp).1 with h | ⟨h, _⟩
  · exact h
  · cases h

theorem partF_good {f b : Bool} {p : ByteArray} (h : goodPart f p) : partF p b = true := by
  unfold partF
  rcases h.1 with h | ⟨_, h⟩ <;> simp [h]

theorem filterTo_all {l : List ByteArray} (h : ∀ j (hj : j < l.length), partF l[j] (decide (j + 1 = l.length)) = true) : filterTo l l.length = true := by
  rw [filterTo, List.all_eq_true]
  intro j hj
  have hj2 := List.mem_range.1 hj
  rw [List.getD_eq_getElem?_getD, List.getElem?_eq_getElem hj2]
  exact h j hj2

theorem NameN.filter {f : Bool} {s : ByteArray} {n : Nat} (h : NameN f s n) (hn : n ≤ 6) : filterP (parts s 47) = true := by
  rw [filterP, Bool.and_eq_true, decide_eq_true_iff]
  exact ⟨by rw [h.1]; exact hn, filterTo_all fun j hj => partF_good (h.2 _ (List.getElem_mem hj))⟩

theorem NameN.filterAll {f : Bool} {s : ByteArray} {n : Nat} (h : NameN f s n) (hn : n ≤ 5) : filterP (parts (s ++ ⟨#[47]⟩ ++ ⟨#[35]⟩) 47) = true := by
  rw [parts_app (x := ⟨#[35]⟩) (by decide), filterP, Bool.and_eq_true, decide_eq_true_iff]
  refine ⟨by simp [h.1]; omega, filterTo_all fun j hj => ?_⟩
  by_cases e : j < (parts s 47).length
  · rw [List.getElem_append_left e]; exact partF_good (h.2 _ (List.getElem_mem e))
  · have e2 : j = (parts s 47).length := by simp at hj; omega
    subst e2
    simp [partF, ByteArray.toList_eq]

theorem size_app1 (s y : ByteArray) : (s ++ ⟨#[47]⟩ ++ y).size = s.size + 1 + y.size := by rw [ByteArray.size_append, ByteArray.size_append]; rfl
theorem size_app2 (s : ByteArray) : (s ++ ⟨#[47, 35]⟩).size = s.size + 2 := by rw [ByteArray.size_append]; rfl
theorem app_hash (s : ByteArray) : s ++ ⟨#[47, 35]⟩ = s ++ ⟨#[47]⟩ ++ ⟨#[35]⟩ := by rw [ByteArray.append_assoc]; rfl

theorem hash_filter : filterP (parts ⟨#[35]⟩ 47) = true := by
  rw [parts_one (by decide)]
  simp [filterP, filterTo, partF, ByteArray.toList_eq]


end Go.Proofs.YtfkikdoecoobgaaDoor

/- The walks of the laws' looks at messages that are alike. -/
namespace Go.Proofs.YtfkikdoecoobgaaDoor
open Go.RowKit

set_option maxRecDepth 100000 in
set_option maxHeartbeats 3200000 in
theorem likeMsgs_any (va vb : Value) (l : List MsgM) (w : World) (hl : l.length ≤ 4000000) (ha : MsgsAt w va l) (hb : MsgsAt w vb l) :
    Calls Tryd.prog 24 #[va, vb] w fun e w' => e = .returned (.bool true) ∧ Below w.heap.size w w' := by
  obtain ⟨a, c, rfl, hc1, hc2, hc3⟩ := ha
  obtain ⟨a2, d, rfl, hd1, hd2, hd3⟩ := hb
  have HC := Lib.hid hc3
  have HD := Lib.hid hd3
  have e1 : (((l.length : Nat) : Int) != ((l.length : Nat) : Int)) = false := by simp
  have e2 : (l.length != l.length) = false := by simp
  clear hc3 hd3
  go_enter Tryd.func24, Tryd.ntmps24
  go_wp2
  go_loopw [5] (fun i wr => ∃ k : Nat, k ≤ l.length ∧ i = .int .i64 k ∧ Hid (Below w.heap.size w wr)) (fun i _ => l.length - (intOf i).toNat)
  case atStart => exact ⟨0, Nat.zero_le _, rfl, Below.refl _ _⟩
  case round =>
    obtain ⟨k, hk, rfl, HB⟩ := hrel
    by_cases hlt : k < l.length
    · obtain ⟨b, o, rfl, hin⟩ : ∃ b o, a = some ⟨b, o, none⟩ ∧ MsgsIn w b o l := by
        rcases HC.out with h | h
        · subst h; simp at hlt
        · exact h
      obtain ⟨b', o', rfl, hin'⟩ : ∃ b o, a2 = some ⟨b, o, none⟩ ∧ MsgsIn w b o l := by
        rcases HD.out with h | h
        · subst h; simp at hlt
        · exact h
      obtain ⟨p0, p1, p2, p3⟩ := (hin.below HB.out) k hlt
      obtain ⟨q0, q1, q2, q3⟩ := (hin'.below HB.out) k hlt
      generalize l[k] = x at p0 p1 p2 p3 q0 q1 q2 q3
      obtain ⟨q, t, p, dd⟩ := x
      clear hin hin'
      have HE : Hid (Below w.heap.size w wr.drew) := Lib.hid HB.out.drew
      go_wp2_with fail
      refine wp_region_held_drew (S := fun wx => wx.cell? ⟨b, o + k * 4, none⟩ = some (.int .i64 q) ∧ wx.cell? ⟨b, o + k * 4 + 1, none⟩ = some (.int .i64 t) ∧ wx.cell? ⟨b, o + k * 4 + 2, none⟩ = some (.string p) ∧ wx.cell? ⟨b, o + k * 4 + 3, none⟩ = some (.int .i64 dd) ∧ wx.cell? ⟨b', o' + k * 4, none⟩ = some (.int .i64 q) ∧ wx.cell? ⟨b', o' + k * 4 + 1, none⟩ = some (.int .i64 t) ∧ wx.cell? ⟨b', o' + k * 4 + 2, none⟩ = some (.string p) ∧ wx.cell? ⟨b', o' + k * 4 + 3, none⟩ = some (.int .i64 dd)) (by kernel_rfl) ?_ (fun hHeld => ?_)
      · exact ⟨p0, p1, p2, p3, q0, q1, q2, q3⟩
      change wpAnyH _ _ _ _ _ 9 #[false, false, false, false, false, false, false, false, false] _ _
      clear p0 p1 p2 p3 q0 q1 q2 q3
      refine wpAnyH_take (i := 0) (v := ?_) rfl (by kernel_rfl) (by kernel_rfl) (by kernel_rfl) (fun _ _ _ h => h) (Or.inl ⟨by rfl, ?_⟩) (by assumption) ?_
      rotate_left
      · intro w hSw; (try dsimp only at hSw); go_simp; try with_reducible rfl
      try simp only [Act.put, List.getElem_toArray, List.getElem_cons_succ, List.getElem_cons_zero, List.setIfInBounds_toArray, List.set_cons_zero, List.set_cons_succ]
      refine wpAnyH_take (i := 1) (v := ?_) rfl (by kernel_rfl) (by kernel_rfl) (by kernel_rfl) (fun _ _ _ h => h) (Or.inl ⟨by rfl, ?_⟩) (by assumption) ?_
      rotate_left
      · intro w hSw; (try dsimp only at hSw); go_simp; try with_reducible rfl
      try simp only [Act.put, List.getElem_toArray, List.getElem_cons_succ, List.getElem_cons_zero, List.setIfInBounds_toArray, List.set_cons_zero, List.set_cons_succ]
      refine wpAnyH_take (i := 2) (v := ?_) rfl (by kernel_rfl) (by kernel_rfl) (by kernel_rfl) (fun _ _ _ h => h) (Or.inl ⟨by rfl, ?_⟩) (by assumption) ?_
      rotate_left
      · intro w hSw; (try dsimp only at hSw); go_simp; try with_reducible rfl
      try simp only [Act.put, List.getElem_toArray, List.getElem_cons_succ, List.getElem_cons_zero, List.setIfInBounds_toArray, List.set_cons_zero, List.set_cons_succ]
      refine wpAnyH_take (i := 3) (v := ?_) rfl (by kernel_rfl) (by kernel_rfl) (by kernel_rfl) (fun _ _ _ h => h) (Or.inl ⟨by rfl, ?_⟩) (by assumption) ?_
      rotate_left
      · intro w hSw; (try dsimp only at hSw); go_simp; try with_reducible rfl
      try simp only [Act.put, List.getElem_toArray, List.getElem_cons_succ, List.getElem_cons_zero, List.setIfInBounds_toArray, List.set_cons_zero, List.set_cons_succ]
      refine wpAnyH_take (i := 4) (v := ?_) rfl (by kernel_rfl) (by kernel_rfl) (by kernel_rfl) (fun _ _ _ h => h) (Or.inl ⟨by rfl, ?_⟩) (by assumption) ?_
      rotate_left
      · intro w hSw; (try dsimp only at hSw); go_simp; try with_reducible rfl
      try simp only [Act.put, List.getElem_toArray, List.getElem_cons_succ, List.getElem_cons_zero, List.setIfInBounds_toArray, List.set_cons_zero, List.set_cons_succ]
      refine wpAnyH_take (i := 5) (v := ?_) rfl (by kernel_rfl) (by kernel_rfl) (by kernel_rfl) (fun _ _ _ h => h) (Or.inl ⟨by rfl, ?_⟩) (by assumption) ?_
      rotate_left
      · intro w hSw; (try dsimp only at hSw); go_simp; try with_reducible rfl
      try simp only [Act.put, List.getElem_toArray, List.getElem_cons_succ, List.getElem_cons_zero, List.setIfInBounds_toArray, List.set_cons_zero, List.set_cons_succ]
      refine wpAnyH_take (i := 6) (v := ?_) rfl (by kernel_rfl) (by kernel_rfl) (by kernel_rfl) (fun _ _ _ h => h) (Or.inl ⟨by rfl, ?_⟩) (by assumption) ?_
      rotate_left
      · intro w hSw; (try dsimp only at hSw); go_simp; try with_reducible rfl
      try simp only [Act.put, List.getElem_toArray, List.getElem_cons_succ, List.getElem_cons_zero, List.setIfInBounds_toArray, List.set_cons_zero, List.set_cons_succ]
      refine wpAnyH_take (i := 7) (v := ?_) rfl (by kernel_rfl) (by kernel_rfl) (by kernel_rfl) (fun _ _ _ h => h) (Or.inl ⟨by rfl, ?_⟩) (by assumption) ?_
      rotate_left
      · intro w hSw; (try dsimp only at hSw); go_simp; try with_reducible rfl
      try simp only [Act.put, List.getElem_toArray, List.getElem_cons_succ, List.getElem_cons_zero, List.setIfInBounds_toArray, List.set_cons_zero, List.set_cons_succ]
      refine wpAnyH_take (i := 8) (v := ?_) rfl (by kernel_rfl) (by kernel_rfl) (by kernel_rfl) (fun _ _ _ h => h) (Or.inl ⟨by rfl, ?_⟩) (by assumption) ?_
      rotate_left
      · intro w hSw; (try dsimp only at hSw); go_simp; try with_reducible rfl
      try simp only [Act.put, List.getElem_toArray, List.getElem_cons_succ, List.getElem_cons_zero, List.setIfInBounds_toArray, List.set_cons_zero, List.set_cons_succ]
      refine wpAnyH_done (by kernel_rfl) ?_ _
      clear hHeld
      go_wp2
      go_roundw
      case rel => exact ⟨k + 1, by omega, by go_num, HE⟩
      case measure => simp [intOf]; omega
    · obtain rfl : k = l.length := by omega
      go_wp2
      go_ret
      exact ⟨rfl, HB.out⟩

end Go.Proofs.YtfkikdoecoobgaaDoor

/- A message in a box. -/
namespace Go.Proofs.YtfkikdoecoobgaaDoor
open Go.RowKit

/-- The message lies boxed in block B. -/
def MBox (w : World) (B : Nat) (T : TypeId) (x : MsgM) : Prop := w.heap[B]? = some (.cells #[.int .i64 x.1, .int .i64 x.2.1, .string x.2.2.1, .int .i64 x.2.2.2] T (0, 0))
theorem MBox.below {w w' : World} {B : Nat} {T : TypeId} {x : MsgM} (h : MBox w B T x) (hb : Below w.heap.size w w') : MBox w' B T x := (hb.block _ (Array.getElem?_eq_some_iff.1 h).1).trans h
theorem MBox.new (w : World) (T : TypeId) (x : MsgM) : MBox (w.alloc (.cells #[.int .i64 x.1, .int .i64 x.2.1, .string x.2.2.1, .int .i64 x.2.2.2] T)) w.heap.size T x := heap_alloc_new _ _
theorem MBox.cells {w : World} {B : Nat} {T : TypeId} {x : MsgM} (h : MBox w B T x) : w.cell? ⟨B, 0, none⟩ = some (.int .i64 x.1) ∧ w.cell? ⟨B, 1, none⟩ = some (.int .i64 x.2.1) ∧ w.cell? ⟨B, 2, none⟩ = some (.string x.2.2.1) ∧ w.cell? ⟨B, 3, none⟩ = some (.int .i64 x.2.2.2) := by
  unfold MBox at h
  refine ⟨?_, ?_, ?_, ?_⟩ <;> simp [World.cell?, h]

end Go.Proofs.YtfkikdoecoobgaaDoor

/- An answer that is a part of an own row of messages: what it holds. -/
namespace Go.Proofs.YtfkikdoecoobgaaDoor
open Go.RowKit

theorem own_cap2 {w : World} {B n size g c : Nat} {E : TypeId} {xs : List Value} (h : w.ownsRow B E size (.slice (some ⟨g, 0, none⟩) n c) n xs) : n ≤ c := by
  rcases h.2 with ⟨e, _⟩ | ⟨g2, cap, cur, e, _, _, h4, _⟩
  · cases e
  · cases e; exact h4

theorem own_max {w : World} {B n size g c : Nat} {E : TypeId} {xs : List Value} (h : w.ownsRow B E size (.slice (some ⟨g, 0, none⟩) n c) n xs) : c ≤ maxLen := by
  rcases h.2 with ⟨e, _⟩ | ⟨g2, cap, cur, e, _, _, h4, h5, _⟩
  · cases e
  · cases e; exact h5

/-- u is n elements of the row V, from its p-th on. -/
def PartOf (V : Value) (p n : Nat) (u : Value) : Prop :=
  (V = .slice none 0 0 ∧ u = .slice none 0 0 ∧ n = 0) ∨ ∃ g o c C N, V = .slice (some ⟨g, 0, none⟩) N C ∧ u = .slice (some ⟨g, o, none⟩) n c ∧ n ≤ c ∧ c ≤ maxLen ∧ (n = 0 ∨ o = p * 4)

theorem PartOf.slice {V u : Value} {p n : Nat} (h : PartOf V p n u) : ∃ a c, u = .slice a n c := by
  rcases h with ⟨_, rfl, rfl⟩ | ⟨g, o, c, C, N, _, rfl, _⟩
  · exact ⟨none, 0, rfl⟩
  · exact ⟨_, _, rfl⟩

/-- A whole own row is a part of itself. -/
theorem PartOf.whole {w : World} {B : Nat} {v : Value} {l : List MsgM} (h : MOwn w B v l) : PartOf v 0 l.length v := by
  rcases h.2 with ⟨rfl, h0⟩ | ⟨g, cap, cur, rfl, _, _, h4, h5, _, _⟩
  · exact .inl ⟨rfl, rfl, h0⟩
  · exact .inr ⟨g, 0, cap, cap, l.length, rfl, rfl, h4, h5, .inr (by omega)⟩

theorem part_at {w : World} {B : Nat} {V u : Value} {pre l post : List MsgM} (h : MOwn w B V (pre ++ l ++ post)) (hp : PartOf V pre.length l.length u) : MsgsAt w u l := by
  rcases hp with ⟨rfl, rfl, h0⟩ | ⟨g, o, c, C, N, rfl, rfl, h1, h2, h3⟩
  · exact ⟨none, 0, by rw [h0], by omega, by unfold maxLen; omega, .inl (List.length_eq_zero_iff.1 h0)⟩
  · refine ⟨_, c, rfl, h1, h2, ?_⟩
    rcases h3 with h3 | h3
    · exact .inl (List.length_eq_zero_iff.1 h3)
    · refine .inr ⟨g, o, rfl, fun j hj => ?_⟩
      have e := mcells_at (pre ++ l ++ post) (pre.length + j) (by simp; omega)
      have e2 : (pre ++ l ++ post)[pre.length + j]'(by simp; omega) = l[j] := by
        rw [List.getElem_append_left (by simp; omega), List.getElem_append_right (by omega)]
        simp
      rw [e2] at e
      obtain ⟨_, _, eN⟩ := own_slice h
      cases eN
      have hlen : (pre ++ l ++ post).length = pre.length + l.length + post.length := by simp; omega
      subst h3
      have hc := fun i (hi : i < (pre ++ l ++ post).length * 4) => h.cellAt i hi
      refine ⟨?_, ?_, ?_, ?_⟩
      · rw [show pre.length * 4 + j * 4 = (pre.length + j) * 4 by omega, hc _ (by omega)]; exact e.1
      · rw [show pre.length * 4 + j * 4 + 1 = (pre.length + j) * 4 + 1 by omega, hc _ (by omega)]; exact e.2.1
      · rw [show pre.length * 4 + j * 4 + 2 = (pre.length + j) * 4 + 2 by omega, hc _ (by omega)]; exact e.2.2.1
      · rw [show pre.length * 4 + j * 4 + 3 = (pre.length + j) * 4 + 3 by omega, hc _ (by omega)]; exact e.2.2.2

end Go.Proofs.YtfkikdoecoobgaaDoor

/- slices.IndexFunc and slices.ContainsFunc at messages, with whatever closure that only makes memory of its own. -/
namespace Go.Proofs.YtfkikdoecoobgaaDoor
open Go.RowKit

/-- What is asked of the closure. -/
def PredM (g : Nat) (lb : Array Value) (p : MsgM → Bool) (l : List MsgM) (w : World) : Prop :=
  ∀ (W : World) (x : MsgM), x ∈ l → Below w.heap.size w W → Calls Tryd.prog g (#[magg x] ++ lb) W fun e w' => e = .returned (.bool (p x)) ∧ Below W.heap.size W w'

set_option maxRecDepth 100000 in
set_option maxHeartbeats 3200000 in
theorem indexG_any (u : Value) (l : List MsgM) (pr : MsgM → Bool) (g : Nat) (lb : Array Value) (eg : ∀ args w, (callFunc g args).run Tryd.prog w = .ok (.enter g args) w) (w : World) (hl : l.length ≤ 2000000) (hv : MsgsAt w u l) (hp : PredM g lb pr l w) :
    Calls Tryd.prog 57 #[u, .func (.func g) #[] lb] w fun e w' =>
      ∃ z : Int, e = .returned (.int .i64 z) ∧ ((z = -1 ∧ ∀ x ∈ l, pr x = false) ∨ ∃ k : Nat, z = k ∧ ∃ h : k < l.length, pr l[k] = true ∧ ∀ j (hj : j < k), pr (l[j]'(by omega)) = false) ∧ Below w.heap.size w w' := by
  obtain ⟨a, c, rfl, hc1, hc2, hc3⟩ := hv
  have HC := Lib.hid hc3
  have HP := Lib.hid hp
  clear hc3 hp
  go_enter Tryd.func57, Tryd.ntmps57
  go_wp2
  go_loopw [8] (fun i wr => ∃ k : Nat, k ≤ l.length ∧ i = .int .i64 k ∧ Hid (∀ j (hj : j < k) (hk : j < l.length), pr l[j] = false) ∧ Hid (Below w.heap.size w wr)) (fun i _ => l.length - (intOf i).toNat)
  case atStart => exact ⟨0, Nat.zero_le _, rfl, Lib.hid (fun j hj => absurd hj (Nat.not_lt_zero _)), Below.refl _ _⟩
  case round =>
    obtain ⟨k, hk, rfl, HT, HB⟩ := hrel
    by_cases hlt : k < l.length
    · obtain ⟨b, o, rfl, hin⟩ : ∃ b o, a = some ⟨b, o, none⟩ ∧ MsgsIn w b o l := by
        rcases HC.out with h | h
        · subst h; simp at hlt
        · exact h
      obtain ⟨p0, p1, p2, p3⟩ := (hin.below HB.out) k hlt
      have CX := Lib.hid (HP.out wr l[k] (List.getElem_mem hlt) HB.out)
      have HG : Hid (pr l[k] = true → (∃ kk : Nat, (k : Int) = kk ∧ ∃ h : kk < l.length, pr l[kk] = true ∧ ∀ j (hj : j < kk), pr (l[j]'(by omega)) = false)) := Lib.hid (fun h => ⟨k, rfl, hlt, h, fun j hj => HT.out j hj (by omega)⟩)
      have HN : Hid (pr l[k] = false → ∀ j (hj : j < k + 1) (hk : j < l.length), pr l[j] = false) := Lib.hid (fun h j hj hk => by
        rcases Nat.lt_or_ge j k with h1 | h1
        · exact HT.out j h1 hk
        · have : j = k := by omega
          subst this; exact h)
      generalize pr l[k] = gb at CX HG HN
      generalize l[k] = x at p0 p1 p2 p3 CX
      obtain ⟨q, t, p, d⟩ := x
      clear hin HT
      cases gb
      · have HT := Lib.hid (HN.out (by trivial))
        go_wp2_with fail
        refine CX.out.mono ?_
        rintro e w1 ⟨rfl, hb⟩
        have B1 := Lib.hid (below_end HB.out hb)
        clear hb p0 p1 p2 p3
        go_wp2
        go_roundw
        case rel => exact ⟨k + 1, by omega, by go_num, HT, B1⟩
        case measure => simp [intOf]; omega
      · have HT := Lib.hid (HG.out (by trivial))
        go_wp2_with fail
        refine CX.out.mono ?_
        rintro e w1 ⟨rfl, hb⟩
        have B1 := Lib.hid (below_end HB.out hb)
        clear hb p0 p1 p2 p3
        go_wp2
        go_ret
        exact ⟨_, rfl, .inr HT.out, B1.out⟩
    · obtain rfl : k = l.length := by omega
      go_wp2
      go_ret
      exact ⟨-1, rfl, .inl ⟨rfl, fun x hx => by obtain ⟨j, hj, rfl⟩ := List.mem_iff_getElem.1 hx; exact HT.out j hj hj⟩, HB.out⟩

end Go.Proofs.YtfkikdoecoobgaaDoor

/- Rows of messages: empty ones, and one laid anew. -/
namespace Go.Proofs.YtfkikdoecoobgaaDoor
open Go.RowKit

def msgZ : MsgM := (0, 0, ⟨#[]⟩, 0)

theorem madeCells_four (n : Nat) : (madeCells #[.int .i64 0, .int .i64 0, .string ⟨#[]⟩, .int .i64 0] (n * 4)).toList = mcells (List.replicate n msgZ) := by
  have hl := mcells_length (List.replicate n msgZ)
  rw [List.length_replicate] at hl
  apply List.ext_getElem?
  intro i
  by_cases hi : i < n * 4
  · have e := mcells_at (List.replicate n msgZ) (i / 4) (by simp; omega)
    simp only [List.getElem_replicate] at e
    obtain ⟨j, hj | hj | hj | hj⟩ : ∃ j, i = j * 4 ∨ i = j * 4 + 1 ∨ i = j * 4 + 2 ∨ i = j * 4 + 3 := ⟨i / 4, by omega⟩
    · subst hj
      rw [show j * 4 / 4 = j by omega] at e
      rw [e.1]; simp [madeCells, hi, msgZ]
    · subst hj
      rw [show (j * 4 + 1) / 4 = j by omega] at e
      rw [e.2.1]; simp [madeCells, hi, msgZ, Nat.add_mod]
    · subst hj
      rw [show (j * 4 + 2) / 4 = j by omega] at e
      rw [e.2.2.1]; simp [madeCells, hi, msgZ, Nat.add_mod]
    · subst hj
      rw [show (j * 4 + 3) / 4 = j by omega] at e
      rw [e.2.2.2]; simp [madeCells, hi, msgZ, Nat.add_mod]
  · rw [List.getElem?_eq_none (by simp [size_madeCells]; omega), List.getElem?_eq_none (by omega)]

/-- The k-th message laid anew: four stores. -/
def put4 (w : World) (g k : Nat) (x : MsgM) : World :=
  (((w.setCell ⟨g, k * 4, none⟩ (.int .i64 x.1)).setCell ⟨g, k * 4 + 1, none⟩ (.int .i64 x.2.1)).setCell ⟨g, k * 4 + 2, none⟩ (.string x.2.2.1)).setCell ⟨g, k * 4 + 3, none⟩ (.int .i64 x.2.2.2)

theorem MOwn.put {w : World} {B g n cap k : Nat} {l : List MsgM} (x : MsgM) (h : MOwn w B (.slice (some ⟨g, 0, none⟩) n cap) l) (hn : n = l.length) (hk : k < l.length) : MOwn (put4 w g k x) B (.slice (some ⟨g, 0, none⟩) n cap) (l.set k x) := by
  subst hn
  unfold MOwn at h ⊢
  rw [List.length_set, ← mcells_set l k x hk]
  exact ((((h.stored _ _).1.stored _ _).1.stored _ _).1.stored _ _).1

theorem grown_put4 (w : World) (g k : Nat) (x : MsgM) : w.grownBy (put4 w g k x) (some g) :=
  grown_trans (grown_trans (grown_trans (grown_setCell _ _ _ _) (grown_setCell _ _ _ _)) (grown_setCell _ _ _ _)) (grown_setCell _ _ _ _)

end Go.Proofs.YtfkikdoecoobgaaDoor

/- The walk of impl.PartsOf. -/
namespace Go.Proofs.YtfkikdoecoobgaaDoor
open Go.RowKit

theorem implParts_any (s : ByteArray) (m : Int) (w : World) (hs : s.size ≤ 1048576) (hm : w.cell? ⟨0, 0, none⟩ = some (.int .i64 m)) :
    Calls Tryd.prog 64 #[.string s] w fun e w' =>
      ∃ v, e = .returned v ∧ w'.ownsRow w.heap.size 9 1 v (parts s 47).length (texts (parts s 47)) ∧ Below w.heap.size w w' := by
  have c := Tryd.strings_Split s ⟨#[47]⟩ m w (by omega) hm (Nat.le_refl 1)
  rw [splitB_parts, countB_parts] at c
  have hp := parts_le s 47
  go_enter Tryd.func64, Tryd.ntmps64
  go_wp2_with (go_at_call 66; refine c.mono ?_; rintro e w' ⟨rfl, rfl⟩)
  go_ret
  refine ⟨_, rfl, ?_, (Below.refl _ _).alloc (Nat.le_refl _) _⟩
  have := World.ownsRow_lit (base := w.heap.size) (e := 9) (size := 1) w (texts (parts s 47)).toArray (parts s 47).length (Nat.le_refl _) (by unfold maxLen; omega) (by simp)
  simpa using this

end Go.Proofs.YtfkikdoecoobgaaDoor

/- The walk of the reference's look whether a number lies between two. -/
namespace Go.Proofs.YtfkikdoecoobgaaDoor
open Go.RowKit

theorem quiet_back {P : Program} {f : Nat} {args : Array Value} {w : World} {v : Value} (h : Calls P f args w fun e w' => e = .returned v ∧ w = w') : Calls P f args w fun e w' => e = .returned v ∧ w' = w := h.mono fun _ _ ⟨he, hw⟩ => ⟨he, hw.symm⟩

theorem specIn_any (x lo hi : Int) (w : World) :
    Calls Tryd.prog 26 #[.int .i64 x, .int .i64 lo, .int .i64 hi] w fun e w' => e = .returned (.bool (decide (lo ≤ x) && decide (x ≤ hi))) ∧ w = w' := by
  by_cases h1 : lo ≤ x
  · go_enter Tryd.func26, Tryd.ntmps26
    go_wp2
    go_ret
    exact ⟨ret_bool (by simp [h1]), rfl⟩
  · go_enter Tryd.func26, Tryd.ntmps26
    go_wp2
    go_ret
    exact ⟨ret_bool (by simp; omega), rfl⟩

end Go.Proofs.YtfkikdoecoobgaaDoor

/- The walk of the reference's TopicOk: is a text a topic? -/
namespace Go.Proofs.YtfkikdoecoobgaaDoor
open Go.RowKit

set_option maxRecDepth 100000 in
set_option maxHeartbeats 800000 in
theorem specTopic_any (s : ByteArray) (w : World) (hs : s.size ≤ 1048576) :
    Calls Tryd.prog 41 #[.string s] w fun e w' => e = .returned (.bool (topicP (parts s 47))) ∧ Below w.heap.size w w' := by
  have hpos := parts_pos s 47
  have hple := parts_le s 47
  have hps : Hid (∀ p ∈ parts s 47, p.size ≤ s.size) := Lib.hid (fun p h => parts_size h)
  obtain ⟨l, hl⟩ : ∃ l, parts s 47 = l := ⟨_, rfl⟩
  have hc := fun w => specParts_any s w hs
  rw [hl] at hpos hple hps ⊢
  simp only [hl] at hc
  clear hl
  go_enter Tryd.func41, Tryd.ntmps41
  go_wp2_with (go_at_call 52; refine (hc w).mono ?_; clear hc; rintro e w1 ⟨v, rfl, h1, h2⟩; obtain ⟨g, cap, rfl, hg1, hg2, hcell, _⟩ := row_open h1 hpos; have HC := Lib.hid hcell; have H2 := Lib.hid h2; clear h1 h2 hcell)
  go_loop [4] (fun i => ∃ k : Nat, k ≤ l.length ∧ i = .int .i64 k ∧ Hid ((l.take k).all isWord = true)) (fun i => l.length - (intOf i).toNat)
  case atStart => exact ⟨0, Nat.zero_le _, rfl, rfl⟩
  case round =>
    obtain ⟨k, hk, rfl, HL⟩ := hrel
    by_cases hlt : k < l.length
    · have hcx := HC.out k hlt
      have hsz : Hid (l[k].size ≤ maxLen) := Lib.hid (by have := hps.out _ (List.getElem_mem hlt); unfold maxLen; omega)
      cases hw : isWord l[k]
      · have HB := Lib.hid (topicP_bad hlt hw)
        have cw := specWord_any l[k] w1 hsz.out
        rw [hw] at cw
        clear hw
        go_wp2_with (go_at_call 53; refine cw.mono ?_; rintro e w' ⟨rfl, rfl⟩)
        go_ret
        exact ⟨ret_bool HB.out.symm, H2.out⟩
      · have HN : Hid ((l.take (k + 1)).all isWord = true) := Lib.hid (by rw [all_snoc l k hlt, HL.out, hw]; rfl)
        have cw := specWord_any l[k] w1 hsz.out
        rw [hw] at cw
        clear hw
        go_wp2_with (go_at_call 53; refine cw.mono ?_; rintro e w' ⟨rfl, rfl⟩)
        go_round
        case rel => exact ⟨k + 1, by omega, by go_num, HN⟩
        case measure => simp [intOf]; omega
    · obtain rfl : k = l.length := by omega
      have HE := Lib.hid (topicP_end HL.out)
      clear HL
      go_wp2
      go_ret
      exact ⟨ret_bool (by rw [HE.out]; grind), H2.out⟩

end Go.Proofs.YtfkikdoecoobgaaDoor

/- The walks of the reference's MsgOk and MsgsOk. -/
namespace Go.Proofs.YtfkikdoecoobgaaDoor
open Go.RowKit

set_option maxRecDepth 100000 in
set_option maxHeartbeats 1600000 in
theorem specMsgOk_any (x : MsgM) (w : World) (hs : x.2.2.1.size ≤ 1048576) :
    Calls Tryd.prog 28 #[magg x] w fun e w' => e = .returned (.bool (msgB x)) ∧ Below w.heap.size w w' := by
  obtain ⟨q, f, p, d⟩ := x
  dsimp only at hs
  have C1 := Lib.hid (fun w' => specIn_any q 1 100000 w')
  have C2 := Lib.hid (fun w' => specIn_any f 0 7 w')
  have C3 := Lib.hid (fun w' => specTopic_any p w' hs)
  have C4 := Lib.hid (fun w' => specIn_any d 0 9999 w')
  have HB : Hid (msgB (q, f, p, d) = ((decide (1 ≤ q) && decide (q ≤ 100000)) && (decide (0 ≤ f) && decide (f ≤ 7)) && topicP (parts p 47) && (decide (0 ≤ d) && decide (d ≤ 9999)))) := rfl
  generalize (decide (1 ≤ q) && decide (q ≤ 100000)) = b1 at C1 HB
  generalize (decide (0 ≤ f) && decide (f ≤ 7)) = b2 at C2 HB
  generalize topicP (parts p 47) = b3 at C3 HB
  generalize (decide (0 ≤ d) && decide (d ≤ 9999)) = b4 at C4 HB
  clear hs
  go_enter Tryd.func28, Tryd.ntmps28
  go_wp2_with fail
  refine (C1.out _).mono ?_
  rintro e w1 ⟨rfl, rfl⟩
  cases b1
  · go_wp2
    go_ret
    exact ⟨ret_bool (by rw [HB.out]; rfl), (Below.refl _ _).alloc (Nat.le_refl _) _⟩
  go_wp2_with fail
  refine (C2.out _).mono ?_
  rintro e w1 ⟨rfl, rfl⟩
  cases b2
  · go_wp2
    go_ret
    exact ⟨ret_bool (by rw [HB.out]; rfl), (Below.refl _ _).alloc (Nat.le_refl _) _⟩
  go_wp2_with fail
  have b0 : Below w.heap.size w (w.alloc (.cells #[.int .i64 q, .int .i64 f, .string p, .int .i64 d] 29)) := (Below.refl _ _).alloc (Nat.le_refl _) _
  have s0 : w.heap.size < (w.alloc (.cells #[.int .i64 q, .int .i64 f, .string p, .int .i64 d] 29)).heap.size := by simp
  have c0 : (w.alloc (.cells #[.int .i64 q, .int .i64 f, .string p, .int .i64 d] 29)).cell? ⟨w.heap.size, 3, none⟩ = some (.int .i64 d) := by rw [World.cell?_alloc_at _ _ _ _ rfl]; rfl
  generalize w.alloc (.cells #[.int .i64 q, .int .i64 f, .string p, .int .i64 d] 29) = w0 at b0 s0 c0 ⊢
  refine (C3.out _).mono ?_
  rintro e w1 ⟨rfl, hb⟩
  have c1 := (below_cell hb s0).trans c0
  have B1 := Lib.hid (b0.trans (hb.mono b0.size))
  clear b0 s0 c0 hb
  cases b3
  · go_wp2
    go_ret
    exact ⟨ret_bool (by rw [HB.out]; rfl), B1.out⟩
  go_wp2_with fail
  refine (C4.out _).mono ?_
  rintro e w2 ⟨rfl, rfl⟩
  go_wp2
  go_ret
  exact ⟨ret_bool (by rw [HB.out]; simp), B1.out⟩

end Go.Proofs.YtfkikdoecoobgaaDoor

/- Messages as cells: what an append of messages reads. -/
namespace Go.Proofs.YtfkikdoecoobgaaDoor
open Go.RowKit

theorem mcells_one (l : List MsgM) : ∀ u ∈ mcells l, u.oneCell' = true := by
  intro u hu
  obtain ⟨x, _, hx⟩ := List.mem_flatMap.1 hu
  simp only [mval, List.mem_cons, List.not_mem_nil, or_false] at hx
  rcases hx with rfl | rfl | rfl | rfl <;> rfl

/-- The cells of a row of messages, one by one. -/
theorem msgs_src {w : World} {b o : Nat} {l : List MsgM} (h : MsgsIn w b o l) : ∀ j u, (mcells l)[j]? = some u → w.cell? ((⟨b, o, none⟩ : Addr).add j) = some u := by
  intro j u hu
  have hj : j < l.length * 4 := by
    rcases Nat.lt_or_ge j (l.length * 4) with h | h
    · exact h
    · rw [List.getElem?_eq_none (by rw [mcells_length]; exact h)] at hu; cases hu
  have hi : j / 4 < l.length := by omega
  have e := mcells_at l (j / 4) hi
  have c := h (j / 4) hi
  have ha : ∀ n : Nat, (⟨b, o, none⟩ : Addr).add n = ⟨b, o + n, none⟩ := fun n => by unfold Addr.add; split <;> simp_all
  rw [ha]
  obtain ⟨i, hj2 | hj2 | hj2 | hj2⟩ : ∃ i, j = i * 4 ∨ j = i * 4 + 1 ∨ j = i * 4 + 2 ∨ j = i * 4 + 3 := ⟨j / 4, by omega⟩
  · subst hj2
    simp only [show i * 4 / 4 = i by omega] at e c
    rw [e.1] at hu; cases hu; exact c.1
  · subst hj2
    simp only [show (i * 4 + 1) / 4 = i by omega] at e c
    rw [e.2.1] at hu; cases hu; exact c.2.1
  · subst hj2
    simp only [show (i * 4 + 2) / 4 = i by omega] at e c
    rw [e.2.2.1] at hu; cases hu; exact c.2.2.1
  · subst hj2
    simp only [show (i * 4 + 3) / 4 = i by omega] at e c
    rw [e.2.2.2] at hu; cases hu; exact c.2.2.2

theorem msg_info : ∃ i, Tryd.prog.info? 29 = some i ∧ i.zero = some (.agg #[.int .i64 0, .int .i64 0, .string ⟨#[]⟩, .int .i64 0]) ∧ i.size = 4 ∧ i.bytes = 40 :=
  info_parts (by kernel_rfl)

theorem own_farR {w : World} {B n size g j : Nat} {E : TypeId} {u v : Value} {xs : List Value} (h : w.ownsRow B E size v n xs) (hg : g < B) : (w.setCell ⟨g, j, none⟩ u).ownsRow B E size v n xs :=
  h.kept (grown_setCell w g j u) (by
    cases e : v.ownBlock with
    | none => exact .inl rfl
    | some k => exact .inr (by have := (h.lt k e).1; intro e2; cases e2; omega))

theorem msg_new (w : World) (x : MsgM) (T : TypeId) : ∀ j u, (mcells [x])[j]? = some u → (w.alloc (.cells #[.int .i64 x.1, .int .i64 x.2.1, .string x.2.2.1, .int .i64 x.2.2.2] T)).cell? ((⟨w.heap.size, 0, none⟩ : Addr).add j) = some u := by
  refine msgs_src (l := [x]) fun j hj => ?_
  have : j = 0 := by simpa using hj
  subst this
  refine ⟨?_, ?_, ?_, ?_⟩ <;> rw [World.cell?_alloc_at _ _ _ _ rfl] <;> rfl

end Go.Proofs.YtfkikdoecoobgaaDoor

/- A row of messages that comes in, as a source of an append. -/
namespace Go.Proofs.YtfkikdoecoobgaaDoor
open Go.RowKit

theorem msgs_srcAt {w : World} {v : Value} {l : List MsgM} (h : MsgsAt w v l) : SrcAt w v l.length (mcells l) := by
  obtain ⟨a, c, rfl, _, _, h3⟩ := h
  refine ⟨a, c, rfl, ?_⟩
  rcases h3 with h3 | ⟨b, o, ha, hi⟩
  · subst h3
    cases a with
    | none => exact .inl ⟨rfl, rfl, rfl⟩
    | some ad => exact .inr ⟨ad, rfl, fun j u hu => by simp [mcells] at hu⟩
  · exact .inr ⟨_, ha, msgs_src hi⟩

end Go.Proofs.YtfkikdoecoobgaaDoor

/- The walk of the reference's copy of messages. -/
namespace Go.Proofs.YtfkikdoecoobgaaDoor
open Go.RowKit

set_option maxRecDepth 100000 in
set_option maxHeartbeats 400000 in
theorem specCopyM_any (v : Value) (l : List MsgM) (w : World) (hl : l.length ≤ 2000000) (hv : MsgsAt w v l) :
    Calls Tryd.prog 40 #[v] w fun e w' => ∃ u, e = .returned u ∧ MOwn w' w.heap.size u l ∧ Below w.heap.size w w' := by
  obtain ⟨a, c, rfl, hc1, hc2, hc3⟩ := hv
  obtain ⟨i, hi, hz0, hz1, hz2⟩ := msg_info
  have HO := Lib.hid (World.ownsRow_lit (base := w.heap.size) (e := 29) (size := 4) w #[] 0 (Nat.le_refl _) (by unfold maxLen; omega) rfl)
  have HL := Lib.hid (mcells_length l)
  rcases hc3 with h | ⟨b, o, rfl, hin⟩
  · subst h
    cases a with
    | none =>
      go_enter Tryd.func40, Tryd.ntmps40
      go_wp2_with (at_builtin; refine wpList_append_empty rfl _ _ 24 rfl w.heap.size 29 i 4 Tryd.underlying24 hi hz1 _ 0 [] rfl HO.out c rfl ?_)
      go_wp2
      go_ret
      exact ⟨_, rfl, HO.out, (Below.refl _ _).alloc (Nat.le_refl _) _⟩
    | some ad =>
      go_enter Tryd.func40, Tryd.ntmps40
      go_wp2_with (at_builtin; refine wpList_append_own _ rfl _ _ 24 rfl w.heap.size 29 i (.agg #[.int .i64 0, .int .i64 0, .string ⟨#[]⟩, .int .i64 0]) 4 40 Tryd.underlying24 hi hz0 hz1 hz2 rfl (by decide) _ 0 [] rfl HO.out ad 0 c [] rfl rfl (by simp) (by simp) (by unfold maxLen; omega) (by omega) (by simp) ?_; intro v' w' hown hgr _)
      have HE : Hid (MOwn w' w.heap.size v' []) := Lib.hid (by unfold MOwn; simpa [mcells] using hown)
      have HB := Lib.hid (((Below.refl w.heap.size w).alloc (Nat.le_refl _) (.cells #[] 29)).grown hgr (by simp) (fun k h => (HO.out.lt k h).1))
      clear hown hgr
      go_wp2
      go_ret
      exact ⟨_, rfl, HE.out, HB.out⟩
  · have HN2 : Hid (∀ j u, (mcells l)[j]? = some u → (w.alloc (.cells #[] 29)).cell? ((⟨b, o, none⟩ : Addr).add j) = some u) := Lib.hid (msgs_src (hin.below ((Below.refl _ _).alloc (Nat.le_refl _) _)))
    clear hin
    go_enter Tryd.func40, Tryd.ntmps40
    go_wp2_with (at_builtin; refine wpList_append_own _ rfl _ _ 24 rfl w.heap.size 29 i (.agg #[.int .i64 0, .int .i64 0, .string ⟨#[]⟩, .int .i64 0]) 4 40 Tryd.underlying24 hi hz0 hz1 hz2 rfl (by decide) _ 0 [] rfl HO.out ⟨b, o, none⟩ l.length c (mcells l) rfl (by rw [HL.out]) HN2.out (mcells_one l) (by unfold maxLen; omega) (by omega) (by simp) ?_; intro v' w' hown hgr _)
    have HE : Hid (MOwn w' w.heap.size v' l) := Lib.hid (by unfold MOwn; simpa using hown)
    have HB := Lib.hid (((Below.refl w.heap.size w).alloc (Nat.le_refl _) (.cells #[] 29)).grown hgr (by simp) (fun k h => (HO.out.lt k h).1))
    clear hown hgr
    obtain ⟨ua, uc, rfl⟩ := own_slice HE.out
    go_wp2
    go_ret
    exact ⟨_, rfl, HE.out, HB.out⟩

end Go.Proofs.YtfkikdoecoobgaaDoor

/- (Texts, what names no function of the laws.) -/
namespace Go.Proofs.YtfkikdoecoobgaaDoor
open Go.RowKit

theorem pick_topic1 {r : Nat} (h : r < 4) : ∃ x : ByteArray, (#[Value.string ⟨#[97]⟩, Value.string ⟨#[98]⟩, Value.string ⟨#[99]⟩, Value.string ⟨#[110, 101, 119, 115]⟩] : Array Value)[r]? = some (.string x) ∧ goodPart false x ∧ x.size ≤ 4 := by
  match r, h with
  | 0, _ => exact ⟨_, rfl, ⟨.inl (by decide), by decide⟩, by decide⟩
  | 1, _ => exact ⟨_, rfl, ⟨.inl (by decide), by decide⟩, by decide⟩
  | 2, _ => exact ⟨_, rfl, ⟨.inl (by decide), by decide⟩, by decide⟩
  | 3, _ => exact ⟨_, rfl, ⟨.inl (by decide), by decide⟩, by decide⟩

theorem pick_topic2 {r : Nat} (h : r < 3) : ∃ x : ByteArray, (#[Value.string ⟨#[97]⟩, Value.string ⟨#[98]⟩, Value.string ⟨#[55]⟩] : Array Value)[r]? = some (.string x) ∧ goodPart false x ∧ x.size ≤ 1 := by
  match r, h with
  | 0, _ => exact ⟨_, rfl, ⟨.inl (by decide), by decide⟩, by decide⟩
  | 1, _ => exact ⟨_, rfl, ⟨.inl (by decide), by decide⟩, by decide⟩
  | 2, _ => exact ⟨_, rfl, ⟨.inl (by decide), by decide⟩, by decide⟩

end Go.Proofs.YtfkikdoecoobgaaDoor

/- The walks of the reference's cursor: a byte, a number from 0 to n - 1; of what was there nothing turns but the cursor's own block. -/
namespace Go.Proofs.YtfkikdoecoobgaaDoor
open Go.RowKit

/-- Block g holds a cursor over the bytes that lie in 'a'. -/
def CurAt (g : Nat) (a : Option Addr) (len cap : Nat) (w : World) : Prop :=
  ∃ (i : Nat) (h : Int), w.heap[g]? = some (.cells #[.slice a len cap, .int .i64 i, .int .i64 h] 51 (0, 0)) ∧ i ≤ len ∧ len ≤ 4096

/-- The whole of what a walk over a cursor carries on. -/
structure Curs (g : Nat) (a : Option Addr) (len cap : Nat) (w : World) : Prop where
  cur : CurAt g a len cap w
  code : CodeAt g a len w

theorem Curs.lt {g : Nat} {a : Option Addr} {len cap : Nat} {w : World} (h : Curs g a len cap w) : g < w.heap.size := by
  obtain ⟨_, _, hh, _⟩ := h.cur
  exact (Array.getElem?_eq_some_iff.1 hh).1

theorem Curs.after {g : Nat} {a : Option Addr} {len cap : Nat} {w w' : World} (h : Curs g a len cap w) (hb : Below w.heap.size w w') : Curs g a len cap w' := by
  have hlt := h.lt
  obtain ⟨i, x, hh, r⟩ := h.cur
  exact ⟨⟨i, x, (hb.block g hlt).trans hh, r⟩, h.code.below fun k hk => hb.block k (by omega)⟩

theorem Curs.alloc {g : Nat} {a : Option Addr} {len cap : Nat} {w : World} (h : Curs g a len cap w) (o : Obj) : Curs g a len cap (w.alloc o) :=
  h.after ((Below.refl _ _).alloc (Nat.le_refl _) o)

theorem mask_i64 (x : Int) : ∃ r : Nat, r ≤ 255 ∧ bits .and .i64 x 255 = r := by
  have h : 0 ≤ bits .and .i64 x 255 ∧ bits .and .i64 x 255 ≤ 255 := and_i64 x 255 (by decide)
  exact ⟨(bits .and .i64 x 255).toNat, by omega, by omega⟩

set_option maxRecDepth 100000 in
set_option maxHeartbeats 1600000 in
theorem curByte_any {g : Nat} {a : Option Addr} {len cap : Nat} {w : World} (hd : Curs g a len cap w) :
    Calls Tryd.prog 44 #[.pointer (some ⟨g, 0, none⟩)] w fun e w' => ∃ r : Nat, r < 256 ∧ e = .returned (.int .i64 r) ∧ Curs g a len cap w' ∧ w.grownBy w' (some g) := by
  have hglt := hd.lt
  obtain ⟨⟨i, h, hh, hi, hlen⟩, hc⟩ := hd
  have c2 : w.cell? ⟨g, 2, none⟩ = some (.int .i64 h) := by simp [World.cell?, hh]
  have f2 : w.frozen? ⟨g, 2, none⟩ = false := by simp [World.frozen?, hh]
  have HH := Lib.hid hh
  clear hh
  go_enter Tryd.func44, Tryd.ntmps44
  go_wp2_with fail
  generalize wrap64 (wrap64 (h * 6364136223846793005) + 1442695040888963407) = h2
  generalize wrap64 (h * 6364136223846793005) = y1
  have hh3 : (w.setCell ⟨g, 2, none⟩ (.int .i64 h2)).heap[g]? = some (.cells #[.slice a len cap, .int .i64 i, .int .i64 h2] 51 (0, 0)) := heap_setCell_same w g 2 _ _ (.int .i64 h2) HH.out
  have hg3 := grown_setCell w g 2 (.int .i64 h2)
  have hcd := CodeAt.below hc (w' := w.setCell ⟨g, 2, none⟩ (.int .i64 h2)) (fun k hk => Below.heap_setCell _ _ _ _ (by simp; omega))
  have hlt2 : g < (w.setCell ⟨g, 2, none⟩ (.int .i64 h2)).heap.size := by simp [World.setCell]; exact hglt
  generalize w.setCell ⟨g, 2, none⟩ (.int .i64 h2) = w2 at hh3 hg3 hcd hlt2 ⊢
  clear HH c2 f2 hc
  have c0 : w2.cell? ⟨g, 0, none⟩ = some (.slice a len cap) := by simp [World.cell?, hh3]
  have c1 : w2.cell? ⟨g, 1, none⟩ = some (.int .i64 i) := by simp [World.cell?, hh3]
  have c2 : w2.cell? ⟨g, 2, none⟩ = some (.int .i64 h2) := by simp [World.cell?, hh3]
  have f1 : w2.frozen? ⟨g, 1, none⟩ = false := by simp [World.frozen?, hh3]
  have HH := Lib.hid hh3
  have HG := Lib.hid hg3
  have HC := Lib.hid hcd
  clear hh3 hg3 hcd
  go_quiet (fail)
  go_wp2_with fail
  obtain ⟨r, hr1, hr2⟩ := mask_i64 (bits BinOp.xor IntKind.i64 (h2 / 8589934592) (h2 / 35184372088832))
  rw [hr2]
  clear hr2
  generalize bits BinOp.xor IntKind.i64 (h2 / 8589934592) (h2 / 35184372088832) = y2
  generalize h2 / 8589934592 = y3
  generalize h2 / 35184372088832 = y4
  clear c2
  by_cases hil : i < len
  · obtain ⟨b, o, rfl, hcc⟩ : ∃ b o, a = some ⟨b, o, none⟩ ∧ ∀ j, j < len → ∃ z : Nat, z < 256 ∧ w2.cell? ⟨b, o + j, none⟩ = some (.int .u8 z) := by
      rcases HC.out with h | ⟨b, o, h1, _, h2⟩
      · omega
      · exact ⟨b, o, h1, h2⟩
    obtain ⟨z, hz, hcell⟩ := hcc i hil
    clear hcc
    go_quiet (fail)
    go_wp2_with fail
    go_quiet (fail)
    go_wp2_with fail
    obtain ⟨r2, hr3, hr4⟩ := mask_i64 ((r : Int) + (z : Int))
    rw [hr4]
    go_ret
    refine ⟨r2, by omega, rfl, ⟨⟨i + 1, h2, heap_setCell_same (w2.drewN _) g 1 _ _ _ HH.out, hil, hlen⟩, ?_⟩, grown_trans (grown_trans HG.out (grown_drewN _ _ _)) (grown_setCell (w2.drewN _) g 1 _)⟩
    exact HC.out.below fun k hk => Below.heap_setCell _ _ _ _ (by simp; omega)
  · go_quiet (fail)
    go_wp2_with fail
    go_ret
    exact ⟨r, by omega, rfl, ⟨⟨i, h2, HH.out, hi, hlen⟩, HC.out⟩, grown_trans HG.out ⟨rfl, rfl, rfl, Nat.le_refl _, fun _ _ _ => rfl⟩⟩

/-- r is from 0 to n - 1, or 0 where n is 0. -/
def BelowN (n r : Nat) : Prop := r < n ∨ (n = 0 ∧ r = 0)

set_option maxRecDepth 100000 in
set_option maxHeartbeats 1600000 in
/-- A number from 0 to n - 1; 0 where n is 0. -/
theorem curBelow_any {g : Nat} {a : Option Addr} {len cap : Nat} (n : Nat) {w : World} (hn2 : n ≤ 2147483648) (hd : Curs g a len cap w) :
    Calls Tryd.prog 31 #[.pointer (some ⟨g, 0, none⟩), .int .i64 n] w fun e w' => ∃ r : Nat, BelowN n r ∧ e = .returned (.int .i64 r) ∧ Curs g a len cap w' ∧ w.grownBy w' (some g) := by
  by_cases h0 : n = 0
  · subst h0
    go_enter Tryd.func31, Tryd.ntmps31
    go_wp2
    go_ret
    exact ⟨0, .inr ⟨rfl, rfl⟩, rfl, hd, grown_refl _ _⟩
  by_cases h1 : n ≤ 256
  · have HD := Lib.hid hd
    clear hd
    go_enter Tryd.func31, Tryd.ntmps31
    go_wp2_with fail
    refine (curByte_any HD.out).mono ?_
    rintro e w1 ⟨r, hr, rfl, h1, g1⟩
    have H1 := Lib.hid h1
    have G1 := Lib.hid g1
    clear h1 g1 HD
    go_wp2
    go_ret
    exact ⟨r % n, .inl (Nat.mod_lt _ (by omega)), congrArg (fun x => Ending.returned (Value.int .i64 x)) (by simp), H1.out, G1.out⟩
  · have HD := Lib.hid hd
    clear hd
    go_enter Tryd.func31, Tryd.ntmps31
    go_wp2_with fail
    refine (curByte_any HD.out).mono ?_
    rintro e w1 ⟨r1, hr1, rfl, h1, g1⟩
    have H1 := Lib.hid h1
    have G1 := Lib.hid g1
    clear h1 g1 HD
    go_wp2_with fail
    refine (curByte_any H1.out).mono ?_
    rintro e w2 ⟨r2, hr2, rfl, h2, g2⟩
    have H2 := Lib.hid h2
    have G2 := Lib.hid (grown_trans G1.out g2)
    clear h2 g2 H1 G1
    go_wp2_with fail
    refine (curByte_any H2.out).mono ?_
    rintro e w3 ⟨r3, hr3, rfl, h3, g3⟩
    have H3 := Lib.hid h3
    have G3 := Lib.hid (grown_trans G2.out g3)
    clear h3 g3 H2 G2
    go_wp2_with fail
    refine (curByte_any H3.out).mono ?_
    rintro e w4 ⟨r4, hr4, rfl, h4, g4⟩
    have H4 := Lib.hid h4
    have G4 := Lib.hid (grown_trans G3.out g4)
    clear h4 g4 H3 G3
    go_wp2
    go_ret
    exact ⟨(r1 * 16777216 + r2 * 65536 + r3 * 256 + r4) % n, .inl (Nat.mod_lt _ (by omega)), congrArg (fun x => Ending.returned (Value.int .i64 x)) (by simp), H4.out, G4.out⟩

/-- True once in n: either. -/
theorem curOnce_any {g : Nat} {a : Option Addr} {len cap : Nat} (n : Nat) {w : World} (hn2 : n ≤ 2147483648) (hd : Curs g a len cap w) :
    Calls Tryd.prog 23 #[.pointer (some ⟨g, 0, none⟩), .int .i64 n] w fun e w' => ∃ b : Bool, e = .returned (.bool b) ∧ Curs g a len cap w' ∧ w.grownBy w' (some g) := by
  go_enter Tryd.func23, Tryd.ntmps23
  go_wp2_with fail
  refine (curBelow_any n hn2 hd).mono ?_
  rintro e w1 ⟨r, _, rfl, h1, g1⟩
  have H1 := Lib.hid h1
  have G1 := Lib.hid g1
  clear h1 g1 hd
  go_wp2
  go_ret
  exact ⟨_, rfl, H1.out, G1.out⟩

set_option maxRecDepth 100000 in
set_option maxHeartbeats 1600000 in
theorem curNew_any (a : Option Addr) (len cap : Nat) (w : World) (hlen : len ≤ 4096) (hc : CodeAt w.heap.size a len w) :
    Calls Tryd.prog 17 #[.slice a len cap] w fun e w' => e = .returned (.pointer (some ⟨w.heap.size, 0, none⟩)) ∧ Curs w.heap.size a len cap w' ∧ Below w.heap.size w w' := by
  have HC := Lib.hid hc
  clear hc
  go_enter Tryd.func17, Tryd.ntmps17
  go_wp2
  go_loop [3, 4] (fun hv i => ∃ (k : Nat) (h : Int), k ≤ len ∧ i = .int .i64 k ∧ hv = .int .i64 h) (fun _ i => len - (intOf i).toNat)
  case atStart => exact ⟨0, _, Nat.zero_le _, rfl, rfl⟩
  case round =>
    obtain ⟨k, h, hk, rfl, rfl⟩ := hrel
    by_cases hlt : k < len
    · obtain ⟨b, o, rfl, hcc⟩ : ∃ b o, a = some ⟨b, o, none⟩ ∧ ∀ j, j < len → ∃ z : Nat, z < 256 ∧ w.cell? ⟨b, o + j, none⟩ = some (.int .u8 z) := by
        rcases HC.out with h | ⟨b, o, h1, _, h2⟩
        · omega
        · exact ⟨b, o, h1, h2⟩
      obtain ⟨z, hz, hcell⟩ := hcc k hlt
      clear hcc
      go_wp2
      go_round
      case rel => exact ⟨k + 1, _, by omega, by go_num, rfl⟩
      case measure => simp [intOf]; omega
    · obtain rfl : k = len := by omega
      go_wp2
      go_ret
      exact ⟨rfl, ⟨⟨0, h, heap_alloc_new w _, Nat.zero_le _, hlen⟩, HC.out.below fun k hk => Below.heap_alloc _ _ _ hk⟩, (Below.refl _ _).alloc (Nat.le_refl _) _⟩

end Go.Proofs.YtfkikdoecoobgaaDoor

/- The walks of the reference's drawn texts: short ones; of what was there nothing turns but the cursor's own block. -/
namespace Go.Proofs.YtfkikdoecoobgaaDoor
open Go.RowKit

theorem pick_small6 {r : Nat} (h : r < 6) : ∃ x : ByteArray, (#[Value.string ⟨#[97]⟩, Value.string ⟨#[98]⟩, Value.string ⟨#[99]⟩, Value.string ⟨#[120, 49]⟩, Value.string ⟨#[43]⟩, Value.string ⟨#[43]⟩] : Array Value)[r]? = some (.string x) ∧ x.size ≤ 2 := by
  match r, h with
  | 0, _ => exact ⟨_, rfl, by decide⟩
  | 1, _ => exact ⟨_, rfl, by decide⟩
  | 2, _ => exact ⟨_, rfl, by decide⟩
  | 3, _ => exact ⟨_, rfl, by decide⟩
  | 4, _ => exact ⟨_, rfl, by decide⟩
  | 5, _ => exact ⟨_, rfl, by decide⟩

theorem pick_small4 {r : Nat} (h : r < 4) : ∃ x : ByteArray, (#[Value.string ⟨#[97]⟩, Value.string ⟨#[98]⟩, Value.string ⟨#[99]⟩, Value.string ⟨#[120, 49]⟩] : Array Value)[r]? = some (.string x) ∧ x.size ≤ 2 := by
  match r, h with
  | 0, _ => exact ⟨_, rfl, by decide⟩
  | 1, _ => exact ⟨_, rfl, by decide⟩
  | 2, _ => exact ⟨_, rfl, by decide⟩
  | 3, _ => exact ⟨_, rfl, by decide⟩

theorem size_app0 (s y : ByteArray) : (s ++ y).size = s.size + y.size := ByteArray.size_append
theorem size_slash : (⟨#[47]⟩ : ByteArray).size = 1 := rfl
theorem size_hash : (⟨#[47, 35]⟩ : ByteArray).size = 2 := rfl

set_option maxRecDepth 100000 in
set_option maxHeartbeats 1600000 in
theorem drawFilter_any {g : Nat} {a : Option Addr} {len cap : Nat} {w : World} (h : Curs g a len cap w) :
    Calls Tryd.prog 55 #[.pointer (some ⟨g, 0, none⟩)] w fun e w' => ∃ s : ByteArray, e = .returned (.string s) ∧ s.size ≤ 11 ∧ Curs g a len cap w' ∧ w.grownBy w' (some g) := by
  have HH := Lib.hid h
  clear h
  go_enter Tryd.func55, Tryd.ntmps55
  go_wp2_with fail
  refine (curBelow_any 3 (by omega) HH.out).mono ?_
  rintro e w1 ⟨r, hr, rfl, h1, g1⟩
  have H1 := Lib.hid h1
  have G1 := Lib.hid g1
  have hr3 : r ≤ 2 := by rcases hr with h | h <;> omega
  clear h1 g1 HH hr
  go_wp2_with fail
  go_loopw [3, 4] (fun sv nv wr => ∃ (s : ByteArray) (k : Nat), sv = .string s ∧ nv = .int .i64 k ∧ s.size + 3 * k ≤ 9 ∧ Hid (Curs g a len cap wr) ∧ Hid (w.grownBy wr (some g))) (fun _ nv _ => (intOf nv).toNat)
  case atStart => exact ⟨_, 1 + r, rfl, congrArg (Value.int .i64) (by omega), by show 0 + _ ≤ _; omega, H1, G1⟩
  case round =>
    obtain ⟨s, k, rfl, rfl, hsz, HR, HW⟩ := hrel
    clear H1 G1 hr3
    by_cases hk : 0 < k
    · have hg2 := HR.out.lt
      go_wp2_with fail
      all_goals
        refine (curBelow_any 6 (by omega) (HR.out.alloc _)).mono ?_
        rintro e w3 ⟨r3, hr3, rfl, h3, g3⟩
        obtain ⟨y, hy, hys⟩ := pick_small6 (r := r3) (by rcases hr3 with h | h <;> omega)
        have hr6 : r3 < 6 := by rcases hr3 with h | h <;> omega
        have hcell := (pick_lit g3 hg2).trans hy
        have HG3 := Lib.hid (grown_trans HW.out (grown_trans (grown_alloc wr _ (some g)) g3))
        have H3 := Lib.hid h3
        clear g3 h3 hy HR HW hr3
        go_wp2
        go_roundw
        case rel => exact ⟨_, k - 1, rfl, congrArg (Value.int .i64) (by omega), by simp only [size_app0, size_slash]; omega, H3, HG3⟩
        case measure => simp only [intOf]; omega
    · go_wp2_with fail
      refine (curBelow_any 5 (by omega) HR.out).mono ?_
      rintro e w3 ⟨r3, hr3, rfl, h3, g3⟩
      have HG3 := Lib.hid (grown_trans HW.out g3)
      have H3 := Lib.hid h3
      clear g3 h3 HR HW hr3
      go_wp2
      all_goals
        go_ret
        exact ⟨_, rfl, by first | omega | (simp only [size_app0, size_hash]; omega) | decide, H3.out, HG3.out⟩

set_option maxRecDepth 100000 in
set_option maxHeartbeats 1600000 in
theorem drawTopic_any {g : Nat} {a : Option Addr} {len cap : Nat} {w : World} (h : Curs g a len cap w) :
    Calls Tryd.prog 54 #[.pointer (some ⟨g, 0, none⟩)] w fun e w' => ∃ s : ByteArray, e = .returned (.string s) ∧ s.size ≤ 11 ∧ Curs g a len cap w' ∧ w.grownBy w' (some g) := by
  have HH := Lib.hid h
  clear h
  go_enter Tryd.func54, Tryd.ntmps54
  go_wp2_with fail
  refine (curBelow_any 3 (by omega) HH.out).mono ?_
  rintro e w1 ⟨r, hr, rfl, h1, g1⟩
  have H1 := Lib.hid h1
  have G1 := Lib.hid g1
  have hr3 : r ≤ 2 := by rcases hr with h | h <;> omega
  clear h1 g1 HH hr
  go_wp2_with fail
  go_loopw [3, 4] (fun sv nv wr => ∃ (s : ByteArray) (k : Nat), sv = .string s ∧ nv = .int .i64 k ∧ s.size + 3 * k ≤ 9 ∧ Hid (Curs g a len cap wr) ∧ Hid (w.grownBy wr (some g))) (fun _ nv _ => (intOf nv).toNat)
  case atStart => exact ⟨_, 1 + r, rfl, congrArg (Value.int .i64) (by omega), by show 0 + _ ≤ _; omega, H1, G1⟩
  case round =>
    obtain ⟨s, k, rfl, rfl, hsz, HR, HW⟩ := hrel
    clear H1 G1 hr3
    by_cases hk : 0 < k
    · have hg2 := HR.out.lt
      go_wp2_with fail
      all_goals
        refine (curBelow_any 4 (by omega) (HR.out.alloc _)).mono ?_
        rintro e w3 ⟨r3, hr3, rfl, h3, g3⟩
        obtain ⟨y, hy, hys⟩ := pick_small4 (r := r3) (by rcases hr3 with h | h <;> omega)
        have hr6 : r3 < 4 := by rcases hr3 with h | h <;> omega
        have hcell := (pick_lit g3 hg2).trans hy
        have HG3 := Lib.hid (grown_trans HW.out (grown_trans (grown_alloc wr _ (some g)) g3))
        have H3 := Lib.hid h3
        clear g3 h3 hy HR HW hr3
        go_wp2
        go_roundw
        case rel => exact ⟨_, k - 1, rfl, congrArg (Value.int .i64) (by omega), by simp only [size_app0, size_slash]; omega, H3, HG3⟩
        case measure => simp only [intOf]; omega
    · go_wp2
      go_ret
      exact ⟨_, rfl, by omega, HR.out, HW.out⟩

end Go.Proofs.YtfkikdoecoobgaaDoor

/- The walks of impl.PartsOf and impl.TopicOk: is a text a topic? -/
namespace Go.Proofs.YtfkikdoecoobgaaDoor
open Go.RowKit

set_option maxRecDepth 100000 in
set_option maxHeartbeats 800000 in
theorem implTopic_any (s : ByteArray) (m : Int) (w : World) (hs : s.size ≤ 1048576) (hm : w.cell? ⟨0, 0, none⟩ = some (.int .i64 m)) :
    Calls Tryd.prog 62 #[.string s] w fun e w' => e = .returned (.bool (topicP (parts s 47))) ∧ Below w.heap.size w w' := by
  have hpos := parts_pos s 47
  have hple := parts_le s 47
  have hps : Hid (∀ p ∈ parts s 47, p.size ≤ s.size) := Lib.hid (fun p h => parts_size h)
  obtain ⟨l, hl⟩ : ∃ l, parts s 47 = l := ⟨_, rfl⟩
  have hc := implParts_any s m w hs hm
  rw [hl] at hpos hple hps hc ⊢
  clear hl hm
  by_cases h6 : l.length ≤ 6
  · go_enter Tryd.func62, Tryd.ntmps62
    go_wp2_with (go_at_call 64; refine hc.mono ?_; clear hc; rintro e w1 ⟨v, rfl, h1, h2⟩; obtain ⟨g, cap, rfl, hg1, hg2, hcell, _⟩ := row_open h1 hpos; have HC := Lib.hid hcell; have H2 := Lib.hid h2; clear h1 h2 hcell)
    go_loopw [13] (fun i wr => ∃ k : Nat, k ≤ l.length ∧ i = .int .i64 k ∧ Hid ((l.take k).all isWord = true) ∧ Hid (Below w1.heap.size w1 wr)) (fun i _ => l.length - (intOf i).toNat)
    case atStart => exact ⟨0, Nat.zero_le _, rfl, rfl, Below.refl _ _⟩
    case round =>
      obtain ⟨k, hk, rfl, HL, HW⟩ := hrel
      by_cases hlt : k < l.length
      · have hcx : wr.cell? ⟨g, k, none⟩ = some (.string l[k]) := (HW.out.cell hg2).trans (HC.out k hlt)
        have hsz : Hid (l[k].size ≤ maxLen) := Lib.hid (by have := hps.out _ (List.getElem_mem hlt); unfold maxLen; omega)
        cases hw : isWord l[k]
        · have HB := Lib.hid (topicP_bad hlt hw)
          have cw := wordOk_any l[k] wr hsz.out
          rw [hw] at cw
          clear hw
          go_wp2_with (go_at_call 65; refine cw.mono ?_; rintro e w' ⟨rfl, hb⟩)
          go_ret
          exact ⟨ret_bool HB.out.symm, H2.out.trans ((HW.out.trans (hb.mono HW.out.size)).mono H2.out.size)⟩
        · have HN : Hid ((l.take (k + 1)).all isWord = true) := Lib.hid (by rw [all_snoc l k hlt, HL.out, hw]; rfl)
          have cw := wordOk_any l[k] wr hsz.out
          rw [hw] at cw
          clear hw
          go_wp2_with (go_at_call 65; refine cw.mono ?_; rintro e w' ⟨rfl, hb⟩)
          go_roundw
          case rel => exact ⟨k + 1, by omega, by go_num, HN, HW.out.trans (hb.mono HW.out.size)⟩
          case measure => simp [intOf]; omega
      · obtain rfl : k = l.length := by omega
        have HE := Lib.hid (topicP_end HL.out)
        clear HL
        go_wp2
        go_ret
        exact ⟨ret_bool (by rw [HE.out]; grind), H2.out.trans (HW.out.mono H2.out.size)⟩
  · have hf : Hid (topicP l = false) := Lib.hid (by simp [topicP, h6])
    go_enter Tryd.func62, Tryd.ntmps62
    go_wp2_with (go_at_call 64; refine hc.mono ?_; clear hc; rintro e w1 ⟨v, rfl, h1, h2⟩; obtain ⟨g, cap, rfl, hg1, hg2, hcell, _⟩ := row_open h1 hpos; have HC := Lib.hid hcell; have H2 := Lib.hid h2; clear h1 h2 hcell)
    go_ret
    exact ⟨ret_bool hf.out.symm, H2.out⟩

end Go.Proofs.YtfkikdoecoobgaaDoor

/- The walk of a right message: it embeds where it is from. -/
namespace Go.Proofs.YtfkikdoecoobgaaDoor
open Go.RowKit

theorem implTask_any (f : Int) (w : World) :
    Calls Tryd.prog 61 #[.int .i64 f] w fun e w' => e = .returned (.bool (decide (0 ≤ f) && decide (f ≤ 7))) ∧ w' = w := by
  by_cases h1 : 0 ≤ f
  · have g1 : decide (0 ≤ f) = true := decide_eq_true h1
    have g2 : decide (f ≤ 7) = decide (f < 8) := by congr 1; simp; omega
    go_enter Tryd.func61, Tryd.ntmps61
    go_wp2
    go_ret
    exact ⟨ret_bool (by rw [g1, g2]; simp), rfl⟩
  · have g1 : decide (0 ≤ f) = false := decide_eq_false h1
    go_enter Tryd.func61, Tryd.ntmps61
    go_wp2
    go_ret
    exact ⟨ret_bool rfl, rfl⟩

theorem implBody_any (f : Int) (w : World) :
    Calls Tryd.prog 63 #[.int .i64 f] w fun e w' => e = .returned (.bool (decide (0 ≤ f) && decide (f ≤ 9999))) ∧ w' = w := by
  by_cases h1 : 0 ≤ f
  · have g1 : decide (0 ≤ f) = true := decide_eq_true h1
    go_enter Tryd.func63, Tryd.ntmps63
    go_wp2
    go_ret
    exact ⟨ret_bool (by rw [g1]; simp), rfl⟩
  · have g1 : decide (0 ≤ f) = false := decide_eq_false h1
    go_enter Tryd.func63, Tryd.ntmps63
    go_wp2
    go_ret
    exact ⟨ret_bool rfl, rfl⟩

set_option maxRecDepth 100000 in
set_option maxHeartbeats 1600000 in
theorem messageOf_any (x : MsgM) (w : World) :
    Calls Tryd.prog 58 #[magg x] w fun e w' => e = .returned (magg x) ∧ Below w.heap.size w w' := by
  obtain ⟨q, f, p, d⟩ := x
  go_enter Tryd.func58, Tryd.ntmps58
  go_wp2
  refine bodyPost_ret (results_cell_row rfl _ _ (w.heap.size + 1) _ _ _ _ rfl (heap_alloc2_new _ _ _) Tryd.underlying85 rfl (by kernel_rfl)) rfl ?_
  exact ⟨rfl, ((Below.refl _ _).alloc (Nat.le_refl _) _).alloc (by simp) _⟩

set_option maxRecDepth 100000 in
set_option maxHeartbeats 1600000 in
theorem isRight_any (x : MsgM) (m : Int) (w : World) (hs : x.2.2.1.size ≤ 1048576) (hm : w.cell? ⟨0, 0, none⟩ = some (.int .i64 m)) :
    Calls Tryd.prog 59 #[magg x] w fun e w' => e = .returned (.bool (msgB x)) ∧ Below w.heap.size w w' := by
  obtain ⟨q, f, p, d⟩ := x
  dsimp only at hs
  have C2 := Lib.hid (fun w' => implTask_any f w')
  have C3 := Lib.hid (fun w' hm => implTopic_any p m w' hs hm)
  have C4 := Lib.hid (fun w' => implBody_any d w')
  have HB : Hid (msgB (q, f, p, d) = ((decide (1 ≤ q) && decide (q ≤ 100000)) && (decide (0 ≤ f) && decide (f ≤ 7)) && topicP (parts p 47) && (decide (0 ≤ d) && decide (d ≤ 9999)))) := rfl
  generalize (decide (0 ≤ f) && decide (f ≤ 7)) = b2 at C2 HB
  generalize topicP (parts p 47) = b3 at C3 HB
  generalize (decide (0 ≤ d) && decide (d ≤ 9999)) = b4 at C4 HB
  have HM := Lib.hid hm
  clear hs hm
  go_enter Tryd.func59, Tryd.ntmps59
  by_cases h1 : 1 ≤ q
  · by_cases h2 : q ≤ 100000
    · have g1 : decide (1 ≤ q) = true := decide_eq_true h1
      have g2 : decide (q ≤ 100000) = true := decide_eq_true h2
      go_wp2_with fail
      refine (C2.out _).mono ?_
      rintro e w1 ⟨rfl, rfl⟩
      cases b2
      · go_wp2
        go_ret
        exact ⟨ret_bool (by rw [HB.out]; simp), (Below.refl _ _).alloc (Nat.le_refl _) _⟩
      go_wp2_with fail
      have b0 : Below w.heap.size w (w.alloc (.cells #[.int .i64 q, .int .i64 f, .string p, .int .i64 d] 85)) := (Below.refl _ _).alloc (Nat.le_refl _) _
      have s0 : w.heap.size < (w.alloc (.cells #[.int .i64 q, .int .i64 f, .string p, .int .i64 d] 85)).heap.size := by simp
      have c0 : (w.alloc (.cells #[.int .i64 q, .int .i64 f, .string p, .int .i64 d] 85)).cell? ⟨w.heap.size, 3, none⟩ = some (.int .i64 d) := by rw [World.cell?_alloc_at _ _ _ _ rfl]; rfl
      have HM0 := Lib.hid ((b0.cell (World.block_lt_of_cell? _ _ HM.out)).trans HM.out)
      generalize w.alloc (.cells #[.int .i64 q, .int .i64 f, .string p, .int .i64 d] 85) = w0 at b0 s0 c0 HM0 ⊢
      refine (C3.out _ HM0.out).mono ?_
      rintro e w1 ⟨rfl, hb⟩
      have c1 := (below_cell hb s0).trans c0
      have B1 := Lib.hid (b0.trans (hb.mono b0.size))
      clear b0 s0 c0 hb
      cases b3
      · go_wp2
        go_ret
        exact ⟨ret_bool (by rw [HB.out]; simp), B1.out⟩
      go_wp2_with fail
      refine (C4.out _).mono ?_
      rintro e w2 ⟨rfl, rfl⟩
      go_wp2
      go_ret
      exact ⟨ret_bool (by rw [HB.out, decide_eq_true h1, decide_eq_true h2]; simp), B1.out⟩
    · have g1 : decide (1 ≤ q) = true := decide_eq_true h1
      have g2 : decide (q ≤ 100000) = false := decide_eq_false h2
      go_wp2
      go_ret
      exact ⟨ret_bool (by rw [HB.out, g2]; simp), (Below.refl _ _).alloc (Nat.le_refl _) _⟩
  · have g1 : decide (1 ≤ q) = false := decide_eq_false h1
    go_wp2
    go_ret
    exact ⟨ret_bool (by rw [HB.out, g1]; simp), (Below.refl _ _).alloc (Nat.le_refl _) _⟩

end Go.Proofs.YtfkikdoecoobgaaDoor

/- The walk of impl.MsgOk. -/
namespace Go.Proofs.YtfkikdoecoobgaaDoor
open Go.RowKit

set_option maxRecDepth 100000 in
set_option maxHeartbeats 800000 in
theorem implMsgOk_any (x : MsgM) (m : Int) (w : World) (hs : x.2.2.1.size ≤ 1048576) (hm : w.cell? ⟨0, 0, none⟩ = some (.int .i64 m)) :
    Calls Tryd.prog 51 #[magg x] w fun e w' => e = .returned (.bool (msgB x)) ∧ Below w.heap.size w w' := by
  have C1 := Lib.hid (fun w' => messageOf_any x w')
  have C2 := Lib.hid (fun w' hm => isRight_any x m w' hs hm)
  have HM := Lib.hid hm
  generalize msgB x = b at C2 ⊢
  obtain ⟨q, f, p, d⟩ := x
  clear hs hm
  go_enter Tryd.func51, Tryd.ntmps51
  go_wp2_with fail
  have b0 : Below w.heap.size w (w.alloc (.cells #[.int .i64 q, .int .i64 f, .string p, .int .i64 d] 29)) := (Below.refl _ _).alloc (Nat.le_refl _) _
  have HM0 := Lib.hid ((b0.cell (World.block_lt_of_cell? _ _ HM.out)).trans HM.out)
  generalize w.alloc (.cells #[.int .i64 q, .int .i64 f, .string p, .int .i64 d] 29) = w0 at b0 HM0 ⊢
  refine (C1.out _).mono ?_
  rintro e w1 ⟨rfl, hb1⟩
  have HM1 := Lib.hid ((hb1.cell (World.block_lt_of_cell? _ _ HM0.out)).trans HM0.out)
  have HB1 := Lib.hid (b0.trans (hb1.mono b0.size))
  clear b0 hb1
  go_wp2_with fail
  refine (C2.out _ HM1.out).mono ?_
  rintro e w2 ⟨rfl, hb2⟩
  have HB2 := Lib.hid (below_end HB1.out hb2)
  go_wp2
  go_ret
  exact ⟨rfl, HB2.out⟩

end Go.Proofs.YtfkikdoecoobgaaDoor

/- Plain mathematics of chapter 3: a right trie. -/
namespace Go.Proofs.YtfkikdoecoobgaaDoor

/-- a is ahead of b, or b itself. -/
def leB (a b : ByteArray) : Bool := Op.bytesLess a.toList b.toList || a.toList == b.toList

def knot0 : KnotM := (⟨#[]⟩, [])

/-- Is the k-th knot as it should be? -/
def knotOk (l : List KnotM) (p q : KnotM) : Bool :=
  !(leB q.1 p.1) && (filterP (parts q.1 47) && (rises q.2 && (decide (0 ≤ find l (above q.1)) && (!(q.2.isEmpty) || childB l q.1))))

def knotsTo (l : List KnotM) (k : Nat) : Bool := (List.range k).all fun j => decide (j = 0) || knotOk l (l.getD (j - 1) knot0) (l.getD j knot0)

def headOk (l : List KnotM) : Bool := match l with
  | [] => false
  | x :: _ => x.1.toList == [] && x.2.isEmpty

/-- 'TrieOk'. -/
def trieB (l : List KnotM) : Bool := headOk l && knotsTo l l.length

theorem knotsTo_succ (l : List KnotM) (k : Nat) : knotsTo l (k + 1) = (knotsTo l k && (decide (k = 0) || knotOk l (l.getD (k - 1) knot0) (l.getD k knot0))) := by
  unfold knotsTo; rw [List.range_succ, List.all_append]; simp

theorem knot_at {l : List KnotM} {k : Nat} (h : k < l.length) : l.getD k knot0 = l[k] := by rw [List.getD_eq_getElem?_getD, List.getElem?_eq_getElem h]; rfl

theorem knotsTo_next {l : List KnotM} {k : Nat} (h1 : 1 ≤ k) (h : k < l.length) (hl : knotsTo l k = true) (hk : knotOk l (l[k - 1]'(by omega)) l[k] = true) : knotsTo l (k + 1) = true := by
  rw [knotsTo_succ, hl, knot_at (by omega), knot_at h, hk]; simp

theorem knotsTo_bad {l : List KnotM} {k : Nat} (h1 : 1 ≤ k) (h : k < l.length) (hk : knotOk l (l[k - 1]'(by omega)) l[k] = false) : trieB l = false := by
  cases e : trieB l
  · rfl
  · unfold trieB at e
    rw [Bool.and_eq_true] at e
    have e2 := e.2
    unfold knotsTo at e2
    rw [List.all_eq_true] at e2
    have := e2 k (List.mem_range.2 h)
    rw [knot_at (by omega), knot_at h, hk, decide_eq_false (by omega)] at this
    cases this

end Go.Proofs.YtfkikdoecoobgaaDoor

/- Plain mathematics of chapter 6: what is kept. -/
namespace Go.Proofs.YtfkikdoecoobgaaDoor

/-- May message k stand behind the one ahead of it in a keep? -/
def keepNext (l : List MsgM) (k : Nat) (h : k < l.length) : Bool := msgB l[k] && (!(l[k].2.2.2 == 0) && (decide (k = 0) || !(leB l[k].2.2.1 (l[k - 1]'(by omega)).2.2.1)))
def keepTo (l : List MsgM) (k : Nat) : Bool := (List.range k).all fun j => if h : j < l.length then keepNext l j h else true
/-- 'KeepOk'. -/
def keepB (l : List MsgM) : Bool := keepTo l l.length && decide (l.length ≤ 24)

theorem keepTo_succ (l : List MsgM) (k : Nat) (h : k < l.length) : keepTo l (k + 1) = (keepTo l k && keepNext l k h) := by
  unfold keepTo; rw [List.range_succ, List.all_append]; simp [h]

theorem keepTo_bad {l : List MsgM} {k : Nat} (h : k < l.length) (hb : keepNext l k h = false) : keepB l = false := by
  cases e : keepB l
  · rfl
  · unfold keepB keepTo at e
    rw [Bool.and_eq_true] at e
    have e2 := e.1
    rw [List.all_eq_true] at e2
    have := e2 k (List.mem_range.2 h)
    rw [dif_pos h, hb] at this; cases this

/-! ### 'Kept' -/

def sameT (a b : ByteArray) : Bool := a.toList == b.toList

/-- Laid ahead of the first one whose topic is not less. -/
def keptPut (m : MsgM) (s : List MsgM × Bool) (x : MsgM) : List MsgM × Bool := if !s.2 && leB m.2.2.1 x.2.2.1 then (s.1 ++ [m], true) else s
def keptStep (m : MsgM) (s : List MsgM × Bool) (x : MsgM) : List MsgM × Bool := if sameT x.2.2.1 m.2.2.1 then keptPut m s x else ((keptPut m s x).1 ++ [x], (keptPut m s x).2)
def keptTo (m : MsgM) (l : List MsgM) (k : Nat) : List MsgM × Bool := (l.take k).foldl (keptStep m) ([], m.2.2.2 == 0)
def keptOut (l : List MsgM) (m : MsgM) : List MsgM := if (keptTo m l l.length).2 then (keptTo m l l.length).1 else (keptTo m l l.length).1 ++ [m]
def keptM (l : List MsgM) (m : MsgM) : List MsgM × Bool :=
  if keepB l then (if msgB m then (if 24 < (keptOut l m).length then (l, false) else (keptOut l m, true)) else (l, false)) else ([], false)

theorem keptTo_succ (m : MsgM) (l : List MsgM) (k : Nat) (h : k < l.length) : keptTo m l (k + 1) = keptStep m (keptTo m l k) l[k] := by
  unfold keptTo; rw [List.take_succ_eq_append_getElem h, List.foldl_append]; rfl

theorem keptStep_len (m : MsgM) (s : List MsgM × Bool) (x : MsgM) : (keptStep m s x).1.length ≤ s.1.length + 2 := by
  have h : (keptPut m s x).1.length ≤ s.1.length + 1 := by unfold keptPut; split <;> simp
  unfold keptStep
  split
  · omega
  · rw [List.length_append]; simp; omega

theorem keptTo_len (m : MsgM) (l : List MsgM) : ∀ k, k ≤ l.length → (keptTo m l k).1.length ≤ 2 * k
  | 0, _ => by simp [keptTo]
  | k + 1, h => by
    rw [keptTo_succ m l k (by omega)]
    have := keptTo_len m l k (by omega)
    have := keptStep_len m (keptTo m l k) l[k]
    omega

theorem keptM_len (l : List MsgM) (m : MsgM) : (keptM l m).1.length ≤ l.length + 24 := by
  unfold keptM
  split
  · split
    · split
      · simp
      · dsimp only; omega
    · simp
  · simp

/-! ### 'KeptFor' -/

/-- Where x goes among those that are there: behind the last one whose Seq is not more. -/
def posM (out : List MsgM) (q : Int) : Nat → Nat
  | 0 => 0
  | k + 1 => if q < (out.getD k (0, 0, ⟨#[]⟩, 0)).1 then posM out q k else k + 1
def putSeq (out : List MsgM) (x : MsgM) : List MsgM := out.take (posM out x.1 out.length) ++ [x] ++ out.drop (posM out x.1 out.length)
def forTo (f : ByteArray) (l : List MsgM) (k : Nat) : List MsgM := (l.take k).foldl (fun out x => if matchB f x.2.2.1 then putSeq out x else out) []
def forM (l : List MsgM) (f : ByteArray) : List MsgM := if keepB l then forTo f l l.length else []

theorem posM_le (out : List MsgM) (q : Int) : ∀ k, posM out q k ≤ k
  | 0 => Nat.le_refl _
  | k + 1 => by unfold posM; split; have := posM_le out q k; omega; omega

theorem putSeq_len (out : List MsgM) (x : MsgM) : (putSeq out x).length = out.length + 1 := by
  have := posM_le out x.1 out.length
  unfold putSeq; simp; omega

theorem forTo_succ (f : ByteArray) (l : List MsgM) (k : Nat) (h : k < l.length) : forTo f l (k + 1) = if matchB f l[k].2.2.1 then putSeq (forTo f l k) l[k] else forTo f l k := by
  unfold forTo; rw [List.take_succ_eq_append_getElem h, List.foldl_append]; rfl

theorem forTo_len (f : ByteArray) (l : List MsgM) : ∀ k, k ≤ l.length → (forTo f l k).length ≤ k
  | 0, _ => by simp [forTo]
  | k + 1, h => by
    rw [forTo_succ f l k (by omega)]
    have := forTo_len f l k (by omega)
    split
    · rw [putSeq_len]; omega
    · omega

theorem forM_len (l : List MsgM) (f : ByteArray) : (forM l f).length ≤ l.length := by
  unfold forM; split
  · exact forTo_len f l _ (Nat.le_refl _)
  · simp

end Go.Proofs.YtfkikdoecoobgaaDoor
