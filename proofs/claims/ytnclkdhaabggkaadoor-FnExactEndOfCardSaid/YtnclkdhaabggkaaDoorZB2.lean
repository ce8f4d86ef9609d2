/- Small texts, laid together. -/
import Derived.Test.YtnclkdhaabggkaaDoorZCut
import Derived.Laws.Strings
import Derived.Test.YtnclkdhaabggkaaDoorZB1
import Derived.Lib.Hide
import Derived.Lib.SmallJoins
import Derived.Deep.Cut
import Derived.Deep.Slices
import Derived.ChangeSame
import Derived.Deep.Draws
import Derived.WalkSpells
import Derived.WalkLawsBesides
import Derived.BigQuiet
import Derived.Deep.RegionHeld
import Derived.Deep.QuietTactic
import Derived.Deep.AppendLies
import Derived.Laws.Rows
import Derived.Deep.CutBlock
set_option linter.unusedSimpArgs false
set_option linter.unusedVariables false
/- Plain mathematics of chapter 2: when the parts of a filter match those of a topic, and when they cover those of a filter. -/
namespace Go.Proofs.YtnclkdhaabggkaaDoor

def isPlus (p : ByteArray) : Bool := p.toList == [43]
def isHash (p : ByteArray) : Bool := p.toList == [35]
def alike (p q : ByteArray) : Bool := p.toList == q.toList

/-- Do the parts of a filter match those of a topic? -/
def matchP : List ByteArray → List ByteArray → Bool
  | [], [] => true
  | [], _ :: _ => false
  | p :: _, [] => isHash p
  | p :: ps, t :: ts => isHash p || ((isPlus p || alike p t) && matchP ps ts)

/-- Do the parts of a filter cover those of another? -/
def coverP : List ByteArray → List ByteArray → Bool
  | [], [] => true
  | [], _ :: _ => false
  | p :: _, [] => isHash p
  | p :: ps, q :: qs => isHash p || ((!isHash q) && (isPlus p || alike p q) && coverP ps qs)

/-- 'Matches'. -/
def matchB (f t : ByteArray) : Bool := filterP (parts f 47) && topicP (parts t 47) && matchP (parts f 47) (parts t 47)
/-- 'Covers'. -/
def coverB (a b : ByteArray) : Bool := filterP (parts a 47) && filterP (parts b 47) && coverP (parts a 47) (parts b 47)

theorem matchP_end (F T : List ByteArray) (k : Nat) (hF : F.length ≤ k) (hT : k ≤ T.length) : matchP (F.drop k) (T.drop k) = decide (k = T.length) := by
  rw [List.drop_of_length_le hF]
  by_cases h : k = T.length
  · rw [List.drop_of_length_le (by omega)]; simp [matchP, h]
  · rw [List.drop_eq_getElem_cons (show k < T.length by omega)]; simp [matchP, h]

theorem coverP_end (F T : List ByteArray) (k : Nat) (hF : F.length ≤ k) (hT : k ≤ T.length) : coverP (F.drop k) (T.drop k) = decide (k = T.length) := by
  rw [List.drop_of_length_le hF]
  by_cases h : k = T.length
  · rw [List.drop_of_length_le (by omega)]; simp [coverP, h]
  · rw [List.drop_eq_getElem_cons (show k < T.length by omega)]; simp [coverP, h]

theorem matchP_hash {F T : List ByteArray} {k : Nat} (h : k < F.length) (hp : isHash F[k] = true) : matchP (F.drop k) (T.drop k) = true := by
  rw [List.drop_eq_getElem_cons h]
  cases T.drop k <;> simp [matchP, hp]

theorem coverP_hash {F T : List ByteArray} {k : Nat} (h : k < F.length) (hp : isHash F[k] = true) : coverP (F.drop k) (T.drop k) = true := by
  rw [List.drop_eq_getElem_cons h]
  cases T.drop k <;> simp [coverP, hp]

theorem matchP_out {F T : List ByteArray} {k : Nat} (h : k < F.length) (hp : isHash F[k] = false) (hT : T.length ≤ k) : matchP (F.drop k) (T.drop k) = false := by
  rw [List.drop_eq_getElem_cons h, List.drop_of_length_le hT]; simp [matchP, hp]

theorem coverP_out {F T : List ByteArray} {k : Nat} (h : k < F.length) (hp : isHash F[k] = false) (hT : T.length ≤ k) : coverP (F.drop k) (T.drop k) = false := by
  rw [List.drop_eq_getElem_cons h, List.drop_of_length_le hT]; simp [coverP, hp]

theorem matchP_in {F T : List ByteArray} {k : Nat} (h : k < F.length) (hT : k < T.length) (hp : isHash F[k] = false) : matchP (F.drop k) (T.drop k) = ((isPlus F[k] || alike F[k] T[k]) && matchP (F.drop (k + 1)) (T.drop (k + 1))) := by
  rw [List.drop_eq_getElem_cons h, List.drop_eq_getElem_cons hT, matchP, hp, Bool.false_or]

theorem coverP_in {F T : List ByteArray} {k : Nat} (h : k < F.length) (hT : k < T.length) (hp : isHash F[k] = false) : coverP (F.drop k) (T.drop k) = ((!isHash T[k]) && (isPlus F[k] || alike F[k] T[k]) && coverP (F.drop (k + 1)) (T.drop (k + 1))) := by
  rw [List.drop_eq_getElem_cons h, List.drop_eq_getElem_cons hT, coverP, hp, Bool.false_or]

theorem alike_refl (p : ByteArray) : alike p p = true := by simp [alike]
theorem alike_trans {p q r : ByteArray} (h : alike p q = true) (k : alike q r = true) : alike p r = true := by
  simp only [alike, beq_iff_eq] at *; rw [h, k]
theorem plus_alike {p q : ByteArray} (h : alike p q = true) (k : isPlus q = true) : isPlus p = true := by
  simp only [alike, isPlus, beq_iff_eq] at *; rw [h, k]

theorem matchP_self : ∀ L : List ByteArray, matchP L L = true
  | [] => rfl
  | p :: L => by rw [matchP, alike_refl, matchP_self L]; simp

theorem coverP_self : ∀ L : List ByteArray, coverP L L = true
  | [] => rfl
  | p :: L => by rw [coverP, alike_refl, coverP_self L]; cases isHash p <;> simp

/-- What covers matches all that is matched. -/
theorem cover_match : ∀ A B T : List ByteArray, coverP A B = true → matchP B T = true → matchP A T = true
  | [], [], _, _, h => h
  | [], _ :: _, _, h, _ => by simp [coverP] at h
  | p :: ps, [], T, h, _ => by
    rw [coverP] at h
    cases T <;> simp [matchP, h]
  | p :: ps, q :: qs, T, h, k => by
    rw [coverP] at h
    by_cases hp : isHash p = true
    · cases T <;> simp [matchP, hp]
    · have hp2 : isHash p = false := by simpa using hp
      rw [hp2, Bool.false_or, Bool.and_eq_true, Bool.and_eq_true] at h
      obtain ⟨⟨hq, ha⟩, hc⟩ := h
      have hq2 : isHash q = false := by simpa using hq
      cases T with
      | nil => rw [matchP, hq2] at k; cases k
      | cons t ts =>
        rw [matchP, hq2, Bool.false_or, Bool.and_eq_true] at k
        obtain ⟨ka, kc⟩ := k
        rw [matchP, hp2, Bool.false_or, Bool.and_eq_true]
        refine ⟨?_, cover_match ps qs ts hc kc⟩
        rw [Bool.or_eq_true] at ha ka ⊢
        rcases ha with ha | ha
        · exact .inl ha
        · rcases ka with ka | ka
          · exact .inl (plus_alike ha ka)
          · exact .inr (alike_trans ha ka)

theorem matchB_self {x : ByteArray} (h : topicP (parts x 47) = true) (hf : filterP (parts x 47) = true) : matchB x x = true := by
  rw [matchB, h, hf, matchP_self]; rfl

theorem hash_isHash : isHash ⟨#[35]⟩ = true := by rw [isHash, Go.ByteArray.toList_eq]; rfl

theorem hash_parts : parts ⟨#[35]⟩ 47 = [⟨#[35]⟩] := by
  apply lists_ext; rw [parts_data]; rfl

theorem hash_filterP : filterP (parts ⟨#[35]⟩ 47) = true := by
  rw [hash_parts]; simp [filterP, filterTo, partF, Go.ByteArray.toList_eq]

theorem matchB_all {x : ByteArray} (h : topicP (parts x 47) = true) : matchB ⟨#[35]⟩ x = true := by
  rw [matchB, h, hash_filterP, hash_parts]
  cases parts x 47 <;> simp [matchP, hash_isHash]

theorem coverB_self {x : ByteArray} (h : filterP (parts x 47) = true) : coverB x x = true := by
  rw [coverB, h, coverP_self]; rfl

theorem coverB_all {x : ByteArray} (h : filterP (parts x 47) = true) : coverB ⟨#[35]⟩ x = true := by
  rw [coverB, h, hash_filterP, hash_parts]
  cases parts x 47 <;> simp [coverP, hash_isHash]

theorem coverB_match {p q x : ByteArray} (h : coverB p q = true) (k : matchB q x = true) : matchB p x = true := by
  simp only [coverB, matchB, Bool.and_eq_true] at *
  exact ⟨⟨h.1.1, k.1.2⟩, cover_match _ _ _ h.2 k.2⟩

end Go.Proofs.YtnclkdhaabggkaaDoor

/- Messages: how they lie in memory, as one and in rows; when they are right. -/
namespace Go.Proofs.YtnclkdhaabggkaaDoor
open Go.RowKit

/-- A message: its number, its teller, its topic, its body. -/
abbrev MsgM := Int × Int × ByteArray × Int

def mval (x : MsgM) : List Value := [.int .i64 x.1, .int .i64 x.2.1, .string x.2.2.1, .int .i64 x.2.2.2]
abbrev magg (x : MsgM) : Value := .agg #[.int .i64 x.1, .int .i64 x.2.1, .string x.2.2.1, .int .i64 x.2.2.2]
def mcells (l : List MsgM) : List Value := l.flatMap mval

/-- The four cells from (b, o) on hold the message x. -/
def MsgIn (w : World) (b o : Nat) (x : MsgM) : Prop :=
  w.cell? ⟨b, o, none⟩ = some (.int .i64 x.1) ∧ w.cell? ⟨b, o + 1, none⟩ = some (.int .i64 x.2.1) ∧ w.cell? ⟨b, o + 2, none⟩ = some (.string x.2.2.1) ∧ w.cell? ⟨b, o + 3, none⟩ = some (.int .i64 x.2.2.2)

/-- The cells from (b, o) on hold the messages l. -/
def MsgsIn (w : World) (b o : Nat) (l : List MsgM) : Prop := ∀ j (hj : j < l.length), MsgIn w b (o + j * 4) l[j]

/-- v reads as the messages l. -/
def MsgsAt (w : World) (v : Value) (l : List MsgM) : Prop :=
  ∃ a c, v = .slice a l.length c ∧ l.length ≤ c ∧ c ≤ maxLen ∧ (l = [] ∨ ∃ b o, a = some ⟨b, o, none⟩ ∧ MsgsIn w b o l)

theorem MsgIn.below {w w' : World} {b o : Nat} {x : MsgM} (h : MsgIn w b o x) (hb : Below w.heap.size w w') : MsgIn w' b o x := by
  have hlt := World.block_lt_of_cell? _ _ h.1
  exact ⟨(below_cell hb hlt).trans h.1, (below_cell hb hlt).trans h.2.1, (below_cell hb hlt).trans h.2.2.1, (below_cell hb hlt).trans h.2.2.2⟩

theorem MsgsIn.below {w w' : World} {b o : Nat} {l : List MsgM} (h : MsgsIn w b o l) (hb : Below w.heap.size w w') : MsgsIn w' b o l := fun j hj => (h j hj).below hb

theorem MsgsAt.below {w w' : World} {v : Value} {l : List MsgM} (h : MsgsAt w v l) (hb : Below w.heap.size w w') : MsgsAt w' v l := by
  obtain ⟨a, c, hv, h1, h2, h3⟩ := h
  refine ⟨a, c, hv, h1, h2, ?_⟩
  rcases h3 with h3 | ⟨b, o, ha, hi⟩
  · exact .inl h3
  · exact .inr ⟨b, o, ha, hi.below hb⟩

theorem MsgsAt.alloc {w : World} {v : Value} {l : List MsgM} (h : MsgsAt w v l) (x : Obj) : MsgsAt (w.alloc x) v l := h.below ((Below.refl _ _).alloc (Nat.le_refl _) x)

theorem mcells_cons (x : MsgM) (l : List MsgM) : mcells (x :: l) = .int .i64 x.1 :: .int .i64 x.2.1 :: .string x.2.2.1 :: .int .i64 x.2.2.2 :: mcells l := rfl
theorem mcells_app (a b : List MsgM) : mcells (a ++ b) = mcells a ++ mcells b := by simp [mcells]

theorem mcells_length : ∀ l : List MsgM, (mcells l).length = l.length * 4
  | [] => rfl
  | x :: l => by rw [mcells_cons]; simp only [List.length_cons, mcells_length l]; omega

theorem mcells_at : ∀ (l : List MsgM) (j : Nat) (h : j < l.length), (mcells l)[j * 4]? = some (.int .i64 l[j].1) ∧ (mcells l)[j * 4 + 1]? = some (.int .i64 l[j].2.1) ∧
    (mcells l)[j * 4 + 2]? = some (.string l[j].2.2.1) ∧ (mcells l)[j * 4 + 3]? = some (.int .i64 l[j].2.2.2)
  | x :: l, 0, _ => ⟨rfl, rfl, rfl, rfl⟩
  | x :: l, j + 1, h => by
    have ih := mcells_at l j (by simpa using h)
    rw [mcells_cons, show (j + 1) * 4 = j * 4 + 1 + 1 + 1 + 1 by omega, show j * 4 + 1 + 1 + 1 + 1 + 1 = (j * 4 + 1) + 1 + 1 + 1 + 1 by omega, show j * 4 + 1 + 1 + 1 + 1 + 2 = (j * 4 + 2) + 1 + 1 + 1 + 1 by omega, show j * 4 + 1 + 1 + 1 + 1 + 3 = (j * 4 + 3) + 1 + 1 + 1 + 1 by omega]
    simp only [List.getElem?_cons_succ, List.getElem_cons_succ]
    exact ih

theorem mcells_set : ∀ (l : List MsgM) (j : Nat) (x : MsgM), j < l.length →
    ((((mcells l).set (j * 4) (.int .i64 x.1)).set (j * 4 + 1) (.int .i64 x.2.1)).set (j * 4 + 2) (.string x.2.2.1)).set (j * 4 + 3) (.int .i64 x.2.2.2) = mcells (l.set j x)
  | y :: l, 0, x, _ => rfl
  | y :: l, j + 1, x, h => by
    rw [mcells_cons, show (j + 1) * 4 = j * 4 + 1 + 1 + 1 + 1 by omega, show j * 4 + 1 + 1 + 1 + 1 + 1 = (j * 4 + 1) + 1 + 1 + 1 + 1 by omega, show j * 4 + 1 + 1 + 1 + 1 + 2 = (j * 4 + 2) + 1 + 1 + 1 + 1 by omega, show j * 4 + 1 + 1 + 1 + 1 + 3 = (j * 4 + 3) + 1 + 1 + 1 + 1 by omega]
    simp only [List.set_cons_succ]
    rw [mcells_set l j x (by simpa using h), mcells_cons]

/-- An own row of messages. -/
def MOwn (w : World) (B : Nat) (v : Value) (l : List MsgM) : Prop := w.ownsRow B 30 4 v l.length (mcells l)

theorem own_msgs_at {w : World} {B : Nat} {v : Value} {l : List MsgM} (h : MOwn w B v l) : MsgsAt w v l := by
  rcases h.2 with ⟨rfl, h0⟩ | ⟨g, cap, cur, rfl, _, _, h4, h5, _, _⟩
  · exact ⟨none, 0, by rw [h0], by omega, by unfold maxLen; omega, .inl (List.length_eq_zero_iff.1 h0)⟩
  · refine ⟨_, cap, rfl, h4, h5, .inr ⟨g, 0, rfl, fun j hj => ?_⟩⟩
    have e := mcells_at l j hj
    refine ⟨?_, ?_, ?_, ?_⟩
    · rw [Nat.zero_add, h.cellAt _ (by omega)]; exact e.1
    · rw [Nat.zero_add, h.cellAt _ (by omega)]; exact e.2.1
    · rw [Nat.zero_add, h.cellAt _ (by omega)]; exact e.2.2.1
    · rw [Nat.zero_add, h.cellAt _ (by omega)]; exact e.2.2.2

/-! ### When they are right -/

def inB (x lo hi : Int) : Bool := decide (lo ≤ x) && decide (x ≤ hi)
def msgB (x : MsgM) : Bool := inB x.1 1 100000 && inB x.2.1 0 7 && topicP (parts x.2.2.1 47) && inB x.2.2.2 0 9999

/-- May message k stand behind the one ahead of it? -/
def nextM (l : List MsgM) (k : Nat) (h : k < l.length) : Bool := msgB l[k] && (decide (k = 0) || decide ((l[k - 1]'(by omega)).1 < l[k].1))
def msgsTo (l : List MsgM) (k : Nat) : Bool := (List.range k).all fun j => if h : j < l.length then nextM l j h else true
def msgsB (l : List MsgM) : Bool := msgsTo l l.length

theorem msgsTo_succ (l : List MsgM) (k : Nat) (h : k < l.length) : msgsTo l (k + 1) = (msgsTo l k && nextM l k h) := by
  unfold msgsTo; rw [List.range_succ, List.all_append]; simp [h]

theorem msgsTo_bad {l : List MsgM} {k : Nat} (h : k < l.length) (hb : nextM l k h = false) : msgsB l = false := by
  cases e : msgsB l
  · rfl
  · unfold msgsB msgsTo at e
    rw [List.all_eq_true] at e
    have := e k (List.mem_range.2 h)
    rw [dif_pos h, hb] at this; cases this

end Go.Proofs.YtnclkdhaabggkaaDoor

/- The walks of spec.l1Split and spec.PartsOf: the list of the parts, in memory of the call's own. -/
namespace Go.Proofs.YtnclkdhaabggkaaDoor
open Go.RowKit

theorem Tryd.infoString : (Tryd.prog.info? 9).map (fun i => (i.zero, i.size, i.bytes)) = some (some (.string ByteArray.empty), 1, 16) := by kernel_rfl

/-- The cells of a list of texts. -/
abbrev texts (l : List ByteArray) : List Value := l.map Value.string

theorem texts_snoc (l : List ByteArray) (x : ByteArray) : texts l ++ [.string x] = texts (l ++ [x]) := by simp [texts]

theorem one_string (x : ByteArray) : ∀ u ∈ [Value.string x], u.oneCell' = true := by
  intro u hu; simp at hu; subst hu; rfl

/-- What an append of one text has done: below B all is as it was. -/
theorem below_append {B : Nat} {w wr w' : World} {v : Value} {n : Nat} {xs : List Value} {o : Obj} {e : TypeId} {size : Nat} (hB : B ≤ wr.heap.size) (h : Below B w wr) (hown : wr.ownsRow B e size v n xs) (hg : (wr.alloc o).grownBy w' v.ownBlock) : Below B w w' :=
  (h.alloc hB o).grown hg (by simp; omega) (fun k hk => (hown.lt k hk).1)

set_option maxRecDepth 100000 in
set_option maxHeartbeats 800000 in
theorem specSplit_any (s : ByteArray) (c : UInt8) (w : World) (hs : s.size ≤ 1048576) :
    Calls Tryd.prog 51 #[.string s, .int .u8 (c.toNat : Int)] w fun e w' =>
      ∃ v, e = .returned v ∧ w'.ownsRow w.heap.size 9 1 v (parts s c).length (texts (parts s c)) ∧ Below w.heap.size w w' := by
  obtain ⟨i0, hi, hz0, hz1, hz2⟩ := info_parts Tryd.infoString
  go_enter Tryd.func51, Tryd.ntmps51
  go_wp2
  go_loopw [5, 6, 7] (fun v f i wr => ∃ (k fr : Nat) (l : List ByteArray), Hid (cutTo s c k = (l, fr)) ∧ k ≤ s.size + 1 ∧ fr ≤ k ∧ l.length ≤ k ∧ i = .int .i64 k ∧ f = .int .i64 fr ∧
      Hid (wr.ownsRow w.heap.size 9 1 v l.length (texts l)) ∧ Hid (Below w.heap.size w wr)) (fun _ _ i _ => s.size + 1 - (intOf i).toNat)
  case atStart => exact ⟨0, 0, [], rfl, Nat.zero_le _, Nat.zero_le _, Nat.zero_le _, rfl, rfl, World.ownsRow_made _ _ _ (Nat.le_refl _) (Nat.zero_le _) rfl, (Below.refl _ _).alloc (Nat.le_refl _) _⟩
  case round =>
    obtain ⟨k, fr, l, HC, hk, hfr, hl, rfl, rfl, H1, H2⟩ := hrel
    by_cases hd : k ≤ s.size
    · by_cases hhit : s.size ≤ k ∨ s.data.toList[k]? = some c
      · have HH : Hid (cutTo s c (k + 1) = (l ++ [s.extract fr k], k + 1)) := Lib.hid (by rw [cutTo_hit hhit, HC.out])
        have htest : k = s.size ∨ (k < s.size ∧ ∃ h : k < s.size, ((s[k].toNat : Int) == (c.toNat : Int)) = true) := by
          rcases hhit with h | h
          · exact .inl (by omega)
          · by_cases e : k = s.size
            · exact .inl e
            · refine .inr ⟨by omega, by omega, ?_⟩
              have hk2 : k < s.data.toList.length := show k < s.size by omega
              rw [List.getElem?_eq_getElem hk2] at h
              have e3 : s[k] = c := Option.some.inj h
              rw [e3]; simp
        clear hhit
        have htest2 : ((k : Int) == (s.size : Int)) = true ∨ (k < s.size ∧ ∃ h : k < s.size, ((s[k].toNat : Int) == (c.toNat : Int)) = true) := by
          rcases htest with h | h
          · exact .inl (by subst h; simp)
          · exact .inr h
        clear htest
        rcases htest2 with hc | ⟨hlt, hlt2, hc⟩
        all_goals
          go_wp2_with (at_builtin; go_must (refine wpList_append_own _ rfl _ _ 65 rfl w.heap.size 9 i0 (.string ByteArray.empty) 1 16 Tryd.underlying65 hi hz0 hz1 hz2 rfl (by decide) _ _ _ rfl (H1.out.alloc _) ⟨wr.heap.size, 0, none⟩ 1 1 [.string (s.extract fr k)] rfl rfl (cell_one_new _ _ _) (one_string _) (by unfold maxLen; omega) (by omega) (by have := H2.out.size; simp; omega) ?_))
          intro v' w1 hown' hgrow _
          have R1 : Hid (w1.ownsRow w.heap.size 9 1 v' (l ++ [s.extract fr k]).length (texts (l ++ [s.extract fr k]))) := Lib.hid (by rw [← texts_snoc]; simpa using hown')
          have R2 : Hid (Below w.heap.size w w1) := Lib.hid (below_append H2.out.size H2.out H1.out hgrow)
          clear hown' hgrow H1 H2 HC
          go_wp2
          go_roundw
          case rel => exact ⟨k + 1, k + 1, l ++ [s.extract fr k], HH, by omega, Nat.le_refl _, by simp; omega, by go_num, by go_num, R1, R2⟩
          case measure => simp [intOf]; omega
      · have HH : Hid (cutTo s c (k + 1) = (l, fr)) := Lib.hid (by rw [cutTo_miss (by omega) (fun e => hhit (.inr e)), HC.out])
        have hlt : k < s.size := by omega
        have hc : ((s[k].toNat : Int) == (c.toNat : Int)) = false := by
          have hk2 : k < s.data.toList.length := hlt
          have h3 : s[k] ≠ c := fun e => hhit (.inr (by rw [List.getElem?_eq_getElem hk2]; exact congrArg some e))
          rw [beq_eq_false_iff_ne]
          intro e
          exact h3 (UInt8.toNat_inj.1 (by omega))
        have hc0 : ((k : Int) == (s.size : Int)) = false := by rw [beq_eq_false_iff_ne]; omega
        clear hhit HC
        go_wp2
        go_roundw
        case rel => exact ⟨k + 1, fr, l, HH, by omega, by omega, by omega, by go_num, rfl, H1, H2⟩
        case measure => simp [intOf]; omega
    · obtain rfl : k = s.size + 1 := by omega
      have HP : Hid (parts s c = l) := Lib.hid (by unfold parts; rw [HC.out])
      clear HC
      go_wp2
      go_ret
      exact ⟨_, rfl, by rw [HP.out]; exact H1.out, H2.out⟩

theorem specParts_any (s : ByteArray) (w : World) (hs : s.size ≤ 1048576) :
    Calls Tryd.prog 46 #[.string s] w fun e w' =>
      ∃ v, e = .returned v ∧ w'.ownsRow w.heap.size 9 1 v (parts s 47).length (texts (parts s 47)) ∧ Below w.heap.size w w' := by
  go_enter Tryd.func46, Tryd.ntmps46
  go_wp2_with (go_at_call 51; refine (specSplit_any s 47 w hs).mono ?_; rintro e w' ⟨v, rfl, h1, h2⟩)
  go_ret
  exact ⟨_, rfl, h1, h2⟩

end Go.Proofs.YtnclkdhaabggkaaDoor

/- A row of texts, opened. -/
namespace Go.Proofs.YtnclkdhaabggkaaDoor
open Go.RowKit

/-- A row of texts that the call owns, opened: where it lies, and each cell. -/
theorem row_open {w : World} {B : Nat} {v : Value} {l : List ByteArray} {E : TypeId} (h : w.ownsRow B E 1 v l.length (texts l)) (hl : 0 < l.length) :
    ∃ g cap, v = .slice (some ⟨g, 0, none⟩) l.length cap ∧ B ≤ g ∧ g < w.heap.size ∧ (∀ j (hj : j < l.length), w.cell? ⟨g, j, none⟩ = some (.string l[j])) ∧ (∀ j, w.frozen? ⟨g, j, none⟩ = false) := by
  obtain ⟨g, cap, rfl⟩ := Joins.ownsRow_form h hl
  have hlt := h.lt g rfl
  refine ⟨g, cap, rfl, hlt.1, hlt.2, fun j hj => ?_, fun j => h.frozenAt j⟩
  rw [h.cellAt j (by omega)]
  simp [texts, hj]

end Go.Proofs.YtnclkdhaabggkaaDoor

/- A message in a box. -/
namespace Go.Proofs.YtnclkdhaabggkaaDoor
open Go.RowKit

/-- The message lies boxed in block B. -/
def MBox (w : World) (B : Nat) (T : TypeId) (x : MsgM) : Prop := w.heap[B]? = some (.cells #[.int .i64 x.1, .int .i64 x.2.1, .string x.2.2.1, .int .i64 x.2.2.2] T (0, 0))
theorem MBox.below {w w' : World} {B : Nat} {T : TypeId} {x : MsgM} (h : MBox w B T x) (hb : Below w.heap.size w w') : MBox w' B T x := (hb.block _ (Array.getElem?_eq_some_iff.1 h).1).trans h
theorem MBox.new (w : World) (T : TypeId) (x : MsgM) : MBox (w.alloc (.cells #[.int .i64 x.1, .int .i64 x.2.1, .string x.2.2.1, .int .i64 x.2.2.2] T)) w.heap.size T x := heap_alloc_new _ _
theorem MBox.cells {w : World} {B : Nat} {T : TypeId} {x : MsgM} (h : MBox w B T x) : w.cell? ⟨B, 0, none⟩ = some (.int .i64 x.1) ∧ w.cell? ⟨B, 1, none⟩ = some (.int .i64 x.2.1) ∧ w.cell? ⟨B, 2, none⟩ = some (.string x.2.2.1) ∧ w.cell? ⟨B, 3, none⟩ = some (.int .i64 x.2.2.2) := by
  unfold MBox at h
  refine ⟨?_, ?_, ?_, ?_⟩ <;> simp [World.cell?, h]

end Go.Proofs.YtnclkdhaabggkaaDoor

/- An answer that is a part of an own row of messages: what it holds. -/
namespace Go.Proofs.YtnclkdhaabggkaaDoor
open Go.RowKit

theorem own_cap2 {w : World} {B n size g c : Nat} {E : TypeId} {xs : List Value} (h : w.ownsRow B E size (.slice (some ⟨g, 0, none⟩) n c) n xs) : n ≤ c := by
  rcases h.2 with ⟨e, _⟩ | ⟨g2, cap, cur, e, _, _, h4, _⟩
  · cases e
  · cases e; exact h4

theorem own_max {w : World} {B n size g c : Nat} {E : TypeId} {xs : List Value} (h : w.ownsRow B E size (.slice (some ⟨g, 0, none⟩) n c) n xs) : c ≤ maxLen := by
  rcases h.2 with ⟨e, _⟩ | ⟨g2, cap, cur, e, _, _, h4, h5, _⟩
  · cases e
  · cases e; exact h5

/-- u is n elements of the row V, from its p-th on. -/
def PartOf (V : Value) (p n : Nat) (u : Value) : Prop :=
  (V = .slice none 0 0 ∧ u = .slice none 0 0 ∧ n = 0) ∨ ∃ g o c C N, V = .slice (some ⟨g, 0, none⟩) N C ∧ u = .slice (some ⟨g, o, none⟩) n c ∧ n ≤ c ∧ c ≤ maxLen ∧ (n = 0 ∨ o = p * 4)

theorem PartOf.slice {V u : Value} {p n : Nat} (h : PartOf V p n u) : ∃ a c, u = .slice a n c := by
  rcases h with ⟨_, rfl, rfl⟩ | ⟨g, o, c, C, N, _, rfl, _⟩
  · exact ⟨none, 0, rfl⟩
  · exact ⟨_, _, rfl⟩

/-- A whole own row is a part of itself. -/
theorem PartOf.whole {w : World} {B : Nat} {v : Value} {l : List MsgM} (h : MOwn w B v l) : PartOf v 0 l.length v := by
  rcases h.2 with ⟨rfl, h0⟩ | ⟨g, cap, cur, rfl, _, _, h4, h5, _, _⟩
  · exact .inl ⟨rfl, rfl, h0⟩
  · exact .inr ⟨g, 0, cap, cap, l.length, rfl, rfl, h4, h5, .inr (by omega)⟩

theorem part_at {w : World} {B : Nat} {V u : Value} {pre l post : List MsgM} (h : MOwn w B V (pre ++ l ++ post)) (hp : PartOf V pre.length l.length u) : MsgsAt w u l := by
  rcases hp with ⟨rfl, rfl, h0⟩ | ⟨g, o, c, C, N, rfl, rfl, h1, h2, h3⟩
  · exact ⟨none, 0, by rw [h0], by omega, by unfold maxLen; omega, .inl (List.length_eq_zero_iff.1 h0)⟩
  · refine ⟨_, c, rfl, h1, h2, ?_⟩
    rcases h3 with h3 | h3
    · exact .inl (List.length_eq_zero_iff.1 h3)
    · refine .inr ⟨g, o, rfl, fun j hj => ?_⟩
      have e := mcells_at (pre ++ l ++ post) (pre.length + j) (by simp; omega)
      have e2 : (pre ++ l ++ post)[pre.length + j]'(by simp; omega) = l[j] := by
        rw [List.getElem_append_left (by simp; omega), List.getElem_append_right (by omega)]
        simp
      rw [e2] at e
      obtain ⟨_, _, eN⟩ := own_slice h
      cases eN
      have hlen : (pre ++ l ++ post).length = pre.length + l.length + post.length := by simp; omega
      subst h3
      have hc := fun i (hi : i < (pre ++ l ++ post).length * 4) => h.cellAt i hi
      refine ⟨?_, ?_, ?_, ?_⟩
      · rw [show pre.length * 4 + j * 4 = (pre.length + j) * 4 by omega, hc _ (by omega)]; exact e.1
      · rw [show pre.length * 4 + j * 4 + 1 = (pre.length + j) * 4 + 1 by omega, hc _ (by omega)]; exact e.2.1
      · rw [show pre.length * 4 + j * 4 + 2 = (pre.length + j) * 4 + 2 by omega, hc _ (by omega)]; exact e.2.2.1
      · rw [show pre.length * 4 + j * 4 + 3 = (pre.length + j) * 4 + 3 by omega, hc _ (by omega)]; exact e.2.2.2

end Go.Proofs.YtnclkdhaabggkaaDoor

/- slices.IndexFunc and slices.ContainsFunc at messages, with whatever closure that only makes memory of its own. -/
namespace Go.Proofs.YtnclkdhaabggkaaDoor
open Go.RowKit

/-- What is asked of the closure. -/
def PredM (g : Nat) (lb : Array Value) (p : MsgM → Bool) (l : List MsgM) (w : World) : Prop :=
  ∀ (W : World) (x : MsgM), x ∈ l → Below w.heap.size w W → Calls Tryd.prog g (#[magg x] ++ lb) W fun e w' => e = .returned (.bool (p x)) ∧ Below W.heap.size W w'

set_option maxRecDepth 100000 in
set_option maxHeartbeats 3200000 in
theorem indexG_any (u : Value) (l : List MsgM) (pr : MsgM → Bool) (g : Nat) (lb : Array Value) (eg : ∀ args w, (callFunc g args).run Tryd.prog w = .ok (.enter g args) w) (w : World) (hl : l.length ≤ 2000000) (hv : MsgsAt w u l) (hp : PredM g lb pr l w) :
    Calls Tryd.prog 48 #[u, .func (.func g) #[] lb] w fun e w' =>
      ∃ z : Int, e = .returned (.int .i64 z) ∧ ((z = -1 ∧ ∀ x ∈ l, pr x = false) ∨ ∃ k : Nat, z = k ∧ ∃ h : k < l.length, pr l[k] = true ∧ ∀ j (hj : j < k), pr (l[j]'(by omega)) = false) ∧ Below w.heap.size w w' := by
  obtain ⟨a, c, rfl, hc1, hc2, hc3⟩ := hv
  have HC := Lib.hid hc3
  have HP := Lib.hid hp
  clear hc3 hp
  go_enter Tryd.func48, Tryd.ntmps48
  go_wp2
  go_loopw [8] (fun i wr => ∃ k : Nat, k ≤ l.length ∧ i = .int .i64 k ∧ Hid (∀ j (hj : j < k) (hk : j < l.length), pr l[j] = false) ∧ Hid (Below w.heap.size w wr)) (fun i _ => l.length - (intOf i).toNat)
  case atStart => exact ⟨0, Nat.zero_le _, rfl, Lib.hid (fun j hj => absurd hj (Nat.not_lt_zero _)), Below.refl _ _⟩
  case round =>
    obtain ⟨k, hk, rfl, HT, HB⟩ := hrel
    by_cases hlt : k < l.length
    · obtain ⟨b, o, rfl, hin⟩ : ∃ b o, a = some ⟨b, o, none⟩ ∧ MsgsIn w b o l := by
        rcases HC.out with h | h
        · subst h; simp at hlt
        · exact h
      obtain ⟨p0, p1, p2, p3⟩ := (hin.below HB.out) k hlt
      have CX := Lib.hid (HP.out wr l[k] (List.getElem_mem hlt) HB.out)
      have HG : Hid (pr l[k] = true → (∃ kk : Nat, (k : Int) = kk ∧ ∃ h : kk < l.length, pr l[kk] = true ∧ ∀ j (hj : j < kk), pr (l[j]'(by omega)) = false)) := Lib.hid (fun h => ⟨k, rfl, hlt, h, fun j hj => HT.out j hj (by omega)⟩)
      have HN : Hid (pr l[k] = false → ∀ j (hj : j < k + 1) (hk : j < l.length), pr l[j] = false) := Lib.hid (fun h j hj hk => by
        rcases Nat.lt_or_ge j k with h1 | h1
        · exact HT.out j h1 hk
        · have : j = k := by omega
          subst this; exact h)
      generalize pr l[k] = gb at CX HG HN
      generalize l[k] = x at p0 p1 p2 p3 CX
      obtain ⟨q, t, p, d⟩ := x
      clear hin HT
      cases gb
      · have HT := Lib.hid (HN.out (by trivial))
        go_wp2_with fail
        refine CX.out.mono ?_
        rintro e w1 ⟨rfl, hb⟩
        have B1 := Lib.hid (below_end HB.out hb)
        clear hb p0 p1 p2 p3
        go_wp2
        go_roundw
        case rel => exact ⟨k + 1, by omega, by go_num, HT, B1⟩
        case measure => simp [intOf]; omega
      · have HT := Lib.hid (HG.out (by trivial))
        go_wp2_with fail
        refine CX.out.mono ?_
        rintro e w1 ⟨rfl, hb⟩
        have B1 := Lib.hid (below_end HB.out hb)
        clear hb p0 p1 p2 p3
        go_wp2
        go_ret
        exact ⟨_, rfl, .inr HT.out, B1.out⟩
    · obtain rfl : k = l.length := by omega
      go_wp2
      go_ret
      exact ⟨-1, rfl, .inl ⟨rfl, fun x hx => by obtain ⟨j, hj, rfl⟩ := List.mem_iff_getElem.1 hx; exact HT.out j hj hj⟩, HB.out⟩

end Go.Proofs.YtnclkdhaabggkaaDoor

/- Messages, rows of them and rings that come in as arguments: what their cells hold. -/
namespace Go.Proofs.YtnclkdhaabggkaaDoor
open Go.ChangeShapes Go.WideShapes Go.RowKit Go.Deep

section
variable {H : Type} {enc : TypeId × Value → H} {P : Program} {w : World} {base : Nat} {spare : Nat → Bool} {held : Bool}

/-- An address of which a first cell is there has no spot. -/
theorem addr_plainM {a : Addr} {v : Value} (h : w.cell? a = some v) : a = ⟨a.block, a.off, none⟩ := by
  obtain ⟨b, o, s⟩ := a
  cases s with
  | none => rfl
  | some s =>
    unfold World.cell? at h
    split at h <;> simp at h

theorem addr_mkM (b o n : Nat) : (⟨b, o, none⟩ : Addr).add n = ⟨b, o + n, none⟩ := by
  unfold Addr.add; split <;> simp_all

theorem trod_struct4 {t : TypeId} {f0 f1 f2 f3 : Field} {fuel : Nat} {cs : List Value} {x : DataW H × List MemPlace} (ht : P.underlying t = some (.struct #[f0, f1, f2, f3])) (h : DataW.trod enc P w base spare held fuel t cs = some x) :
    ∃ y0 y1 y2 y3 n, cs.length = P.cellsOf t ∧ DataW.trod enc P w base spare held n f0.type ((cs.drop f0.offset).take (P.cellsOf f0.type)) = some y0 ∧
      DataW.trod enc P w base spare held n f1.type ((cs.drop f1.offset).take (P.cellsOf f1.type)) = some y1 ∧ DataW.trod enc P w base spare held n f2.type ((cs.drop f2.offset).take (P.cellsOf f2.type)) = some y2 ∧
      DataW.trod enc P w base spare held n f3.type ((cs.drop f3.offset).take (P.cellsOf f3.type)) = some y3 := by
  obtain ⟨xs, n, _, rfl, hl, hlen, hf⟩ := DataW.trod_struct ht h
  match xs, hlen with
  | [y0, y1, y2, y3], _ => exact ⟨y0, y1, y2, y3, n, hl, by simpa using hf 0 f0 rfl, by simpa using hf 1 f1 rfl, by simpa using hf 2 f2 rfl, by simpa using hf 3 f3 rfl⟩

theorem msg_read {t ti ts : TypeId} {f0 f1 f2 f3 : Field} {fuel : Nat} {cs : List Value} {x : DataW H × List MemPlace} (ht : P.underlying t = some (.struct #[f0, f1, f2, f3])) (hC : P.cellsOf t = 4)
    (h0 : f0.type = ti ∧ f0.offset = 0) (h1 : f1.type = ti ∧ f1.offset = 1) (h2 : f2.type = ts ∧ f2.offset = 2) (h3 : f3.type = ti ∧ f3.offset = 3)
    (hi : P.underlying ti = some (.int .i64)) (hci : P.cellsOf ti = 1) (hs : P.underlying ts = some .string) (hcs : P.cellsOf ts = 1)
    (h : DataW.trod enc P w base spare held fuel t cs = some x) : ∃ y : MsgM, cs = mval y ∧ y.2.2.1.size ≤ maxLen := by
  obtain ⟨y0, y1, y2, y3, n, hl, q0, q1, q2, q3⟩ := trod_struct4 ht h
  rw [hC] at hl
  match cs, hl with
  | [c0, c1, c2, c3], _ =>
    rw [h0.1, h0.2, hci] at q0
    rw [h1.1, h1.2, hci] at q1
    rw [h2.1, h2.2, hcs] at q2
    rw [h3.1, h3.2, hci] at q3
    obtain ⟨a, e0, _, _⟩ := DataW.trod_int hi q0
    obtain ⟨b, e1, _, _⟩ := DataW.trod_int hi q1
    obtain ⟨p, e2, _, hsz⟩ := DataW.trod_string hs q2
    obtain ⟨d, e3, _, _⟩ := DataW.trod_int hi q3
    simp only [List.drop_zero, List.take_succ_cons, List.take_zero, List.cons.injEq, and_true, List.drop_succ_cons] at e0 e1 e2 e3
    subst e0 e1 e2 e3
    exact ⟨(a, b, p, d), rfl, hsz⟩

theorem msgs_read {tt t ti ts : TypeId} {f0 f1 f2 f3 : Field} {fuel : Nat} {cs : List Value} {x : DataW H × List MemPlace} (htt : P.underlying tt = some (.slice t)) (ht : P.underlying t = some (.struct #[f0, f1, f2, f3])) (hC : P.cellsOf t = 4)
    (h0 : f0.type = ti ∧ f0.offset = 0) (h1 : f1.type = ti ∧ f1.offset = 1) (h2 : f2.type = ts ∧ f2.offset = 2) (h3 : f3.type = ti ∧ f3.offset = 3)
    (hi : P.underlying ti = some (.int .i64)) (hci : P.cellsOf ti = 1) (hs : P.underlying ts = some .string) (hcs : P.cellsOf ts = 1)
    (h : DataW.trod enc P w base spare held fuel tt cs = some x) : ∃ v l, cs = [v] ∧ MsgsAt w v l ∧ ∀ y ∈ l, y.2.2.1.size ≤ maxLen := by
  rcases open_slice htt h with ⟨rfl, _⟩ | ⟨a, len, cap, m, n, D, Pl, rfl, _, hl, hm, hmm, _, hx⟩
  · exact ⟨_, [], rfl, ⟨none, 0, rfl, Nat.le_refl _, by unfold maxLen; omega, .inl rfl⟩, by simp⟩
  · have hlm : len ≤ m := by rw [hmm]; split <;> omega
    have hk : ∀ i, i < len → ∃ y : MsgM, y.2.2.1.size ≤ maxLen ∧ w.cell? (a.add (i * 4)) = some (.int .i64 y.1) ∧ w.cell? ((a.add (i * 4)).add 1) = some (.int .i64 y.2.1) ∧ w.cell? ((a.add (i * 4)).add 2) = some (.string y.2.2.1) ∧ w.cell? ((a.add (i * 4)).add 3) = some (.int .i64 y.2.2.2) := fun i hi' => by
      obtain ⟨cs', e1, e2⟩ := hx i (by omega)
      rw [hC] at e1
      obtain ⟨_, _, hat⟩ := World.cells?_some e1
      obtain ⟨y, rfl, hsz⟩ := msg_read ht hC h0 h1 h2 h3 hi hci hs hcs e2
      refine ⟨y, hsz, ?_, ?_, ?_, ?_⟩
      · have := hat 0 (by omega); simpa [Addr.add, mval] using this
      · have := hat 1 (by omega); simpa [mval] using this
      · have := hat 2 (by omega); simpa [mval] using this
      · have := hat 3 (by omega); simpa [mval] using this
    have : Inhabited MsgM := ⟨(0, 0, ⟨#[]⟩, 0)⟩
    obtain ⟨f, hf⟩ := choose_lt hk
    refine ⟨_, (List.range len).map f, rfl, ⟨some a, cap, by simp, by simpa using hl, hm, ?_⟩, fun y hy => ?_⟩
    · by_cases h00 : len = 0
      · subst h00; exact .inl rfl
      · have ha : a = ⟨a.block, a.off, none⟩ := addr_plainM (by have := (hf 0 (by omega)).2.1; simpa [Addr.add] using this)
        refine .inr ⟨a.block, a.off, by rw [← ha], fun j hj => ?_⟩
        simp only [List.length_map, List.length_range] at hj
        obtain ⟨_, c1, c2, c3, c4⟩ := hf j hj
        simp only [List.getElem_map, List.getElem_range]
        rw [ha, addr_mkM] at c1 c2 c3 c4
        rw [addr_mkM] at c2 c3 c4
        exact ⟨c1, c2, c3, c4⟩
    · obtain ⟨i, hi, rfl⟩ := List.mem_map.1 hy
      exact (hf i (List.mem_range.1 hi)).1

theorem ring_read {tr tt t ti ts : TypeId} {g0 g1 f0 f1 f2 f3 : Field} {fuel : Nat} {cs : List Value} {x : DataW H × List MemPlace} (hr : P.underlying tr = some (.struct #[g0, g1])) (hR : P.cellsOf tr = 2)
    (hg0 : g0.type = ti ∧ g0.offset = 0) (hg1 : g1.type = tt ∧ g1.offset = 1) (hctt : P.cellsOf tt = 1)
    (htt : P.underlying tt = some (.slice t)) (ht : P.underlying t = some (.struct #[f0, f1, f2, f3])) (hC : P.cellsOf t = 4)
    (h0 : f0.type = ti ∧ f0.offset = 0) (h1 : f1.type = ti ∧ f1.offset = 1) (h2 : f2.type = ts ∧ f2.offset = 2) (h3 : f3.type = ti ∧ f3.offset = 3)
    (hi : P.underlying ti = some (.int .i64)) (hci : P.cellsOf ti = 1) (hs : P.underlying ts = some .string) (hcs : P.cellsOf ts = 1)
    (h : DataW.trod enc P w base spare held fuel tr cs = some x) : ∃ cap v l, cs = [.int .i64 cap, v] ∧ MsgsAt w v l ∧ ∀ y ∈ l, y.2.2.1.size ≤ maxLen := by
  obtain ⟨y0, y1, n, _, hl, q0, q1⟩ := trod_struct2 hr h
  rw [hR] at hl
  match cs, hl with
  | [c0, c1], _ =>
    rw [hg0.1, hg0.2, hci] at q0
    rw [hg1.1, hg1.2, hctt] at q1
    obtain ⟨a, e0, _, _⟩ := DataW.trod_int hi q0
    obtain ⟨v, l, e1, hv, hsz⟩ := msgs_read htt ht hC h0 h1 h2 h3 hi hci hs hcs q1
    simp only [List.drop_zero, List.take_succ_cons, List.take_zero, List.cons.injEq, and_true, List.drop_succ_cons] at e0 e1
    subst e0 e1
    exact ⟨a, _, l, rfl, hv, hsz⟩

end

end Go.Proofs.YtnclkdhaabggkaaDoor

/- Rows of messages: empty ones, and one laid anew. -/
namespace Go.Proofs.YtnclkdhaabggkaaDoor
open Go.RowKit

def msgZ : MsgM := (0, 0, ⟨#[]⟩, 0)

theorem madeCells_four (n : Nat) : (madeCells #[.int .i64 0, .int .i64 0, .string ⟨#[]⟩, .int .i64 0] (n * 4)).toList = mcells (List.replicate n msgZ) := by
  have hl := mcells_length (List.replicate n msgZ)
  rw [List.length_replicate] at hl
  apply List.ext_getElem?
  intro i
  by_cases hi : i < n * 4
  · have e := mcells_at (List.replicate n msgZ) (i / 4) (by simp; omega)
    simp only [List.getElem_replicate] at e
    obtain ⟨j, hj | hj | hj | hj⟩ : ∃ j, i = j * 4 ∨ i = j * 4 + 1 ∨ i = j * 4 + 2 ∨ i = j * 4 + 3 := ⟨i / 4, by omega⟩
    · subst hj
      rw [show j * 4 / 4 = j by omega] at e
      rw [e.1]; simp [madeCells, hi, msgZ]
    · subst hj
      rw [show (j * 4 + 1) / 4 = j by omega] at e
      rw [e.2.1]; simp [madeCells, hi, msgZ, Nat.add_mod]
    · subst hj
      rw [show (j * 4 + 2) / 4 = j by omega] at e
      rw [e.2.2.1]; simp [madeCells, hi, msgZ, Nat.add_mod]
    · subst hj
      rw [show (j * 4 + 3) / 4 = j by omega] at e
      rw [e.2.2.2]; simp [madeCells, hi, msgZ, Nat.add_mod]
  · rw [List.getElem?_eq_none (by simp [size_madeCells]; omega), List.getElem?_eq_none (by omega)]

/-- The k-th message laid anew: four stores. -/
def put4 (w : World) (g k : Nat) (x : MsgM) : World :=
  (((w.setCell ⟨g, k * 4, none⟩ (.int .i64 x.1)).setCell ⟨g, k * 4 + 1, none⟩ (.int .i64 x.2.1)).setCell ⟨g, k * 4 + 2, none⟩ (.string x.2.2.1)).setCell ⟨g, k * 4 + 3, none⟩ (.int .i64 x.2.2.2)

theorem MOwn.put {w : World} {B g n cap k : Nat} {l : List MsgM} (x : MsgM) (h : MOwn w B (.slice (some ⟨g, 0, none⟩) n cap) l) (hn : n = l.length) (hk : k < l.length) : MOwn (put4 w g k x) B (.slice (some ⟨g, 0, none⟩) n cap) (l.set k x) := by
  subst hn
  unfold MOwn at h ⊢
  rw [List.length_set, ← mcells_set l k x hk]
  exact ((((h.stored _ _).1.stored _ _).1.stored _ _).1.stored _ _).1

theorem grown_put4 (w : World) (g k : Nat) (x : MsgM) : w.grownBy (put4 w g k x) (some g) :=
  grown_trans (grown_trans (grown_trans (grown_setCell _ _ _ _) (grown_setCell _ _ _ _)) (grown_setCell _ _ _ _)) (grown_setCell _ _ _ _)

end Go.Proofs.YtnclkdhaabggkaaDoor

/- The walk of impl.PartsOf. -/
namespace Go.Proofs.YtnclkdhaabggkaaDoor
open Go.RowKit

theorem implParts_any (s : ByteArray) (m : Int) (w : World) (hs : s.size ≤ 1048576) (hm : w.cell? ⟨0, 0, none⟩ = some (.int .i64 m)) :
    Calls Tryd.prog 55 #[.string s] w fun e w' =>
      ∃ v, e = .returned v ∧ w'.ownsRow w.heap.size 9 1 v (parts s 47).length (texts (parts s 47)) ∧ Below w.heap.size w w' := by
  have c := Tryd.strings_Split s ⟨#[47]⟩ m w (by omega) hm (Nat.le_refl 1)
  rw [splitB_parts, countB_parts] at c
  have hp := parts_le s 47
  go_enter Tryd.func55, Tryd.ntmps55
  go_wp2_with (go_at_call 57; refine c.mono ?_; rintro e w' ⟨rfl, rfl⟩)
  go_ret
  refine ⟨_, rfl, ?_, (Below.refl _ _).alloc (Nat.le_refl _) _⟩
  have := World.ownsRow_lit (base := w.heap.size) (e := 9) (size := 1) w (texts (parts s 47)).toArray (parts s 47).length (Nat.le_refl _) (by unfold maxLen; omega) (by simp)
  simpa using this

end Go.Proofs.YtnclkdhaabggkaaDoor

/- The walk of the reference's look whether a number lies between two. -/
namespace Go.Proofs.YtnclkdhaabggkaaDoor
open Go.RowKit

theorem quiet_back {P : Program} {f : Nat} {args : Array Value} {w : World} {v : Value} (h : Calls P f args w fun e w' => e = .returned v ∧ w = w') : Calls P f args w fun e w' => e = .returned v ∧ w' = w := h.mono fun _ _ ⟨he, hw⟩ => ⟨he, hw.symm⟩

theorem specIn_any (x lo hi : Int) (w : World) :
    Calls Tryd.prog 30 #[.int .i64 x, .int .i64 lo, .int .i64 hi] w fun e w' => e = .returned (.bool (decide (lo ≤ x) && decide (x ≤ hi))) ∧ w = w' := by
  by_cases h1 : lo ≤ x
  · go_enter Tryd.func30, Tryd.ntmps30
    go_wp2
    go_ret
    exact ⟨ret_bool (by simp [h1]), rfl⟩
  · go_enter Tryd.func30, Tryd.ntmps30
    go_wp2
    go_ret
    exact ⟨ret_bool (by simp; omega), rfl⟩

end Go.Proofs.YtnclkdhaabggkaaDoor

/- The walk of the reference's TopicOk: is a text a topic? -/
namespace Go.Proofs.YtnclkdhaabggkaaDoor
open Go.RowKit

set_option maxRecDepth 100000 in
set_option maxHeartbeats 800000 in
theorem specTopic_any (s : ByteArray) (w : World) (hs : s.size ≤ 1048576) :
    Calls Tryd.prog 41 #[.string s] w fun e w' => e = .returned (.bool (topicP (parts s 47))) ∧ Below w.heap.size w w' := by
  have hpos := parts_pos s 47
  have hple := parts_le s 47
  have hps : Hid (∀ p ∈ parts s 47, p.size ≤ s.size) := Lib.hid (fun p h => parts_size h)
  obtain ⟨l, hl⟩ : ∃ l, parts s 47 = l := ⟨_, rfl⟩
  have hc := fun w => specParts_any s w hs
  rw [hl] at hpos hple hps ⊢
  simp only [hl] at hc
  clear hl
  go_enter Tryd.func41, Tryd.ntmps41
  go_wp2_with (go_at_call 46; refine (hc w).mono ?_; clear hc; rintro e w1 ⟨v, rfl, h1, h2⟩; obtain ⟨g, cap, rfl, hg1, hg2, hcell, _⟩ := row_open h1 hpos; have HC := Lib.hid hcell; have H2 := Lib.hid h2; clear h1 h2 hcell)
  go_loop [4] (fun i => ∃ k : Nat, k ≤ l.length ∧ i = .int .i64 k ∧ Hid ((l.take k).all isWord = true)) (fun i => l.length - (intOf i).toNat)
  case atStart => exact ⟨0, Nat.zero_le _, rfl, rfl⟩
  case round =>
    obtain ⟨k, hk, rfl, HL⟩ := hrel
    by_cases hlt : k < l.length
    · have hcx := HC.out k hlt
      have hsz : Hid (l[k].size ≤ maxLen) := Lib.hid (by have := hps.out _ (List.getElem_mem hlt); unfold maxLen; omega)
      cases hw : isWord l[k]
      · have HB := Lib.hid (topicP_bad hlt hw)
        have cw := specWord_any l[k] w1 hsz.out
        rw [hw] at cw
        clear hw
        go_wp2_with (go_at_call 47; refine cw.mono ?_; rintro e w' ⟨rfl, rfl⟩)
        go_ret
        exact ⟨ret_bool HB.out.symm, H2.out⟩
      · have HN : Hid ((l.take (k + 1)).all isWord = true) := Lib.hid (by rw [all_snoc l k hlt, HL.out, hw]; rfl)
        have cw := specWord_any l[k] w1 hsz.out
        rw [hw] at cw
        clear hw
        go_wp2_with (go_at_call 47; refine cw.mono ?_; rintro e w' ⟨rfl, rfl⟩)
        go_round
        case rel => exact ⟨k + 1, by omega, by go_num, HN⟩
        case measure => simp [intOf]; omega
    · obtain rfl : k = l.length := by omega
      have HE := Lib.hid (topicP_end HL.out)
      clear HL
      go_wp2
      go_ret
      exact ⟨ret_bool (by rw [HE.out]; grind), H2.out⟩

end Go.Proofs.YtnclkdhaabggkaaDoor

/- The walks of the reference's MsgOk and MsgsOk. -/
namespace Go.Proofs.YtnclkdhaabggkaaDoor
open Go.RowKit

set_option maxRecDepth 100000 in
set_option maxHeartbeats 1600000 in
theorem specMsgOk_any (x : MsgM) (w : World) (hs : x.2.2.1.size ≤ 1048576) :
    Calls Tryd.prog 32 #[magg x] w fun e w' => e = .returned (.bool (msgB x)) ∧ Below w.heap.size w w' := by
  obtain ⟨q, f, p, d⟩ := x
  dsimp only at hs
  have C1 := Lib.hid (fun w' => specIn_any q 1 100000 w')
  have C2 := Lib.hid (fun w' => specIn_any f 0 7 w')
  have C3 := Lib.hid (fun w' => specTopic_any p w' hs)
  have C4 := Lib.hid (fun w' => specIn_any d 0 9999 w')
  have HB : Hid (msgB (q, f, p, d) = ((decide (1 ≤ q) && decide (q ≤ 100000)) && (decide (0 ≤ f) && decide (f ≤ 7)) && topicP (parts p 47) && (decide (0 ≤ d) && decide (d ≤ 9999)))) := rfl
  generalize (decide (1 ≤ q) && decide (q ≤ 100000)) = b1 at C1 HB
  generalize (decide (0 ≤ f) && decide (f ≤ 7)) = b2 at C2 HB
  generalize topicP (parts p 47) = b3 at C3 HB
  generalize (decide (0 ≤ d) && decide (d ≤ 9999)) = b4 at C4 HB
  clear hs
  go_enter Tryd.func32, Tryd.ntmps32
  go_wp2_with fail
  refine (C1.out _).mono ?_
  rintro e w1 ⟨rfl, rfl⟩
  cases b1
  · go_wp2
    go_ret
    exact ⟨ret_bool (by rw [HB.out]; rfl), (Below.refl _ _).alloc (Nat.le_refl _) _⟩
  go_wp2_with fail
  refine (C2.out _).mono ?_
  rintro e w1 ⟨rfl, rfl⟩
  cases b2
  · go_wp2
    go_ret
    exact ⟨ret_bool (by rw [HB.out]; rfl), (Below.refl _ _).alloc (Nat.le_refl _) _⟩
  go_wp2_with fail
  have b0 : Below w.heap.size w (w.alloc (.cells #[.int .i64 q, .int .i64 f, .string p, .int .i64 d] 30)) := (Below.refl _ _).alloc (Nat.le_refl _) _
  have s0 : w.heap.size < (w.alloc (.cells #[.int .i64 q, .int .i64 f, .string p, .int .i64 d] 30)).heap.size := by simp
  have c0 : (w.alloc (.cells #[.int .i64 q, .int .i64 f, .string p, .int .i64 d] 30)).cell? ⟨w.heap.size, 3, none⟩ = some (.int .i64 d) := by rw [World.cell?_alloc_at _ _ _ _ rfl]; rfl
  generalize w.alloc (.cells #[.int .i64 q, .int .i64 f, .string p, .int .i64 d] 30) = w0 at b0 s0 c0 ⊢
  refine (C3.out _).mono ?_
  rintro e w1 ⟨rfl, hb⟩
  have c1 := (below_cell hb s0).trans c0
  have B1 := Lib.hid (b0.trans (hb.mono b0.size))
  clear b0 s0 c0 hb
  cases b3
  · go_wp2
    go_ret
    exact ⟨ret_bool (by rw [HB.out]; rfl), B1.out⟩
  go_wp2_with fail
  refine (C4.out _).mono ?_
  rintro e w2 ⟨rfl, rfl⟩
  go_wp2
  go_ret
  exact ⟨ret_bool (by rw [HB.out]; simp), B1.out⟩

end Go.Proofs.YtnclkdhaabggkaaDoor

/- Messages as cells: what an append of messages reads. -/
namespace Go.Proofs.YtnclkdhaabggkaaDoor
open Go.RowKit

theorem mcells_one (l : List MsgM) : ∀ u ∈ mcells l, u.oneCell' = true := by
  intro u hu
  obtain ⟨x, _, hx⟩ := List.mem_flatMap.1 hu
  simp only [mval, List.mem_cons, List.not_mem_nil, or_false] at hx
  rcases hx with rfl | rfl | rfl | rfl <;> rfl

/-- The cells of a row of messages, one by one. -/
theorem msgs_src {w : World} {b o : Nat} {l : List MsgM} (h : MsgsIn w b o l) : ∀ j u, (mcells l)[j]? = some u → w.cell? ((⟨b, o, none⟩ : Addr).add j) = some u := by
  intro j u hu
  have hj : j < l.length * 4 := by
    rcases Nat.lt_or_ge j (l.length * 4) with h | h
    · exact h
    · rw [List.getElem?_eq_none (by rw [mcells_length]; exact h)] at hu; cases hu
  have hi : j / 4 < l.length := by omega
  have e := mcells_at l (j / 4) hi
  have c := h (j / 4) hi
  have ha : ∀ n : Nat, (⟨b, o, none⟩ : Addr).add n = ⟨b, o + n, none⟩ := fun n => by unfold Addr.add; split <;> simp_all
  rw [ha]
  obtain ⟨i, hj2 | hj2 | hj2 | hj2⟩ : ∃ i, j = i * 4 ∨ j = i * 4 + 1 ∨ j = i * 4 + 2 ∨ j = i * 4 + 3 := ⟨j / 4, by omega⟩
  · subst hj2
    simp only [show i * 4 / 4 = i by omega] at e c
    rw [e.1] at hu; cases hu; exact c.1
  · subst hj2
    simp only [show (i * 4 + 1) / 4 = i by omega] at e c
    rw [e.2.1] at hu; cases hu; exact c.2.1
  · subst hj2
    simp only [show (i * 4 + 2) / 4 = i by omega] at e c
    rw [e.2.2.1] at hu; cases hu; exact c.2.2.1
  · subst hj2
    simp only [show (i * 4 + 3) / 4 = i by omega] at e c
    rw [e.2.2.2] at hu; cases hu; exact c.2.2.2

theorem msg_info : ∃ i, Tryd.prog.info? 30 = some i ∧ i.zero = some (.agg #[.int .i64 0, .int .i64 0, .string ⟨#[]⟩, .int .i64 0]) ∧ i.size = 4 ∧ i.bytes = 40 :=
  info_parts (by kernel_rfl)

theorem own_farR {w : World} {B n size g j : Nat} {E : TypeId} {u v : Value} {xs : List Value} (h : w.ownsRow B E size v n xs) (hg : g < B) : (w.setCell ⟨g, j, none⟩ u).ownsRow B E size v n xs :=
  h.kept (grown_setCell w g j u) (by
    cases e : v.ownBlock with
    | none => exact .inl rfl
    | some k => exact .inr (by have := (h.lt k e).1; intro e2; cases e2; omega))

theorem msg_new (w : World) (x : MsgM) (T : TypeId) : ∀ j u, (mcells [x])[j]? = some u → (w.alloc (.cells #[.int .i64 x.1, .int .i64 x.2.1, .string x.2.2.1, .int .i64 x.2.2.2] T)).cell? ((⟨w.heap.size, 0, none⟩ : Addr).add j) = some u := by
  refine msgs_src (l := [x]) fun j hj => ?_
  have : j = 0 := by simpa using hj
  subst this
  refine ⟨?_, ?_, ?_, ?_⟩ <;> rw [World.cell?_alloc_at _ _ _ _ rfl] <;> rfl

end Go.Proofs.YtnclkdhaabggkaaDoor

/- A row of messages that comes in, as a source of an append. -/
namespace Go.Proofs.YtnclkdhaabggkaaDoor
open Go.RowKit

theorem msgs_srcAt {w : World} {v : Value} {l : List MsgM} (h : MsgsAt w v l) : SrcAt w v l.length (mcells l) := by
  obtain ⟨a, c, rfl, _, _, h3⟩ := h
  refine ⟨a, c, rfl, ?_⟩
  rcases h3 with h3 | ⟨b, o, ha, hi⟩
  · subst h3
    cases a with
    | none => exact .inl ⟨rfl, rfl, rfl⟩
    | some ad => exact .inr ⟨ad, rfl, fun j u hu => by simp [mcells] at hu⟩
  · exact .inr ⟨_, ha, msgs_src hi⟩

end Go.Proofs.YtnclkdhaabggkaaDoor

/- The walks of impl.PartsOf and impl.TopicOk: is a text a topic? -/
namespace Go.Proofs.YtnclkdhaabggkaaDoor
open Go.RowKit

set_option maxRecDepth 100000 in
set_option maxHeartbeats 800000 in
theorem implTopic_any (s : ByteArray) (m : Int) (w : World) (hs : s.size ≤ 1048576) (hm : w.cell? ⟨0, 0, none⟩ = some (.int .i64 m)) :
    Calls Tryd.prog 53 #[.string s] w fun e w' => e = .returned (.bool (topicP (parts s 47))) ∧ Below w.heap.size w w' := by
  have hpos := parts_pos s 47
  have hple := parts_le s 47
  have hps : Hid (∀ p ∈ parts s 47, p.size ≤ s.size) := Lib.hid (fun p h => parts_size h)
  obtain ⟨l, hl⟩ : ∃ l, parts s 47 = l := ⟨_, rfl⟩
  have hc := implParts_any s m w hs hm
  rw [hl] at hpos hple hps hc ⊢
  clear hl hm
  by_cases h6 : l.length ≤ 6
  · go_enter Tryd.func53, Tryd.ntmps53
    go_wp2_with (go_at_call 55; refine hc.mono ?_; clear hc; rintro e w1 ⟨v, rfl, h1, h2⟩; obtain ⟨g, cap, rfl, hg1, hg2, hcell, _⟩ := row_open h1 hpos; have HC := Lib.hid hcell; have H2 := Lib.hid h2; clear h1 h2 hcell)
    go_loopw [13] (fun i wr => ∃ k : Nat, k ≤ l.length ∧ i = .int .i64 k ∧ Hid ((l.take k).all isWord = true) ∧ Hid (Below w1.heap.size w1 wr)) (fun i _ => l.length - (intOf i).toNat)
    case atStart => exact ⟨0, Nat.zero_le _, rfl, rfl, Below.refl _ _⟩
    case round =>
      obtain ⟨k, hk, rfl, HL, HW⟩ := hrel
      by_cases hlt : k < l.length
      · have hcx : wr.cell? ⟨g, k, none⟩ = some (.string l[k]) := (HW.out.cell hg2).trans (HC.out k hlt)
        have hsz : Hid (l[k].size ≤ maxLen) := Lib.hid (by have := hps.out _ (List.getElem_mem hlt); unfold maxLen; omega)
        cases hw : isWord l[k]
        · have HB := Lib.hid (topicP_bad hlt hw)
          have cw := wordOk_any l[k] wr hsz.out
          rw [hw] at cw
          clear hw
          go_wp2_with (go_at_call 56; refine cw.mono ?_; rintro e w' ⟨rfl, hb⟩)
          go_ret
          exact ⟨ret_bool HB.out.symm, H2.out.trans ((HW.out.trans (hb.mono HW.out.size)).mono H2.out.size)⟩
        · have HN : Hid ((l.take (k + 1)).all isWord = true) := Lib.hid (by rw [all_snoc l k hlt, HL.out, hw]; rfl)
          have cw := wordOk_any l[k] wr hsz.out
          rw [hw] at cw
          clear hw
          go_wp2_with (go_at_call 56; refine cw.mono ?_; rintro e w' ⟨rfl, hb⟩)
          go_roundw
          case rel => exact ⟨k + 1, by omega, by go_num, HN, HW.out.trans (hb.mono HW.out.size)⟩
          case measure => simp [intOf]; omega
      · obtain rfl : k = l.length := by omega
        have HE := Lib.hid (topicP_end HL.out)
        clear HL
        go_wp2
        go_ret
        exact ⟨ret_bool (by rw [HE.out]; grind), H2.out.trans (HW.out.mono H2.out.size)⟩
  · have hf : Hid (topicP l = false) := Lib.hid (by simp [topicP, h6])
    go_enter Tryd.func53, Tryd.ntmps53
    go_wp2_with (go_at_call 55; refine hc.mono ?_; clear hc; rintro e w1 ⟨v, rfl, h1, h2⟩; obtain ⟨g, cap, rfl, hg1, hg2, hcell, _⟩ := row_open h1 hpos; have HC := Lib.hid hcell; have H2 := Lib.hid h2; clear h1 h2 hcell)
    go_ret
    exact ⟨ret_bool hf.out.symm, H2.out⟩

end Go.Proofs.YtnclkdhaabggkaaDoor

/- The walk of a right message: it embeds where it is from. -/
namespace Go.Proofs.YtnclkdhaabggkaaDoor
open Go.RowKit

theorem implTask_any (f : Int) (w : World) :
    Calls Tryd.prog 52 #[.int .i64 f] w fun e w' => e = .returned (.bool (decide (0 ≤ f) && decide (f ≤ 7))) ∧ w' = w := by
  by_cases h1 : 0 ≤ f
  · have g1 : decide (0 ≤ f) = true := decide_eq_true h1
    have g2 : decide (f ≤ 7) = decide (f < 8) := by congr 1; simp; omega
    go_enter Tryd.func52, Tryd.ntmps52
    go_wp2
    go_ret
    exact ⟨ret_bool (by rw [g1, g2]; simp), rfl⟩
  · have g1 : decide (0 ≤ f) = false := decide_eq_false h1
    go_enter Tryd.func52, Tryd.ntmps52
    go_wp2
    go_ret
    exact ⟨ret_bool rfl, rfl⟩

theorem implBody_any (f : Int) (w : World) :
    Calls Tryd.prog 54 #[.int .i64 f] w fun e w' => e = .returned (.bool (decide (0 ≤ f) && decide (f ≤ 9999))) ∧ w' = w := by
  by_cases h1 : 0 ≤ f
  · have g1 : decide (0 ≤ f) = true := decide_eq_true h1
    go_enter Tryd.func54, Tryd.ntmps54
    go_wp2
    go_ret
    exact ⟨ret_bool (by rw [g1]; simp), rfl⟩
  · have g1 : decide (0 ≤ f) = false := decide_eq_false h1
    go_enter Tryd.func54, Tryd.ntmps54
    go_wp2
    go_ret
    exact ⟨ret_bool rfl, rfl⟩

set_option maxRecDepth 100000 in
set_option maxHeartbeats 1600000 in
theorem messageOf_any (x : MsgM) (w : World) :
    Calls Tryd.prog 49 #[magg x] w fun e w' => e = .returned (magg x) ∧ Below w.heap.size w w' := by
  obtain ⟨q, f, p, d⟩ := x
  go_enter Tryd.func49, Tryd.ntmps49
  go_wp2
  refine bodyPost_ret (results_cell_row rfl _ _ (w.heap.size + 1) _ _ _ _ rfl (heap_alloc2_new _ _ _) Tryd.underlying78 rfl (by kernel_rfl)) rfl ?_
  exact ⟨rfl, ((Below.refl _ _).alloc (Nat.le_refl _) _).alloc (by simp) _⟩

set_option maxRecDepth 100000 in
set_option maxHeartbeats 1600000 in
theorem isRight_any (x : MsgM) (m : Int) (w : World) (hs : x.2.2.1.size ≤ 1048576) (hm : w.cell? ⟨0, 0, none⟩ = some (.int .i64 m)) :
    Calls Tryd.prog 50 #[magg x] w fun e w' => e = .returned (.bool (msgB x)) ∧ Below w.heap.size w w' := by
  obtain ⟨q, f, p, d⟩ := x
  dsimp only at hs
  have C2 := Lib.hid (fun w' => implTask_any f w')
  have C3 := Lib.hid (fun w' hm => implTopic_any p m w' hs hm)
  have C4 := Lib.hid (fun w' => implBody_any d w')
  have HB : Hid (msgB (q, f, p, d) = ((decide (1 ≤ q) && decide (q ≤ 100000)) && (decide (0 ≤ f) && decide (f ≤ 7)) && topicP (parts p 47) && (decide (0 ≤ d) && decide (d ≤ 9999)))) := rfl
  generalize (decide (0 ≤ f) && decide (f ≤ 7)) = b2 at C2 HB
  generalize topicP (parts p 47) = b3 at C3 HB
  generalize (decide (0 ≤ d) && decide (d ≤ 9999)) = b4 at C4 HB
  have HM := Lib.hid hm
  clear hs hm
  go_enter Tryd.func50, Tryd.ntmps50
  by_cases h1 : 1 ≤ q
  · by_cases h2 : q ≤ 100000
    · have g1 : decide (1 ≤ q) = true := decide_eq_true h1
      have g2 : decide (q ≤ 100000) = true := decide_eq_true h2
      go_wp2_with fail
      refine (C2.out _).mono ?_
      rintro e w1 ⟨rfl, rfl⟩
      cases b2
      · go_wp2
        go_ret
        exact ⟨ret_bool (by rw [HB.out]; simp), (Below.refl _ _).alloc (Nat.le_refl _) _⟩
      go_wp2_with fail
      have b0 : Below w.heap.size w (w.alloc (.cells #[.int .i64 q, .int .i64 f, .string p, .int .i64 d] 78)) := (Below.refl _ _).alloc (Nat.le_refl _) _
      have s0 : w.heap.size < (w.alloc (.cells #[.int .i64 q, .int .i64 f, .string p, .int .i64 d] 78)).heap.size := by simp
      have c0 : (w.alloc (.cells #[.int .i64 q, .int .i64 f, .string p, .int .i64 d] 78)).cell? ⟨w.heap.size, 3, none⟩ = some (.int .i64 d) := by rw [World.cell?_alloc_at _ _ _ _ rfl]; rfl
      have HM0 := Lib.hid ((b0.cell (World.block_lt_of_cell? _ _ HM.out)).trans HM.out)
      generalize w.alloc (.cells #[.int .i64 q, .int .i64 f, .string p, .int .i64 d] 78) = w0 at b0 s0 c0 HM0 ⊢
      refine (C3.out _ HM0.out).mono ?_
      rintro e w1 ⟨rfl, hb⟩
      have c1 := (below_cell hb s0).trans c0
      have B1 := Lib.hid (b0.trans (hb.mono b0.size))
      clear b0 s0 c0 hb
      cases b3
      · go_wp2
        go_ret
        exact ⟨ret_bool (by rw [HB.out]; simp), B1.out⟩
      go_wp2_with fail
      refine (C4.out _).mono ?_
      rintro e w2 ⟨rfl, rfl⟩
      go_wp2
      go_ret
      exact ⟨ret_bool (by rw [HB.out, decide_eq_true h1, decide_eq_true h2]; simp), B1.out⟩
    · have g1 : decide (1 ≤ q) = true := decide_eq_true h1
      have g2 : decide (q ≤ 100000) = false := decide_eq_false h2
      go_wp2
      go_ret
      exact ⟨ret_bool (by rw [HB.out, g2]; simp), (Below.refl _ _).alloc (Nat.le_refl _) _⟩
  · have g1 : decide (1 ≤ q) = false := decide_eq_false h1
    go_wp2
    go_ret
    exact ⟨ret_bool (by rw [HB.out, g1]; simp), (Below.refl _ _).alloc (Nat.le_refl _) _⟩

end Go.Proofs.YtnclkdhaabggkaaDoor

/- The walk of impl.MsgOk. -/
namespace Go.Proofs.YtnclkdhaabggkaaDoor
open Go.RowKit

set_option maxRecDepth 100000 in
set_option maxHeartbeats 800000 in
theorem implMsgOk_any (x : MsgM) (m : Int) (w : World) (hs : x.2.2.1.size ≤ 1048576) (hm : w.cell? ⟨0, 0, none⟩ = some (.int .i64 m)) :
    Calls Tryd.prog 45 #[magg x] w fun e w' => e = .returned (.bool (msgB x)) ∧ Below w.heap.size w w' := by
  have C1 := Lib.hid (fun w' => messageOf_any x w')
  have C2 := Lib.hid (fun w' hm => isRight_any x m w' hs hm)
  have HM := Lib.hid hm
  generalize msgB x = b at C2 ⊢
  obtain ⟨q, f, p, d⟩ := x
  clear hs hm
  go_enter Tryd.func45, Tryd.ntmps45
  go_wp2_with fail
  have b0 : Below w.heap.size w (w.alloc (.cells #[.int .i64 q, .int .i64 f, .string p, .int .i64 d] 30)) := (Below.refl _ _).alloc (Nat.le_refl _) _
  have HM0 := Lib.hid ((b0.cell (World.block_lt_of_cell? _ _ HM.out)).trans HM.out)
  generalize w.alloc (.cells #[.int .i64 q, .int .i64 f, .string p, .int .i64 d] 30) = w0 at b0 HM0 ⊢
  refine (C1.out _).mono ?_
  rintro e w1 ⟨rfl, hb1⟩
  have HM1 := Lib.hid ((hb1.cell (World.block_lt_of_cell? _ _ HM0.out)).trans HM0.out)
  have HB1 := Lib.hid (b0.trans (hb1.mono b0.size))
  clear b0 hb1
  go_wp2_with fail
  refine (C2.out _ HM1.out).mono ?_
  rintro e w2 ⟨rfl, hb2⟩
  have HB2 := Lib.hid (below_end HB1.out hb2)
  go_wp2
  go_ret
  exact ⟨rfl, HB2.out⟩

end Go.Proofs.YtnclkdhaabggkaaDoor

/- Plain mathematics of chapter 3: a right trie. -/
namespace Go.Proofs.YtnclkdhaabggkaaDoor

/-- a is ahead of b, or b itself. -/
def leB (a b : ByteArray) : Bool := Op.bytesLess a.toList b.toList || a.toList == b.toList

def knot0 : KnotM := (⟨#[]⟩, [])

/-- Is the k-th knot as it should be? -/
def knotOk (l : List KnotM) (p q : KnotM) : Bool :=
  !(leB q.1 p.1) && (filterP (parts q.1 47) && (rises q.2 && (decide (0 ≤ find l (above q.1)) && (!(q.2.isEmpty) || childB l q.1))))

def knotsTo (l : List KnotM) (k : Nat) : Bool := (List.range k).all fun j => decide (j = 0) || knotOk l (l.getD (j - 1) knot0) (l.getD j knot0)

def headOk (l : List KnotM) : Bool := match l with
  | [] => false
  | x :: _ => x.1.toList == [] && x.2.isEmpty

/-- 'TrieOk'. -/
def trieB (l : List KnotM) : Bool := headOk l && knotsTo l l.length

theorem knotsTo_succ (l : List KnotM) (k : Nat) : knotsTo l (k + 1) = (knotsTo l k && (decide (k = 0) || knotOk l (l.getD (k - 1) knot0) (l.getD k knot0))) := by
  unfold knotsTo; rw [List.range_succ, List.all_append]; simp

theorem knot_at {l : List KnotM} {k : Nat} (h : k < l.length) : l.getD k knot0 = l[k] := by rw [List.getD_eq_getElem?_getD, List.getElem?_eq_getElem h]; rfl

theorem knotsTo_next {l : List KnotM} {k : Nat} (h1 : 1 ≤ k) (h : k < l.length) (hl : knotsTo l k = true) (hk : knotOk l (l[k - 1]'(by omega)) l[k] = true) : knotsTo l (k + 1) = true := by
  rw [knotsTo_succ, hl, knot_at (by omega), knot_at h, hk]; simp

theorem knotsTo_bad {l : List KnotM} {k : Nat} (h1 : 1 ≤ k) (h : k < l.length) (hk : knotOk l (l[k - 1]'(by omega)) l[k] = false) : trieB l = false := by
  cases e : trieB l
  · rfl
  · unfold trieB at e
    rw [Bool.and_eq_true] at e
    have e2 := e.2
    unfold knotsTo at e2
    rw [List.all_eq_true] at e2
    have := e2 k (List.mem_range.2 h)
    rw [knot_at (by omega), knot_at h, hk, decide_eq_false (by omega)] at this
    cases this

end Go.Proofs.YtnclkdhaabggkaaDoor

/- Plain mathematics of chapter 6: what is kept. -/
namespace Go.Proofs.YtnclkdhaabggkaaDoor

/-- May message k stand behind the one ahead of it in a keep? -/
def keepNext (l : List MsgM) (k : Nat) (h : k < l.length) : Bool := msgB l[k] && (!(l[k].2.2.2 == 0) && (decide (k = 0) || !(leB l[k].2.2.1 (l[k - 1]'(by omega)).2.2.1)))
def keepTo (l : List MsgM) (k : Nat) : Bool := (List.range k).all fun j => if h : j < l.length then keepNext l j h else true
/-- 'KeepOk'. -/
def keepB (l : List MsgM) : Bool := keepTo l l.length && decide (l.length ≤ 24)

theorem keepTo_succ (l : List MsgM) (k : Nat) (h : k < l.length) : keepTo l (k + 1) = (keepTo l k && keepNext l k h) := by
  unfold keepTo; rw [List.range_succ, List.all_append]; simp [h]

theorem keepTo_bad {l : List MsgM} {k : Nat} (h : k < l.length) (hb : keepNext l k h = false) : keepB l = false := by
  cases e : keepB l
  · rfl
  · unfold keepB keepTo at e
    rw [Bool.and_eq_true] at e
    have e2 := e.1
    rw [List.all_eq_true] at e2
    have := e2 k (List.mem_range.2 h)
    rw [dif_pos h, hb] at this; cases this

/-! ### 'Kept' -/

def sameT (a b : ByteArray) : Bool := a.toList == b.toList

/-- Laid ahead of the first one whose topic is not less. -/
def keptPut (m : MsgM) (s : List MsgM × Bool) (x : MsgM) : List MsgM × Bool := if !s.2 && leB m.2.2.1 x.2.2.1 then (s.1 ++ [m], true) else s
def keptStep (m : MsgM) (s : List MsgM × Bool) (x : MsgM) : List MsgM × Bool := if sameT x.2.2.1 m.2.2.1 then keptPut m s x else ((keptPut m s x).1 ++ [x], (keptPut m s x).2)
def keptTo (m : MsgM) (l : List MsgM) (k : Nat) : List MsgM × Bool := (l.take k).foldl (keptStep m) ([], m.2.2.2 == 0)
def keptOut (l : List MsgM) (m : MsgM) : List MsgM := if (keptTo m l l.length).2 then (keptTo m l l.length).1 else (keptTo m l l.length).1 ++ [m]
def keptM (l : List MsgM) (m : MsgM) : List MsgM × Bool :=
  if keepB l then (if msgB m then (if 24 < (keptOut l m).length then (l, false) else (keptOut l m, true)) else (l, false)) else ([], false)

theorem keptTo_succ (m : MsgM) (l : List MsgM) (k : Nat) (h : k < l.length) : keptTo m l (k + 1) = keptStep m (keptTo m l k) l[k] := by
  unfold keptTo; rw [List.take_succ_eq_append_getElem h, List.foldl_append]; rfl

theorem keptStep_len (m : MsgM) (s : List MsgM × Bool) (x : MsgM) : (keptStep m s x).1.length ≤ s.1.length + 2 := by
  have h : (keptPut m s x).1.length ≤ s.1.length + 1 := by unfold keptPut; split <;> simp
  unfold keptStep
  split
  · omega
  · rw [List.length_append]; simp; omega

theorem keptTo_len (m : MsgM) (l : List MsgM) : ∀ k, k ≤ l.length → (keptTo m l k).1.length ≤ 2 * k
  | 0, _ => by simp [keptTo]
  | k + 1, h => by
    rw [keptTo_succ m l k (by omega)]
    have := keptTo_len m l k (by omega)
    have := keptStep_len m (keptTo m l k) l[k]
    omega

theorem keptM_len (l : List MsgM) (m : MsgM) : (keptM l m).1.length ≤ l.length + 24 := by
  unfold keptM
  split
  · split
    · split
      · simp
      · dsimp only; omega
    · simp
  · simp

/-! ### 'KeptFor' -/

/-- Where x goes among those that are there: behind the last one whose Seq is not more. -/
def posM (out : List MsgM) (q : Int) : Nat → Nat
  | 0 => 0
  | k + 1 => if q < (out.getD k (0, 0, ⟨#[]⟩, 0)).1 then posM out q k else k + 1
def putSeq (out : List MsgM) (x : MsgM) : List MsgM := out.take (posM out x.1 out.length) ++ [x] ++ out.drop (posM out x.1 out.length)
def forTo (f : ByteArray) (l : List MsgM) (k : Nat) : List MsgM := (l.take k).foldl (fun out x => if matchB f x.2.2.1 then putSeq out x else out) []
def forM (l : List MsgM) (f : ByteArray) : List MsgM := if keepB l then forTo f l l.length else []

theorem posM_le (out : List MsgM) (q : Int) : ∀ k, posM out q k ≤ k
  | 0 => Nat.le_refl _
  | k + 1 => by unfold posM; split; have := posM_le out q k; omega; omega

theorem putSeq_len (out : List MsgM) (x : MsgM) : (putSeq out x).length = out.length + 1 := by
  have := posM_le out x.1 out.length
  unfold putSeq; simp; omega

theorem forTo_succ (f : ByteArray) (l : List MsgM) (k : Nat) (h : k < l.length) : forTo f l (k + 1) = if matchB f l[k].2.2.1 then putSeq (forTo f l k) l[k] else forTo f l k := by
  unfold forTo; rw [List.take_succ_eq_append_getElem h, List.foldl_append]; rfl

theorem forTo_len (f : ByteArray) (l : List MsgM) : ∀ k, k ≤ l.length → (forTo f l k).length ≤ k
  | 0, _ => by simp [forTo]
  | k + 1, h => by
    rw [forTo_succ f l k (by omega)]
    have := forTo_len f l k (by omega)
    split
    · rw [putSeq_len]; omega
    · omega

theorem forM_len (l : List MsgM) (f : ByteArray) : (forM l f).length ≤ l.length := by
  unfold forM; split
  · exact forTo_len f l _ (Nat.le_refl _)
  · simp

end Go.Proofs.YtnclkdhaabggkaaDoor

/- Boxes: how they lie in memory; when they are right; what is offered to them. -/
namespace Go.Proofs.YtnclkdhaabggkaaDoor
open Go.RowKit

structure BoxM where
  cap : Int
  pol : Int
  q : List MsgM
  ofr : Int
  rcv : Int
  drp : Int
  mrg : Int
  shut : Bool

/-- The cells of a box whose queue is the value u. -/
abbrev bcells (b : BoxM) (u : Value) : Array Value := #[.int .i64 b.cap, .int .i64 b.pol, u, .int .i64 b.ofr, .int .i64 b.rcv, .int .i64 b.drp, .int .i64 b.mrg, .bool b.shut]
abbrev bagg (b : BoxM) (u : Value) : Value := .agg #[.int .i64 b.cap, .int .i64 b.pol, u, .int .i64 b.ofr, .int .i64 b.rcv, .int .i64 b.drp, .int .i64 b.mrg, .bool b.shut]
theorem bcells_one (b : BoxM) (a : Option Addr) (n c : Nat) : (bcells b (.slice a n c)).all (·.oneCell') = true := by simp [Value.oneCell']
def zeroBox : BoxM := ⟨0, 0, [], 0, 0, 0, 0, false⟩

/-- Is the box right, its queue's messages aside? -/
def boxN (b : BoxM) : Bool := inB b.cap 1 16 && inB b.pol 1 4 && decide ((b.q.length : Int) ≤ b.cap) && inB b.ofr 0 100000 && inB b.rcv 0 100000 && inB b.drp 0 100000 && inB b.mrg 0 100000
def msgsAll (l : List MsgM) : Bool := l.all msgB
def boxB (b : BoxM) : Bool := boxN b && (msgsAll b.q && decide (b.ofr = b.rcv + b.q.length + b.drp + b.mrg))

/-- Where one of that topic is, of those from k on. -/
def sameAt (l : List MsgM) (t : ByteArray) : Nat → Nat → Option Nat
  | _, 0 => none
  | k, n + 1 => if sameT ((l.getD k (0, 0, ⟨#[]⟩, 0)).2.2.1) t then some k else sameAt l t (k + 1) n
def sameQ (b : BoxM) (t : ByteArray) : Option Nat := if b.pol = 4 then sameAt b.q t 0 b.q.length else none

/-- OfferedTo: the box, the code. -/
def offerM (b : BoxM) (m : MsgM) : BoxM × Int :=
  if boxB b then
    if !(msgB m) || decide (100000 ≤ b.ofr) then (b, 6)
    else if b.shut then (b, 1)
    else match sameQ b m.2.2.1 with
      | some i => ({ b with q := b.q.set i m, ofr := b.ofr + 1, mrg := b.mrg + 1 }, 2)
      | none =>
        if (b.q.length : Int) = b.cap then
          if b.pol = 1 then (b, 3)
          else if b.pol = 3 then ({ b with ofr := b.ofr + 1, drp := b.drp + 1 }, 4)
          else ({ b with q := b.q.drop 1 ++ [m], ofr := b.ofr + 1, drp := b.drp + 1 }, 5)
        else ({ b with q := b.q ++ [m], ofr := b.ofr + 1 }, 0)
  else (zeroBox, 6)

/-- TakenFrom: the box, the message, whether there was one. -/
def takeM (b : BoxM) : BoxM × MsgM × Bool :=
  if boxB b then
    match b.q with
    | [] => (b, (0, 0, ⟨#[]⟩, 0), false)
    | x :: l => ({ b with q := l, rcv := b.rcv + 1 }, x, true)
  else (zeroBox, (0, 0, ⟨#[]⟩, 0), false)

def shutM (b : BoxM) : BoxM := if boxB b then { b with shut := true } else zeroBox
def endB (b : BoxM) : Bool := boxB b && b.shut && b.q.isEmpty

theorem boxB_len {b : BoxM} (h : boxB b = true) : b.q.length ≤ 16 ∧ (b.q.length : Int) ≤ b.cap ∧ ∀ x ∈ b.q, msgB x = true := by
  unfold boxB boxN inB at h
  simp only [Bool.and_eq_true, decide_eq_true_eq] at h
  refine ⟨by omega, by omega, ?_⟩
  have := h.2.1
  unfold msgsAll at this
  rw [List.all_eq_true] at this
  exact this

theorem offerM_len (b : BoxM) (m : MsgM) : (offerM b m).1.q.length ≤ b.q.length + 1 := by
  unfold offerM
  split
  · split
    · simp
    · split
      · simp
      · split
        · simp
        · split
          · split
            · simp
            · split
              · simp
              · simp
          · simp
  · simp [zeroBox]

theorem takeM_len (b : BoxM) : (takeM b).1.q.length ≤ b.q.length := by
  unfold takeM
  split
  · split
    · simp
    · rename_i h; rw [h]; simp
  · simp [zeroBox]

/-! ### Boxed -/

/-- The box lies in block B. -/
def BBox (w : World) (B : Nat) (T : TypeId) (b : BoxM) (u : Value) : Prop := w.heap[B]? = some (.cells (bcells b u) T (0, 0))
theorem BBox.new (w : World) (T : TypeId) (b : BoxM) (u : Value) : BBox (w.alloc (.cells (bcells b u) T)) w.heap.size T b u := heap_alloc_new _ _
theorem BBox.lt {w : World} {B : Nat} {T : TypeId} {b : BoxM} {u : Value} (h : BBox w B T b u) : B < w.heap.size := (Array.getElem?_eq_some_iff.1 h).1
theorem BBox.below {w w' : World} {B : Nat} {T : TypeId} {b : BoxM} {u : Value} (h : BBox w B T b u) (hb : Below w.heap.size w w') : BBox w' B T b u := (hb.block B h.lt).trans h
theorem BBox.grown {w w' : World} {B g : Nat} {T : TypeId} {b : BoxM} {u : Value} (h : BBox w B T b u) (hg : w.grownBy w' (some g)) (hne : B ≠ g) : BBox w' B T b u := (hg.block B h.lt (fun e => hne (by cases e; rfl))).trans h
theorem BBox.cells {w : World} {B : Nat} {T : TypeId} {b : BoxM} {u : Value} (h : BBox w B T b u) :
    w.cell? ⟨B, 0, none⟩ = some (.int .i64 b.cap) ∧ w.cell? ⟨B, 1, none⟩ = some (.int .i64 b.pol) ∧ w.cell? ⟨B, 2, none⟩ = some u ∧ w.cell? ⟨B, 3, none⟩ = some (.int .i64 b.ofr) ∧
    w.cell? ⟨B, 4, none⟩ = some (.int .i64 b.rcv) ∧ w.cell? ⟨B, 5, none⟩ = some (.int .i64 b.drp) ∧ w.cell? ⟨B, 6, none⟩ = some (.int .i64 b.mrg) ∧ w.cell? ⟨B, 7, none⟩ = some (.bool b.shut) :=
  ⟨cell_of_heap h 0, cell_of_heap h 1, cell_of_heap h 2, cell_of_heap h 3, cell_of_heap h 4, cell_of_heap h 5, cell_of_heap h 6, cell_of_heap h 7⟩
theorem BBox.fr {w : World} {B : Nat} {T : TypeId} {b : BoxM} {u : Value} (h : BBox w B T b u) (j : Nat) : w.frozen? ⟨B, j, none⟩ = false := frozen_of_row _ _ _ _ _ h
theorem BBox.off_row {w : World} {B : Nat} {T : TypeId} {b : BoxM} {u : Value} {B0 n : Nat} {v : Value} {xs : List Value} (h : BBox w B T b u) (hT : T ≠ 30) (ho : w.ownsRow B0 30 4 v n xs) : v.ownBlock ≠ some B := by
  rcases ho.2 with ⟨rfl, _⟩ | ⟨g, cap, cur, rfl, _, h3, _⟩
  · intro e; cases e
  · intro e
    have e2 : g = B := by cases e; rfl
    subst e2
    rw [h] at h3
    cases h3
    exact hT rfl

end Go.Proofs.YtnclkdhaabggkaaDoor

/- Boxes that come in as arguments: what their cells hold. -/
namespace Go.Proofs.YtnclkdhaabggkaaDoor
open Go.ChangeShapes Go.WideShapes Go.RowKit Go.Deep

section
variable {H : Type} {enc : TypeId × Value → H} {P : Program} {w : World} {base : Nat} {spare : Nat → Bool} {held : Bool}

theorem trod_struct8 {t : TypeId} {f0 f1 f2 f3 f4 f5 f6 f7 : Field} {fuel : Nat} {cs : List Value} {x : DataW H × List MemPlace} (ht : P.underlying t = some (.struct #[f0, f1, f2, f3, f4, f5, f6, f7])) (h : DataW.trod enc P w base spare held fuel t cs = some x) :
    ∃ n, cs.length = P.cellsOf t ∧ ∀ (j : Nat) (f : Field), [f0, f1, f2, f3, f4, f5, f6, f7][j]? = some f → ∃ y, DataW.trod enc P w base spare held n f.type ((cs.drop f.offset).take (P.cellsOf f.type)) = some y := by
  obtain ⟨xs, n, _, rfl, hl, hlen, hf⟩ := DataW.trod_struct ht h
  match xs, hlen with
  | [y0, y1, y2, y3, y4, y5, y6, y7], _ =>
    refine ⟨n, hl, fun j f hj => ?_⟩
    match j with
    | 0 => cases hj; exact ⟨y0, by simpa using hf 0 f0 rfl⟩
    | 1 => cases hj; exact ⟨y1, by simpa using hf 1 f1 rfl⟩
    | 2 => cases hj; exact ⟨y2, by simpa using hf 2 f2 rfl⟩
    | 3 => cases hj; exact ⟨y3, by simpa using hf 3 f3 rfl⟩
    | 4 => cases hj; exact ⟨y4, by simpa using hf 4 f4 rfl⟩
    | 5 => cases hj; exact ⟨y5, by simpa using hf 5 f5 rfl⟩
    | 6 => cases hj; exact ⟨y6, by simpa using hf 6 f6 rfl⟩
    | 7 => cases hj; exact ⟨y7, by simpa using hf 7 f7 rfl⟩
    | j + 8 => simp at hj

theorem box_read {tr tt t ti ts tb : TypeId} {g0 g1 g2 g3 g4 g5 g6 g7 f0 f1 f2 f3 : Field} {fuel : Nat} {cs : List Value} {x : DataW H × List MemPlace} (hr : P.underlying tr = some (.struct #[g0, g1, g2, g3, g4, g5, g6, g7])) (hR : P.cellsOf tr = 8)
    (hg0 : g0.type = ti ∧ g0.offset = 0) (hg1 : g1.type = ti ∧ g1.offset = 1) (hg2 : g2.type = tt ∧ g2.offset = 2) (hg3 : g3.type = ti ∧ g3.offset = 3) (hg4 : g4.type = ti ∧ g4.offset = 4) (hg5 : g5.type = ti ∧ g5.offset = 5) (hg6 : g6.type = ti ∧ g6.offset = 6) (hg7 : g7.type = tb ∧ g7.offset = 7)
    (hctt : P.cellsOf tt = 1) (hb : P.underlying tb = some .bool) (hcb : P.cellsOf tb = 1)
    (htt : P.underlying tt = some (.slice t)) (ht : P.underlying t = some (.struct #[f0, f1, f2, f3])) (hC : P.cellsOf t = 4)
    (h0 : f0.type = ti ∧ f0.offset = 0) (h1 : f1.type = ti ∧ f1.offset = 1) (h2 : f2.type = ts ∧ f2.offset = 2) (h3 : f3.type = ti ∧ f3.offset = 3)
    (hi : P.underlying ti = some (.int .i64)) (hci : P.cellsOf ti = 1) (hs : P.underlying ts = some .string) (hcs : P.cellsOf ts = 1)
    (h : DataW.trod enc P w base spare held fuel tr cs = some x) : ∃ (b : BoxM) (v : Value), cs = (bcells b v).toList ∧ MsgsAt w v b.q ∧ ∀ y ∈ b.q, y.2.2.1.size ≤ maxLen := by
  obtain ⟨n, hl, hf⟩ := trod_struct8 hr h
  rw [hR] at hl
  match cs, hl with
  | [c0, c1, c2, c3, c4, c5, c6, c7], _ =>
    obtain ⟨y0, q0⟩ := hf 0 g0 rfl
    obtain ⟨y1, q1⟩ := hf 1 g1 rfl
    obtain ⟨y2, q2⟩ := hf 2 g2 rfl
    obtain ⟨y3, q3⟩ := hf 3 g3 rfl
    obtain ⟨y4, q4⟩ := hf 4 g4 rfl
    obtain ⟨y5, q5⟩ := hf 5 g5 rfl
    obtain ⟨y6, q6⟩ := hf 6 g6 rfl
    obtain ⟨y7, q7⟩ := hf 7 g7 rfl
    rw [hg0.1, hg0.2, hci] at q0
    rw [hg1.1, hg1.2, hci] at q1
    rw [hg2.1, hg2.2, hctt] at q2
    rw [hg3.1, hg3.2, hci] at q3
    rw [hg4.1, hg4.2, hci] at q4
    rw [hg5.1, hg5.2, hci] at q5
    rw [hg6.1, hg6.2, hci] at q6
    rw [hg7.1, hg7.2, hcb] at q7
    obtain ⟨z0, e0, _, _⟩ := DataW.trod_int hi q0
    obtain ⟨z1, e1, _, _⟩ := DataW.trod_int hi q1
    obtain ⟨v, l, e2, hv, hsz⟩ := msgs_read htt ht hC h0 h1 h2 h3 hi hci hs hcs q2
    obtain ⟨z3, e3, _, _⟩ := DataW.trod_int hi q3
    obtain ⟨z4, e4, _, _⟩ := DataW.trod_int hi q4
    obtain ⟨z5, e5, _, _⟩ := DataW.trod_int hi q5
    obtain ⟨z6, e6, _, _⟩ := DataW.trod_int hi q6
    obtain ⟨z7, e7, _⟩ := DataW.trod_bool hb q7
    simp only [List.drop_zero, List.take_succ_cons, List.take_zero, List.cons.injEq, and_true, List.drop_succ_cons] at e0 e1 e2 e3 e4 e5 e6 e7
    subst e0 e1 e2 e3 e4 e5 e6 e7
    exact ⟨⟨z0, z1, l, z3, z4, z5, z6, z7⟩, _, rfl, hv, hsz⟩

end

end Go.Proofs.YtnclkdhaabggkaaDoor

/- The walks of the program's copy of a box, and of its counts. -/
namespace Go.Proofs.YtnclkdhaabggkaaDoor
open Go.RowKit

/-- A call's box, and its answer's. -/
structure Two (w wx : World) (b : BoxM) (v : Value) : Prop where
  box : wx.heap[w.heap.size]? = some (.cells (bcells b v) 28 (0, 0))
  res : wx.heap[w.heap.size + 1]? = some (.cells (bcells zeroBox (.slice none 0 0)) 28 (0, 0))
  since : Below w.heap.size w wx
theorem Two.new (w : World) (b : BoxM) (v : Value) : Two w ((w.alloc (.cells (bcells b v) 28)).alloc (.cells (bcells zeroBox (.slice none 0 0)) 28)) b v := by
  have s1 : (w.alloc (.cells (bcells b v) 28)).heap.size = w.heap.size + 1 := by simp
  refine ⟨?_, ?_, ((Below.refl _ _).alloc (Nat.le_refl _) _).alloc (by simp) _⟩
  · rw [Below.heap_alloc _ _ _ (by omega)]; exact heap_alloc_new _ _
  · rw [← s1]; exact heap_alloc_new _ _
theorem Two.lt {w wx : World} {b : BoxM} {v : Value} (h : Two w wx b v) : w.heap.size + 1 < wx.heap.size := (Array.getElem?_eq_some_iff.1 h.res).1
theorem Two.below {w wx wy : World} {b : BoxM} {v : Value} (h : Two w wx b v) (hb : Below wx.heap.size wx wy) : Two w wy b v := by
  have := h.lt
  exact ⟨(hb.block _ (by omega)).trans h.box, (hb.block _ (by omega)).trans h.res, h.since.trans (hb.mono h.since.size)⟩
theorem Two.set {w wx : World} {b : BoxM} {v : Value} (h : Two w wx b v) (j : Nat) (x : Value) (b' : BoxM) (v' : Value) (hc : (bcells b v).setIfInBounds j x = bcells b' v') :
    Two w (wx.setCell ⟨w.heap.size, j, none⟩ x) b' v' := by
  have hg := grown_setCell wx w.heap.size j x
  have hl := h.lt
  refine ⟨by rw [← hc]; exact heap_setCell_same _ _ j _ _ x h.box, (hg.block _ hl (fun e => by injection e with e; omega)).trans h.res, h.since.trans (below_of_grown hg (Nat.le_refl _) h.since.size)⟩
theorem two_end {w wx : World} {b : BoxM} {v : Value} (h : Two w wx b v) (cs : Array Value) :
    (wx.setRow (w.heap.size + 1) cs).heap[w.heap.size + 1]? = some (.cells cs 28 (0, 0)) ∧ Below w.heap.size w (wx.setRow (w.heap.size + 1) cs) :=
  ⟨setRow_heap cs h.res, h.since.trans (below_of_grown (grown_setRow wx (w.heap.size + 1) cs) (by omega) h.since.size)⟩

set_option maxRecDepth 100000 in
set_option maxHeartbeats 1600000 in
theorem ownBox_any (b : BoxM) (v : Value) (w : World) (hl : b.q.length ≤ 2000000) (hv : MsgsAt w v b.q) :
    Calls Tryd.prog 23 #[bagg b v] w fun e w' => ∃ u, e = .returned (bagg b u) ∧ MOwn w' w.heap.size u b.q ∧ Below w.heap.size w w' := by
  have HS := Lib.hid (fun wx (hb : Below w.heap.size w wx) => msgs_srcAt (hv.below hb))
  obtain ⟨ua, uc, rfl, _, _, _⟩ := hv
  obtain ⟨i, hi, hz0, hz1, hz2⟩ := msg_info
  have HL := Lib.hid (mcells_length b.q)
  go_enter Tryd.func23, Tryd.ntmps23
  go_upto_region 1 with (fail)
  have T1 := Two.new w b (.slice ua b.q.length uc)
  change Code.wp _ _ _ _ ((w.alloc (.cells (bcells b (.slice ua b.q.length uc)) 28)).alloc (.cells (bcells zeroBox (.slice none 0 0)) 28))
  generalize ((w.alloc (.cells (bcells b (.slice ua b.q.length uc)) 28)).alloc (.cells (bcells zeroBox (.slice none 0 0)) 28)) = w1 at T1 ⊢
  have x2 : w1.cell? ⟨w.heap.size, 2, none⟩ = some (.slice ua b.q.length uc) := cell_of_heap T1.box 2
  go_upto_region 2 with (at_builtin; refine wpList_append_src rfl _ _ 26 rfl w1.heap.size 30 i (.agg #[.int .i64 0, .int .i64 0, .string ⟨#[]⟩, .int .i64 0]) 4 40 Tryd.underlying26 hi hz0 hz1 hz2 rfl (by decide) (.slice none 0 0) (.slice ua b.q.length uc) 0 b.q.length [] (mcells b.q) rfl (World.ownsRow_nil _ _ _ _) rfl (HS.out _ T1.since) HL.out (mcells_one b.q) (by unfold maxLen; omega) (by omega) (Nat.le_refl _) ?_; intro v' w2 hown hgr _; rw [Nat.zero_add, List.nil_append] at hown; obtain ⟨ra, rc, hv'⟩ := own_slice hown; subst hv'; have T2 := T1.below ((Below.refl w1.heap.size w1).grown hgr (Nat.le_refl _) (fun k h => by cases h)); have HLT := T1.lt; have x3 : w2.cell? ⟨w.heap.size, 2, none⟩ = some (.slice ua b.q.length uc) := cell_of_heap T2.box 2; have f3 : w2.frozen? ⟨w.heap.size, 2, none⟩ = false := frozen_of_row _ _ _ _ _ T2.box; clear T1 x2 hgr)
  have T3 := T2.set 2 (.slice ra b.q.length rc) b (.slice ra b.q.length rc) rfl
  have O3 := own_mono (own_grownN hown (show w.heap.size < w1.heap.size by omega) (grown_setCell w2 w.heap.size 2 (.slice ra b.q.length rc))) (A := w.heap.size + 1 + 1) (by omega)
  generalize w2.setCell ⟨w.heap.size, 2, none⟩ (.slice ra b.q.length rc) = w3 at T3 O3 ⊢
  clear T2 hown HLT x3 f3
  go_wp2_with (first
    | refine wpList_load_row rfl 28 (.tmp 1) rfl w.heap.size rfl 28 (bcells b (.slice ra b.q.length rc)) (0, 0) _ T3.box Tryd.underlying28 rfl (by kernel_rfl) ?_
    | refine wpList_store_rowTo rfl 28 (.tmp 2) (.tmp 7) rfl rfl (w.heap.size + 1) (bcells b (.slice ra b.q.length rc)) rfl rfl 28 _ T3.res (by kernel_rfl) rfl (bcells_one _ _ _ _) ?_)
  have HX := two_end T3 (bcells b (.slice ra b.q.length rc))
  have HO := own_mono (own_grownN O3 (by omega) (grown_setRow w3 (w.heap.size + 1) (bcells b (.slice ra b.q.length rc)))) (A := w.heap.size) (by omega)
  exact bodyPost_ret (results_cell_row rfl _ _ _ _ _ _ _ rfl HX.1 Tryd.underlying28 rfl (by kernel_rfl)) rfl ⟨_, rfl, HO, HX.2⟩

end Go.Proofs.YtnclkdhaabggkaaDoor

/- The walks of the program's small tests of a box, and of its policies. -/
namespace Go.Proofs.YtnclkdhaabggkaaDoor
open Go.RowKit

theorem capOk_any (x : Int) (w : World) :
    Calls Tryd.prog 35 #[.int .i64 x] w fun e w' => e = .returned (.bool (inB x 1 16)) ∧ w = w' := by
  have HB : Hid (inB x 1 16 = (decide (1 ≤ x) && decide (x ≤ 16))) := Lib.hid rfl
  go_enter Tryd.func35, Tryd.ntmps35
  by_cases h1 : 1 ≤ x
  · have g1 : decide (1 ≤ x) = true := decide_eq_true h1
    by_cases h2 : x ≤ 16
    · have g2 : decide (x ≤ 16) = true := decide_eq_true h2
      go_wp2
      go_ret
      exact ⟨ret_bool (by rw [HB.out, g1, g2]; rfl), rfl⟩
    · have g2 : decide (x ≤ 16) = false := decide_eq_false h2
      go_wp2
      go_ret
      exact ⟨ret_bool (by rw [HB.out, g2]; simp), rfl⟩
  · have g1 : decide (1 ≤ x) = false := decide_eq_false h1
    go_wp2
    go_ret
    exact ⟨ret_bool (by rw [HB.out, g1]; rfl), rfl⟩

/-- What stands for a policy. -/
def polV (p : Int) : Value :=
  if p = 1 then .iface 70 (.agg #[]) else if p = 2 then .iface 71 (.agg #[])
  else if p = 3 then .iface 72 (.agg #[]) else if p = 4 then .iface 73 (.agg #[]) else .nilIface

theorem policyOf_any (p : Int) (w : World) :
    Calls Tryd.prog 42 #[.int .i64 p] w fun e w' => e = .returned (polV p) ∧ w = w' := by
  have HP : Hid (polV p = if p = 1 then .iface 70 (.agg #[]) else if p = 2 then .iface 71 (.agg #[])
  else if p = 3 then .iface 72 (.agg #[]) else if p = 4 then .iface 73 (.agg #[]) else .nilIface) := Lib.hid rfl
  generalize polV p = u at HP ⊢
  go_enter Tryd.func42, Tryd.ntmps42
  by_cases h1 : p = 1
  · have HE := Lib.hid (HP.out.trans (if_pos h1))
    have g1 : (p == 1) = true := by simp [h1]
    clear HP h1
    go_wp2
    go_ret
    exact ⟨by rw [HE.out]; rfl, rfl⟩
  have HP1 := Lib.hid (HP.out.trans (if_neg h1))
  have g1 : (p == 1) = false := by simp [h1]
  clear HP h1
  by_cases h2 : p = 2
  · have HE := Lib.hid (HP1.out.trans (if_pos h2))
    have g2 : (p == 2) = true := by simp [h2]
    clear HP1 h2
    go_wp2
    go_ret
    exact ⟨by rw [HE.out]; rfl, rfl⟩
  have HP2 := Lib.hid (HP1.out.trans (if_neg h2))
  have g2 : (p == 2) = false := by simp [h2]
  clear HP1 h2
  by_cases h3 : p = 3
  · have HE := Lib.hid (HP2.out.trans (if_pos h3))
    have g3 : (p == 3) = true := by simp [h3]
    clear HP2 h3
    go_wp2
    go_ret
    exact ⟨by rw [HE.out]; rfl, rfl⟩
  have HP3 := Lib.hid (HP2.out.trans (if_neg h3))
  have g3 : (p == 3) = false := by simp [h3]
  clear HP2 h3
  by_cases h4 : p = 4
  · have HE := Lib.hid (HP3.out.trans (if_pos h4))
    have g4 : (p == 4) = true := by simp [h4]
    clear HP3 h4
    go_wp2
    go_ret
    exact ⟨by rw [HE.out]; rfl, rfl⟩
  · have HE := Lib.hid (HP3.out.trans (if_neg h4))
    have g4 : (p == 4) = false := by simp [h4]
    clear HP3 h4
    go_wp2
    go_ret
    exact ⟨by rw [HE.out]; rfl, rfl⟩

theorem policyOk_any (p : Int) (w : World) :
    Calls Tryd.prog 36 #[.int .i64 p] w fun e w' => e = .returned (.bool (inB p 1 4)) ∧ w = w' := by
  have CP := policyOf_any p w
  by_cases h1 : p = 1
  · subst h1
    rw [show polV 1 = .iface 70 (.agg #[]) from rfl] at CP
    go_enter Tryd.func36, Tryd.ntmps36
    go_wp2_with fail
    refine CP.mono ?_
    rintro e w1 ⟨rfl, rfl⟩
    go_wp2
    go_ret
    exact ⟨rfl, rfl⟩
  by_cases h2 : p = 2
  · subst h2
    rw [show polV 2 = .iface 71 (.agg #[]) from rfl] at CP
    go_enter Tryd.func36, Tryd.ntmps36
    go_wp2_with fail
    refine CP.mono ?_
    rintro e w1 ⟨rfl, rfl⟩
    go_wp2
    go_ret
    exact ⟨rfl, rfl⟩
  by_cases h3 : p = 3
  · subst h3
    rw [show polV 3 = .iface 72 (.agg #[]) from rfl] at CP
    go_enter Tryd.func36, Tryd.ntmps36
    go_wp2_with fail
    refine CP.mono ?_
    rintro e w1 ⟨rfl, rfl⟩
    go_wp2
    go_ret
    exact ⟨rfl, rfl⟩
  by_cases h4 : p = 4
  · subst h4
    rw [show polV 4 = .iface 73 (.agg #[]) from rfl] at CP
    go_enter Tryd.func36, Tryd.ntmps36
    go_wp2_with fail
    refine CP.mono ?_
    rintro e w1 ⟨rfl, rfl⟩
    go_wp2
    go_ret
    exact ⟨rfl, rfl⟩
  · rw [show polV p = .nilIface by unfold polV; rw [if_neg h1, if_neg h2, if_neg h3, if_neg h4]] at CP
    have HB : Hid (inB p 1 4 = false) := Lib.hid (by
      unfold inB
      cases e : (decide (1 ≤ p) && decide (p ≤ 4))
      · rfl
      · simp only [Bool.and_eq_true, decide_eq_true_eq] at e
        omega)
    clear h1 h2 h3 h4
    go_enter Tryd.func36, Tryd.ntmps36
    go_wp2_with fail
    refine CP.mono ?_
    rintro e w1 ⟨rfl, rfl⟩
    go_wp2
    go_ret
    exact ⟨ret_bool HB.out.symm, rfl⟩

end Go.Proofs.YtnclkdhaabggkaaDoor
