/- Small texts, laid together. -/
import Derived.Test.YtojifogefnjefaaDoorZB1
import Derived.Test.YtojifogefnjefaaDoorZCut
import Derived.Lib.SmallJoins
import Derived.Deep.Slices
import Derived.ChangeSame
import Derived.WalkSpells
import Derived.WalkLawsBesides
set_option linter.unusedSimpArgs false
set_option linter.unusedVariables false
/- The walks of spec.l1Split and spec.PartsOf: the list of the parts, in memory of the call's own. -/
namespace Go.Proofs.YtojifogefnjefaaDoor
open Go.RowKit

theorem Tryd.infoString : (Tryd.prog.info? 9).map (fun i => (i.zero, i.size, i.bytes)) = some (some (.string ByteArray.empty), 1, 16) := by kernel_rfl

/-- The cells of a list of texts. -/
abbrev texts (l : List ByteArray) : List Value := l.map Value.string

theorem texts_snoc (l : List ByteArray) (x : ByteArray) : texts l ++ [.string x] = texts (l ++ [x]) := by simp [texts]

theorem one_string (x : ByteArray) : ∀ u ∈ [Value.string x], u.oneCell' = true := by
  intro u hu; simp at hu; subst hu; rfl

/-- What an append of one text has done: below B all is as it was. -/
theorem below_append {B : Nat} {w wr w' : World} {v : Value} {n : Nat} {xs : List Value} {o : Obj} {e : TypeId} {size : Nat} (hB : B ≤ wr.heap.size) (h : Below B w wr) (hown : wr.ownsRow B e size v n xs) (hg : (wr.alloc o).grownBy w' v.ownBlock) : Below B w w' :=
  (h.alloc hB o).grown hg (by simp; omega) (fun k hk => (hown.lt k hk).1)

set_option maxRecDepth 100000 in
set_option maxHeartbeats 800000 in
theorem specSplit_any (s : ByteArray) (c : UInt8) (w : World) (hs : s.size ≤ 1048576) :
    Calls Tryd.prog 54 #[.string s, .int .u8 (c.toNat : Int)] w fun e w' =>
      ∃ v, e = .returned v ∧ w'.ownsRow w.heap.size 9 1 v (parts s c).length (texts (parts s c)) ∧ Below w.heap.size w w' := by
  obtain ⟨i0, hi, hz0, hz1, hz2⟩ := info_parts Tryd.infoString
  go_enter Tryd.func54, Tryd.ntmps54
  go_wp2
  go_loopw [5, 6, 7] (fun v f i wr => ∃ (k fr : Nat) (l : List ByteArray), Hid (cutTo s c k = (l, fr)) ∧ k ≤ s.size + 1 ∧ fr ≤ k ∧ l.length ≤ k ∧ i = .int .i64 k ∧ f = .int .i64 fr ∧
      Hid (wr.ownsRow w.heap.size 9 1 v l.length (texts l)) ∧ Hid (Below w.heap.size w wr)) (fun _ _ i _ => s.size + 1 - (intOf i).toNat)
  case atStart => exact ⟨0, 0, [], rfl, Nat.zero_le _, Nat.zero_le _, Nat.zero_le _, rfl, rfl, World.ownsRow_made _ _ _ (Nat.le_refl _) (Nat.zero_le _) rfl, (Below.refl _ _).alloc (Nat.le_refl _) _⟩
  case round =>
    obtain ⟨k, fr, l, HC, hk, hfr, hl, rfl, rfl, H1, H2⟩ := hrel
    by_cases hd : k ≤ s.size
    · by_cases hhit : s.size ≤ k ∨ s.data.toList[k]? = some c
      · have HH : Hid (cutTo s c (k + 1) = (l ++ [s.extract fr k], k + 1)) := Lib.hid (by rw [cutTo_hit hhit, HC.out])
        have htest : k = s.size ∨ (k < s.size ∧ ∃ h : k < s.size, ((s[k].toNat : Int) == (c.toNat : Int)) = true) := by
          rcases hhit with h | h
          · exact .inl (by omega)
          · by_cases e : k = s.size
            · exact .inl e
            · refine .inr ⟨by omega, by omega, ?_⟩
              have hk2 : k < s.data.toList.length := show k < s.size by omega
              rw [List.getElem?_eq_getElem hk2] at h
              have e3 : s[k] = c := Option.some.inj h
              rw [e3]; simp
        clear hhit
        have htest2 : ((k : Int) == (s.size : Int)) = true ∨ (k < s.size ∧ ∃ h : k < s.size, ((s[k].toNat : Int) == (c.toNat : Int)) = true) := by
          rcases htest with h | h
          · exact .inl (by subst h; simp)
          · exact .inr h
        clear htest
        rcases htest2 with hc | ⟨hlt, hlt2, hc⟩
        all_goals
          go_wp2_with (at_builtin; go_must (refine wpList_append_own _ rfl _ _ 46 rfl w.heap.size 9 i0 (.string ByteArray.empty) 1 16 Tryd.underlying46 hi hz0 hz1 hz2 rfl (by decide) _ _ _ rfl (H1.out.alloc _) ⟨wr.heap.size, 0, none⟩ 1 1 [.string (s.extract fr k)] rfl rfl (cell_one_new _ _ _) (one_string _) (by unfold maxLen; omega) (by omega) (by have := H2.out.size; simp; omega) ?_))
          intro v' w1 hown' hgrow _
          have R1 : Hid (w1.ownsRow w.heap.size 9 1 v' (l ++ [s.extract fr k]).length (texts (l ++ [s.extract fr k]))) := Lib.hid (by rw [← texts_snoc]; simpa using hown')
          have R2 : Hid (Below w.heap.size w w1) := Lib.hid (below_append H2.out.size H2.out H1.out hgrow)
          clear hown' hgrow H1 H2 HC
          go_wp2
          go_roundw
          case rel => exact ⟨k + 1, k + 1, l ++ [s.extract fr k], HH, by omega, Nat.le_refl _, by simp; omega, by go_num, by go_num, R1, R2⟩
          case measure => simp [intOf]; omega
      · have HH : Hid (cutTo s c (k + 1) = (l, fr)) := Lib.hid (by rw [cutTo_miss (by omega) (fun e => hhit (.inr e)), HC.out])
        have hlt : k < s.size := by omega
        have hc : ((s[k].toNat : Int) == (c.toNat : Int)) = false := by
          have hk2 : k < s.data.toList.length := hlt
          have h3 : s[k] ≠ c := fun e => hhit (.inr (by rw [List.getElem?_eq_getElem hk2]; exact congrArg some e))
          rw [beq_eq_false_iff_ne]
          intro e
          exact h3 (UInt8.toNat_inj.1 (by omega))
        have hc0 : ((k : Int) == (s.size : Int)) = false := by rw [beq_eq_false_iff_ne]; omega
        clear hhit HC
        go_wp2
        go_roundw
        case rel => exact ⟨k + 1, fr, l, HH, by omega, by omega, by omega, by go_num, rfl, H1, H2⟩
        case measure => simp [intOf]; omega
    · obtain rfl : k = s.size + 1 := by omega
      have HP : Hid (parts s c = l) := Lib.hid (by unfold parts; rw [HC.out])
      clear HC
      go_wp2
      go_ret
      exact ⟨_, rfl, by rw [HP.out]; exact H1.out, H2.out⟩

theorem specParts_any (s : ByteArray) (w : World) (hs : s.size ≤ 1048576) :
    Calls Tryd.prog 41 #[.string s] w fun e w' =>
      ∃ v, e = .returned v ∧ w'.ownsRow w.heap.size 9 1 v (parts s 47).length (texts (parts s 47)) ∧ Below w.heap.size w w' := by
  go_enter Tryd.func41, Tryd.ntmps41
  go_wp2_with (go_at_call 54; refine (specSplit_any s 47 w hs).mono ?_; rintro e w' ⟨v, rfl, h1, h2⟩)
  go_ret
  exact ⟨_, rfl, h1, h2⟩

end Go.Proofs.YtojifogefnjefaaDoor

/- A row of texts, opened. -/
namespace Go.Proofs.YtojifogefnjefaaDoor
open Go.RowKit

/-- A row of texts that the call owns, opened: where it lies, and each cell. -/
theorem row_open {w : World} {B : Nat} {v : Value} {l : List ByteArray} {E : TypeId} (h : w.ownsRow B E 1 v l.length (texts l)) (hl : 0 < l.length) :
    ∃ g cap, v = .slice (some ⟨g, 0, none⟩) l.length cap ∧ B ≤ g ∧ g < w.heap.size ∧ (∀ j (hj : j < l.length), w.cell? ⟨g, j, none⟩ = some (.string l[j])) ∧ (∀ j, w.frozen? ⟨g, j, none⟩ = false) := by
  obtain ⟨g, cap, rfl⟩ := Joins.ownsRow_form h hl
  have hlt := h.lt g rfl
  refine ⟨g, cap, rfl, hlt.1, hlt.2, fun j hj => ?_, fun j => h.frozenAt j⟩
  rw [h.cellAt j (by omega)]
  simp [texts, hj]

end Go.Proofs.YtojifogefnjefaaDoor

/- Rows of knots that come in as arguments: what their cells hold. -/
namespace Go.Proofs.YtojifogefnjefaaDoor
open Go.ChangeShapes Go.WideShapes Go.RowKit Go.Deep

section
variable {H : Type} {enc : TypeId × Value → H} {P : Program} {w : World} {base : Nat} {spare : Nat → Bool} {held : Bool}

/-- An address of which a first cell is there has no spot. -/
theorem addr_plain {a : Addr} {v : Value} (h : w.cell? a = some v) : a = ⟨a.block, a.off, none⟩ := by
  obtain ⟨b, o, s⟩ := a
  cases s with
  | none => rfl
  | some s =>
    unfold World.cell? at h
    split at h <;> simp at h

theorem addr_mk (b o n : Nat) : (⟨b, o, none⟩ : Addr).add n = ⟨b, o + n, none⟩ := by
  unfold Addr.add; split <;> simp_all

theorem ints_read {t e : TypeId} {fuel : Nat} {cs : List Value} {x : DataW H × List MemPlace} (ht : P.underlying t = some (.slice e)) (he : P.underlying e = some (.int .i64)) (hc : P.cellsOf e = 1)
    (h : DataW.trod enc P w base spare held fuel t cs = some x) : ∃ u l, cs = [u] ∧ IntsAt w u l := by
  rcases open_ints ht he hc h with ⟨rfl, _⟩ | ⟨a, len, cap, zs, rfl, _, hl, hm, hz, _, hcell, _⟩
  · exact ⟨_, [], rfl, none, 0, rfl, Nat.le_refl _, by unfold maxLen; omega, .inl rfl⟩
  · have hz2 : len ≤ zs.length := by rw [hz]; split <;> omega
    have hlen : (zs.take len).length = len := by rw [List.length_take]; omega
    refine ⟨_, zs.take len, rfl, _, cap, by rw [hlen], by omega, hm, ?_⟩
    by_cases h0 : len = 0
    · subst h0; exact .inl rfl
    · have ha : a = ⟨a.block, a.off, none⟩ := addr_plain (by have := hcell 0 (by omega); simpa [Addr.add] using this)
      refine .inr ⟨a.block, a.off, by rw [← ha], fun j hj => ?_⟩
      have hj2 : j < zs.length := by omega
      have := hcell j hj2
      rw [ha, addr_mk] at this
      rw [this, List.getElem_take, List.getD_eq_getElem?_getD, List.getElem?_eq_getElem hj2]; rfl

theorem knot_read {t ts ti ei : TypeId} {f0 f1 : Field} {fuel : Nat} {cs : List Value} {x : DataW H × List MemPlace} (ht : P.underlying t = some (.struct #[f0, f1])) (hC : P.cellsOf t = 2)
    (h0 : f0.type = ts) (o0 : f0.offset = 0) (h1 : f1.type = ti) (o1 : f1.offset = 1) (hs : P.underlying ts = some .string) (hcs : P.cellsOf ts = 1) (hti : P.underlying ti = some (.slice ei)) (hci : P.cellsOf ti = 1) (hei : P.underlying ei = some (.int .i64)) (hce : P.cellsOf ei = 1)
    (h : DataW.trod enc P w base spare held fuel t cs = some x) : ∃ p u l, cs = [.string p, u] ∧ p.size ≤ maxLen ∧ IntsAt w u l := by
  obtain ⟨y0, y1, n, _, hl, q0, q1⟩ := trod_struct2 ht h
  rw [hC] at hl
  match cs, hl with
  | [c0, c1], _ =>
    rw [h0, o0, hcs] at q0
    rw [h1, o1, hci] at q1
    obtain ⟨p, hp, _, hsz⟩ := DataW.trod_string hs q0
    obtain ⟨u, l, hu, hi⟩ := ints_read hti hei hce q1
    simp only [List.drop_zero, List.take_succ_cons, List.take_zero, List.cons.injEq, and_true] at hp
    simp only [List.drop_succ_cons, List.drop_zero, List.take_succ_cons, List.take_zero, List.cons.injEq, and_true] at hu
    subst hp hu
    exact ⟨p, _, l, rfl, hsz, hi⟩

theorem knots_read {tt t ts ti ei : TypeId} {f0 f1 : Field} {fuel : Nat} {cs : List Value} {x : DataW H × List MemPlace} (htt : P.underlying tt = some (.slice t)) (ht : P.underlying t = some (.struct #[f0, f1])) (hC : P.cellsOf t = 2)
    (h0 : f0.type = ts) (o0 : f0.offset = 0) (h1 : f1.type = ti) (o1 : f1.offset = 1) (hs : P.underlying ts = some .string) (hcs : P.cellsOf ts = 1) (hti : P.underlying ti = some (.slice ei)) (hci : P.cellsOf ti = 1) (hei : P.underlying ei = some (.int .i64)) (hce : P.cellsOf ei = 1)
    (h : DataW.trod enc P w base spare held fuel tt cs = some x) : ∃ v l, cs = [v] ∧ KnotsAt w v l ∧ ∀ y ∈ l, y.1.size ≤ maxLen := by
  rcases open_slice htt h with ⟨rfl, _⟩ | ⟨a, len, cap, m, n, D, Pl, rfl, _, hl, hm, hmm, _, hx⟩
  · exact ⟨_, [], rfl, ⟨none, 0, rfl, Nat.le_refl _, by unfold maxLen; omega, .inl rfl⟩, by simp⟩
  · have hlm : len ≤ m := by rw [hmm]; split <;> omega
    have hk : ∀ i, i < len → ∃ y : KnotM, y.1.size ≤ maxLen ∧ w.cell? (a.add (i * 2)) = some (.string y.1) ∧ ∃ u, w.cell? ((a.add (i * 2)).add 1) = some u ∧ IntsAt w u y.2 := fun i hi => by
      obtain ⟨cs', e1, e2⟩ := hx i (by omega)
      rw [hC] at e1
      obtain ⟨_, _, hat⟩ := World.cells?_some e1
      obtain ⟨p, u, l, rfl, hsz, hi⟩ := knot_read ht hC h0 o0 h1 o1 hs hcs hti hci hei hce e2
      refine ⟨(p, l), hsz, ?_, u, ?_, hi⟩
      · have := hat 0 (by omega); simpa [Addr.add] using this
      · have := hat 1 (by omega); simpa using this
    have : Inhabited KnotM := ⟨(⟨#[]⟩, [])⟩
    obtain ⟨f, hf⟩ := choose_lt hk
    refine ⟨_, (List.range len).map f, rfl, ⟨some a, cap, by simp, by simpa using hl, hm, ?_⟩, fun y hy => ?_⟩
    · by_cases h00 : len = 0
      · subst h00; exact .inl rfl
      · have ha : a = ⟨a.block, a.off, none⟩ := addr_plain (by have := (hf 0 (by omega)).2.1; simpa [Addr.add] using this)
        refine .inr ⟨a.block, a.off, by rw [← ha], fun j hj => ?_⟩
        simp only [List.length_map, List.length_range] at hj
        obtain ⟨_, c1, u, c2, hi⟩ := hf j hj
        simp only [List.getElem_map, List.getElem_range]
        rw [ha, addr_mk] at c1 c2
        rw [addr_mk] at c2
        exact ⟨c1, u, c2, hi⟩
    · obtain ⟨i, hi, rfl⟩ := List.mem_map.1 hy
      exact (hf i (List.mem_range.1 hi)).1

end

end Go.Proofs.YtojifogefnjefaaDoor

/- The walk of impl.PartsOf. -/
namespace Go.Proofs.YtojifogefnjefaaDoor
open Go.RowKit

theorem implParts_any (s : ByteArray) (m : Int) (w : World) (hs : s.size ≤ 1048576) (hm : w.cell? ⟨0, 0, none⟩ = some (.int .i64 m)) :
    Calls Tryd.prog 21 #[.string s] w fun e w' =>
      ∃ v, e = .returned v ∧ w'.ownsRow w.heap.size 9 1 v (parts s 47).length (texts (parts s 47)) ∧ Below w.heap.size w w' := by
  have c := Tryd.strings_Split s ⟨#[47]⟩ m w (by omega) hm (Nat.le_refl 1)
  rw [splitB_parts, countB_parts] at c
  have hp := parts_le s 47
  go_enter Tryd.func21, Tryd.ntmps21
  go_wp2_with (go_at_call 38; refine c.mono ?_; rintro e w' ⟨rfl, rfl⟩)
  go_ret
  refine ⟨_, rfl, ?_, (Below.refl _ _).alloc (Nat.le_refl _) _⟩
  have := World.ownsRow_lit (base := w.heap.size) (e := 9) (size := 1) w (texts (parts s 47)).toArray (parts s 47).length (Nat.le_refl _) (by unfold maxLen; omega) (by simp)
  simpa using this

end Go.Proofs.YtojifogefnjefaaDoor

/- The walk of the reference's FilterOk: is a text a filter? -/
namespace Go.Proofs.YtojifogefnjefaaDoor
open Go.RowKit

set_option maxRecDepth 100000 in
set_option maxHeartbeats 1600000 in
theorem specFilter_any (s : ByteArray) (w : World) (hs : s.size ≤ 1048576) :
    Calls Tryd.prog 28 #[.string s] w fun e w' => e = .returned (.bool (filterP (parts s 47))) ∧ Below w.heap.size w w' := by
  have hpos := parts_pos s 47
  have hple := parts_le s 47
  have hps : Hid (∀ p ∈ parts s 47, p.size ≤ s.size) := Lib.hid (fun p h => parts_size h)
  obtain ⟨l, hl⟩ : ∃ l, parts s 47 = l := ⟨_, rfl⟩
  have hc := fun w => specParts_any s w hs
  rw [hl] at hpos hple hps ⊢
  simp only [hl] at hc
  clear hl
  go_enter Tryd.func28, Tryd.ntmps28
  go_wp2_with (go_at_call 41; refine (hc w).mono ?_; clear hc; rintro e w1 ⟨v, rfl, h1, h2⟩; obtain ⟨g, cap, rfl, hg1, hg2, hcell, _⟩ := row_open h1 hpos; have HC := Lib.hid hcell; have H2 := Lib.hid h2; clear h1 h2 hcell)
  go_loop [4] (fun i => ∃ k : Nat, k ≤ l.length ∧ i = .int .i64 k ∧ Hid (filterTo l k = true)) (fun i => l.length - (intOf i).toNat)
  case atStart => exact ⟨0, Nat.zero_le _, rfl, rfl⟩
  case round =>
    obtain ⟨k, hk, rfl, HL⟩ := hrel
    by_cases hlt : k < l.length
    · have hcx := HC.out k hlt
      have hsz : Hid (l[k].size ≤ maxLen) := Lib.hid (by have := hps.out _ (List.getElem_mem hlt); unfold maxLen; omega)
      obtain ⟨p, hp⟩ : ∃ p, l[k] = p := ⟨_, rfl⟩
      have HP : Hid (l[k] = p) := hp
      rw [hp] at hcx hsz
      clear hp
      have cw := specWord_any p w1 hsz.out
      obtain ⟨b, hb⟩ : ∃ b, isWord p = b := ⟨_, rfl⟩
      rw [hb] at cw
      have HB := Lib.hid hb
      clear hb
      cases b
      · go_wp2_with (go_at_call 42; refine cw.mono ?_; rintro e w' ⟨rfl, rfl⟩)
        all_goals first
          | (go_round
             case rel => exact ⟨k + 1, by omega, by go_num, Lib.hid (filterTo_next hlt HP.out HL.out (by have := HB.out; unfold partF; grind))⟩
             case measure => simp [intOf]; omega)
          | (go_ret; exact ⟨ret_bool (filterP_no hlt HP.out (by have := HB.out; unfold partF; grind)).symm, H2.out⟩)
      · go_wp2_with (go_at_call 42; refine cw.mono ?_; rintro e w' ⟨rfl, rfl⟩)
        go_round
        case rel => exact ⟨k + 1, by omega, by go_num, Lib.hid (filterTo_next hlt HP.out HL.out (by have := HB.out; unfold partF; grind))⟩
        case measure => simp [intOf]; omega
    · obtain rfl : k = l.length := by omega
      have HE := Lib.hid (filterP_end HL.out)
      clear HL
      go_wp2
      go_ret
      exact ⟨ret_bool (by rw [HE.out]; grind), H2.out⟩

end Go.Proofs.YtojifogefnjefaaDoor

/- The walk of impl.FilterOk: is a text a filter? -/
namespace Go.Proofs.YtojifogefnjefaaDoor
open Go.RowKit

set_option maxRecDepth 100000 in
set_option maxHeartbeats 1600000 in
theorem implFilter_any (s : ByteArray) (m : Int) (w : World) (hs : s.size ≤ 1048576) (hm : w.cell? ⟨0, 0, none⟩ = some (.int .i64 m)) :
    Calls Tryd.prog 44 #[.string s] w fun e w' => e = .returned (.bool (filterP (parts s 47))) ∧ Below w.heap.size w w' := by
  have hpos := parts_pos s 47
  have hple := parts_le s 47
  have hps : Hid (∀ p ∈ parts s 47, p.size ≤ s.size) := Lib.hid (fun p h => parts_size h)
  obtain ⟨l, hl⟩ : ∃ l, parts s 47 = l := ⟨_, rfl⟩
  have hc := implParts_any s m w hs hm
  rw [hl] at hpos hple hps hc ⊢
  clear hl hm
  by_cases h6 : l.length ≤ 6
  · go_enter Tryd.func44, Tryd.ntmps44
    go_wp2_with (go_at_call 21; refine hc.mono ?_; clear hc; rintro e w1 ⟨v, rfl, h1, h2⟩; obtain ⟨g, cap, rfl, hg1, hg2, hcell, _⟩ := row_open h1 hpos; have HC := Lib.hid hcell; have H2 := Lib.hid h2; clear h1 h2 hcell)
    go_loopw [14] (fun i wr => ∃ k : Nat, k ≤ l.length ∧ i = .int .i64 k ∧ Hid (filterTo l k = true) ∧ Hid (Below w1.heap.size w1 wr)) (fun i _ => l.length - (intOf i).toNat)
    case atStart => exact ⟨0, Nat.zero_le _, rfl, rfl, Below.refl _ _⟩
    case round =>
      obtain ⟨k, hk, rfl, HL, HW⟩ := hrel
      by_cases hlt : k < l.length
      · have hcx : wr.cell? ⟨g, k, none⟩ = some (.string l[k]) := (HW.out.cell hg2).trans (HC.out k hlt)
        have hsz : Hid (l[k].size ≤ maxLen) := Lib.hid (by have := hps.out _ (List.getElem_mem hlt); unfold maxLen; omega)
        obtain ⟨p, hp⟩ : ∃ p, l[k] = p := ⟨_, rfl⟩
        have HP : Hid (l[k] = p) := hp
        rw [hp] at hcx hsz
        clear hp
        have cw := wordOk_any p wr hsz.out
        obtain ⟨b, hb⟩ : ∃ b, isWord p = b := ⟨_, rfl⟩
        rw [hb] at cw
        have HB := Lib.hid hb
        clear hb
        cases b
        all_goals
          go_wp2_with (go_at_call 56; refine cw.mono ?_; rintro e w' ⟨rfl, hb⟩)
          all_goals first
            | (go_roundw
               case rel => exact ⟨k + 1, by omega, by go_num, Lib.hid (filterTo_next hlt HP.out HL.out (by have := HB.out; unfold partF; grind)), HW.out.trans (hb.mono HW.out.size)⟩
               case measure => simp [intOf]; omega)
            | (go_ret; exact ⟨ret_bool (filterP_no hlt HP.out (by have := HB.out; unfold partF; grind)).symm, H2.out.trans ((HW.out.trans (hb.mono HW.out.size)).mono H2.out.size)⟩)
      · obtain rfl : k = l.length := by omega
        have HE := Lib.hid (filterP_end HL.out)
        clear HL
        go_wp2
        go_ret
        exact ⟨ret_bool (by rw [HE.out]; grind), H2.out.trans (HW.out.mono H2.out.size)⟩
  · have hf : Hid (filterP l = false) := Lib.hid (by simp [filterP, h6])
    go_enter Tryd.func44, Tryd.ntmps44
    go_wp2_with (go_at_call 21; refine hc.mono ?_; clear hc; rintro e w1 ⟨v, rfl, h1, h2⟩; obtain ⟨g, cap, rfl, hg1, hg2, hcell, _⟩ := row_open h1 hpos; have HC := Lib.hid hcell; have H2 := Lib.hid h2; clear h1 h2 hcell)
    go_ret
    exact ⟨ret_bool hf.out.symm, H2.out⟩

end Go.Proofs.YtojifogefnjefaaDoor

/- The walk of the reference's look whether a number lies between two. -/
namespace Go.Proofs.YtojifogefnjefaaDoor
open Go.RowKit

theorem quiet_back {P : Program} {f : Nat} {args : Array Value} {w : World} {v : Value} (h : Calls P f args w fun e w' => e = .returned v ∧ w = w') : Calls P f args w fun e w' => e = .returned v ∧ w' = w := h.mono fun _ _ ⟨he, hw⟩ => ⟨he, hw.symm⟩

theorem specIn_any (x lo hi : Int) (w : World) :
    Calls Tryd.prog 55 #[.int .i64 x, .int .i64 lo, .int .i64 hi] w fun e w' => e = .returned (.bool (decide (lo ≤ x) && decide (x ≤ hi))) ∧ w = w' := by
  by_cases h1 : lo ≤ x
  · go_enter Tryd.func55, Tryd.ntmps55
    go_wp2
    go_ret
    exact ⟨ret_bool (by simp [h1]), rfl⟩
  · go_enter Tryd.func55, Tryd.ntmps55
    go_wp2
    go_ret
    exact ⟨ret_bool (by simp; omega), rfl⟩

end Go.Proofs.YtojifogefnjefaaDoor

/- Plain mathematics of chapter 3: a right trie. -/
namespace Go.Proofs.YtojifogefnjefaaDoor

/-- a is ahead of b, or b itself. -/
def leB (a b : ByteArray) : Bool := Op.bytesLess a.toList b.toList || a.toList == b.toList

def knot0 : KnotM := (⟨#[]⟩, [])

/-- Is the k-th knot as it should be? -/
def knotOk (l : List KnotM) (p q : KnotM) : Bool :=
  !(leB q.1 p.1) && (filterP (parts q.1 47) && (rises q.2 && (decide (0 ≤ find l (above q.1)) && (!(q.2.isEmpty) || childB l q.1))))

def knotsTo (l : List KnotM) (k : Nat) : Bool := (List.range k).all fun j => decide (j = 0) || knotOk l (l.getD (j - 1) knot0) (l.getD j knot0)

def headOk (l : List KnotM) : Bool := match l with
  | [] => false
  | x :: _ => x.1.toList == [] && x.2.isEmpty

/-- 'TrieOk'. -/
def trieB (l : List KnotM) : Bool := headOk l && knotsTo l l.length

theorem knotsTo_succ (l : List KnotM) (k : Nat) : knotsTo l (k + 1) = (knotsTo l k && (decide (k = 0) || knotOk l (l.getD (k - 1) knot0) (l.getD k knot0))) := by
  unfold knotsTo; rw [List.range_succ, List.all_append]; simp

theorem knot_at {l : List KnotM} {k : Nat} (h : k < l.length) : l.getD k knot0 = l[k] := by rw [List.getD_eq_getElem?_getD, List.getElem?_eq_getElem h]; rfl

theorem knotsTo_next {l : List KnotM} {k : Nat} (h1 : 1 ≤ k) (h : k < l.length) (hl : knotsTo l k = true) (hk : knotOk l (l[k - 1]'(by omega)) l[k] = true) : knotsTo l (k + 1) = true := by
  rw [knotsTo_succ, hl, knot_at (by omega), knot_at h, hk]; simp

theorem knotsTo_bad {l : List KnotM} {k : Nat} (h1 : 1 ≤ k) (h : k < l.length) (hk : knotOk l (l[k - 1]'(by omega)) l[k] = false) : trieB l = false := by
  cases e : trieB l
  · rfl
  · unfold trieB at e
    rw [Bool.and_eq_true] at e
    have e2 := e.2
    unfold knotsTo at e2
    rw [List.all_eq_true] at e2
    have := e2 k (List.mem_range.2 h)
    rw [knot_at (by omega), knot_at h, hk, decide_eq_false (by omega)] at this
    cases this

end Go.Proofs.YtojifogefnjefaaDoor
