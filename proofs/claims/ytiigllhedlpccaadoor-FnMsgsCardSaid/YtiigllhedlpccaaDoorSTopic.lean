/- The walk of the reference's TopicOk: is a text a topic? -/
import Derived.Test.YtiigllhedlpccaaDoorSplit
import Derived.Lib.SmallJoins
namespace Go.Proofs.YtiigllhedlpccaaDoor
open Go.RowKit

/-- A row of texts that the call owns, opened: where it lies, and each cell. -/
theorem row_open {w : World} {B : Nat} {v : Value} {l : List ByteArray} {E : TypeId} (h : w.ownsRow B E 1 v l.length (texts l)) (hl : 0 < l.length) :
    ∃ g cap, v = .slice (some ⟨g, 0, none⟩) l.length cap ∧ B ≤ g ∧ g < w.heap.size ∧ (∀ j (hj : j < l.length), w.cell? ⟨g, j, none⟩ = some (.string l[j])) ∧ (∀ j, w.frozen? ⟨g, j, none⟩ = false) := by
  obtain ⟨g, cap, rfl⟩ := Joins.ownsRow_form h hl
  have hlt := h.lt g rfl
  refine ⟨g, cap, rfl, hlt.1, hlt.2, fun j hj => ?_, fun j => h.frozenAt j⟩
  rw [h.cellAt j (by omega)]
  simp [texts, hj]

set_option maxRecDepth 100000 in
set_option maxHeartbeats 800000 in
theorem specTopic_any (s : ByteArray) (w : World) (hs : s.size ≤ 1048576) :
    Calls Tryd.prog 26 #[.string s] w fun e w' => e = .returned (.bool (topicP (parts s 47))) ∧ Below w.heap.size w w' := by
  have hpos := parts_pos s 47
  have hple := parts_le s 47
  have hps : Hid (∀ p ∈ parts s 47, p.size ≤ s.size) := Lib.hid (fun p h => parts_size h)
  obtain ⟨l, hl⟩ : ∃ l, parts s 47 = l := ⟨_, rfl⟩
  have hc := fun w => specParts_any s w hs
  rw [hl] at hpos hple hps ⊢
  simp only [hl] at hc
  clear hl
  go_enter Tryd.func26, Tryd.ntmps26
  go_wp2_with (go_at_call 38; refine (hc w).mono ?_; clear hc; rintro e w1 ⟨v, rfl, h1, h2⟩; obtain ⟨g, cap, rfl, hg1, hg2, hcell, _⟩ := row_open h1 hpos; have HC := Lib.hid hcell; have H2 := Lib.hid h2; clear h1 h2 hcell)
  go_loop [4] (fun i => ∃ k : Nat, k ≤ l.length ∧ i = .int .i64 k ∧ Hid ((l.take k).all isWord = true)) (fun i => l.length - (intOf i).toNat)
  case atStart => exact ⟨0, Nat.zero_le _, rfl, rfl⟩
  case round =>
    obtain ⟨k, hk, rfl, HL⟩ := hrel
    by_cases hlt : k < l.length
    · have hcx := HC.out k hlt
      have hsz : Hid (l[k].size ≤ maxLen) := Lib.hid (by have := hps.out _ (List.getElem_mem hlt); unfold maxLen; omega)
      cases hw : isWord l[k]
      · have HB := Lib.hid (topicP_bad hlt hw)
        have cw := specWord_any l[k] w1 hsz.out
        rw [hw] at cw
        clear hw
        go_wp2_with (go_at_call 39; refine cw.mono ?_; rintro e w' ⟨rfl, rfl⟩)
        go_ret
        exact ⟨ret_bool HB.out.symm, H2.out⟩
      · have HN : Hid ((l.take (k + 1)).all isWord = true) := Lib.hid (by rw [all_snoc l k hlt, HL.out, hw]; rfl)
        have cw := specWord_any l[k] w1 hsz.out
        rw [hw] at cw
        clear hw
        go_wp2_with (go_at_call 39; refine cw.mono ?_; rintro e w' ⟨rfl, rfl⟩)
        go_round
        case rel => exact ⟨k + 1, by omega, by go_num, HN⟩
        case measure => simp [intOf]; omega
    · obtain rfl : k = l.length := by omega
      have HE := Lib.hid (topicP_end HL.out)
      clear HL
      go_wp2
      go_ret
      exact ⟨ret_bool (by rw [HE.out]; grind), H2.out⟩

end Go.Proofs.YtiigllhedlpccaaDoor
