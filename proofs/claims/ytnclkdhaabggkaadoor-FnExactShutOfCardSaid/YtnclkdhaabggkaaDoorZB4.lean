/- Small texts, laid together. -/
import Derived.Test.YtnclkdhaabggkaaDoorZMsgL
import Derived.Test.YtnclkdhaabggkaaDoorZB2
import Derived.Deep.Draws
set_option linter.unusedSimpArgs false
set_option linter.unusedVariables false
/- A measure is what is left, or -1. -/
namespace Go.Proofs.YtnclkdhaabggkaaDoor
open Go.RowKit

theorem szMs_two (l : List MsgM) (a : Int) (h : 0 ≤ a) : (szMs l a < 0 ∧ szMs l a = -1) ∨ ¬ szMs l a < 0 := by
  have hT : ∀ (l : List MsgM) (a : Int), 0 ≤ a → (szMT l a < 0 ∧ szMT l a = -1) ∨ ¬ szMT l a < 0 := by
    intro l
    induction l with
    | nil => intro a h; right; simp [szMT]; omega
    | cons x l ih =>
      intro a h
      unfold szMT
      split
      · left; exact ⟨by omega, rfl⟩
      · exact ih _ (by omega)
  unfold szMs
  split
  · left; exact ⟨by omega, rfl⟩
  · exact hT l _ (by omega)

end Go.Proofs.YtnclkdhaabggkaaDoor

/- The exact laws' copies of messages, and of rings; their marks. -/
namespace Go.Proofs.YtnclkdhaabggkaaDoor
open Go.RowKit

set_option maxRecDepth 100000 in
set_option maxHeartbeats 800000 in
theorem toMsgs_any (v : Value) (l : List MsgM) (w : World) (hl : l.length ≤ 2000000) (hv : MsgsAt w v l) :
    Calls Tryd.prog 21 #[v] w fun e w' => ∃ u, e = .returned u ∧ MOwn w' w.heap.size u l ∧ Below w.heap.size w w' := by
  obtain ⟨a, c, rfl, hc1, hc2, hc3⟩ := hv
  have HC := Lib.hid hc3
  clear hc3
  obtain ⟨i, hi1, hi2, hi3, hi4⟩ := info_parts (P := Tryd.prog) (e := 30) (z := .agg #[.int .i64 0, .int .i64 0, .string ⟨#[]⟩, .int .i64 0]) (size := 4) (bytes := 40) (by kernel_rfl)
  go_enter Tryd.func21, Tryd.ntmps21
  go_wp2_with (first | (at_make; refine wpList_make_full _ rfl _ _ _ rfl w.heap.size 30 i (.agg #[.int .i64 0, .int .i64 0, .string ⟨#[]⟩, .int .i64 0]) 4 (by kernel_rfl) hi1 hi2 hi3 _ _ _ _ l.length rfl rfl rfl rfl (by rw [hi4]; omega) (by unfold maxLen; omega) (Nat.le_refl _) ?_; intro w1 hown hgr))
  have H0 : Hid (MOwn w1 w.heap.size (.slice (some ⟨w.heap.size, 0, none⟩) l.length l.length) (l.take 0 ++ List.replicate (l.length - 0) msgZ)) := Lib.hid (by
    simp only [List.take_zero, List.nil_append, Nat.sub_zero]
    unfold MOwn
    rw [List.length_replicate, ← madeCells_four]; exact hown)
  have H1 := Lib.hid ((Below.refl w.heap.size w).grown hgr (Nat.le_refl _) (fun k h => by cases h))
  clear hown hgr hi1 hi2 hi3 hi4
  obtain ⟨g, hg⟩ : ∃ g, w.heap.size = g := ⟨_, rfl⟩
  have HG := Lib.hid hg
  rw [hg] at H0 H1 ⊢
  clear hg
  go_loopw [4] (fun i wr => ∃ k : Nat, k ≤ l.length ∧ i = .int .i64 k ∧ Hid (MOwn wr g (.slice (some ⟨g, 0, none⟩) l.length l.length) (l.take k ++ List.replicate (l.length - k) msgZ)) ∧ Hid (Below g w wr)) (fun i _ => l.length - (intOf i).toNat)
  case atStart => exact ⟨0, Nat.zero_le _, rfl, H0, H1⟩
  case round =>
    obtain ⟨k, hk, rfl, HO, HB⟩ := hrel
    by_cases hlt : k < l.length
    · obtain ⟨b, o, rfl, hin⟩ : ∃ b o, a = some ⟨b, o, none⟩ ∧ MsgsIn w b o l := by
        rcases HC.out with h | h
        · subst h; simp at hlt
        · exact h
      obtain ⟨p0, p1, p2, p3⟩ := (hin.below (show Below w.heap.size w wr by rw [HG.out]; exact HB.out)) k hlt
      have CT := Lib.hid (toMsg_any l[k] wr)
      have hlen : (l.take k ++ List.replicate (l.length - k) msgZ).length = l.length := by simp; omega
      obtain ⟨x, hx⟩ : ∃ x, l[k] = x := ⟨_, rfl⟩
      have HN := Lib.hid (take_next l msgZ l.length k rfl hlt)
      rw [hx] at p0 p1 p2 p3 CT HN
      clear hin hx
      go_wp2_with fail
      refine CT.out.mono ?_
      rintro e w2 ⟨rfl, hb2⟩
      have hgr : g ≤ wr.heap.size := by have := HB.out.size; rw [HG.out] at this; exact this
      have hU2 : MOwn w2 g (.slice (some ⟨g, 0, none⟩) l.length l.length) (l.take k ++ List.replicate (l.length - k) msgZ) := row_below HO.out hb2
      have hgB : Below g w w2 := HB.out.trans (hb2.mono hgr)
      have hP := hU2.put (k := k) x hlen.symm (by rw [hlen]; exact hlt)
      rw [HN.out] at hP
      have HP := Lib.hid hP
      have hrow : w2.ownsRow g 30 4 (.slice (some ⟨g, 0, none⟩) l.length l.length) _ _ := hU2
      rw [hlen] at hrow
      have HB3 := Lib.hid (hgB.grown (grown_put4 w2 g k x) (HG.out ▸ hgB.size) (fun k h => by cases h; exact Nat.le_refl _))
      have f0 := hrow.frozenAt (k * 4)
      have f1 := hrow.frozenAt (k * 4 + 1)
      have f2 := hrow.frozenAt (k * 4 + 2)
      have f3 := hrow.frozenAt (k * 4 + 3)
      have hex : ∀ j, j < 4 → ∃ u, w2.cell? ⟨g, k * 4 + j, none⟩ = some u := fun j hj => ⟨_, (hrow.cellAt _ (by omega)).trans (List.getElem?_eq_getElem (by rw [hrow.1]; omega))⟩
      obtain ⟨z0, c0⟩ := hex 0 (by omega)
      obtain ⟨z1, c1⟩ := hex 1 (by omega)
      obtain ⟨z2, c2⟩ := hex 2 (by omega)
      obtain ⟨z3, c3⟩ := hex 3 (by omega)
      rw [Nat.add_zero] at c0
      clear hb2 hU2 hgB hP hrow HN HB p0 p1 p2 p3 hex
      unfold put4 at HP HB3
      go_wp2
      go_roundw
      case rel => exact ⟨k + 1, by omega, by go_num, HP, HB3⟩
      case measure => simp [intOf]; omega
    · obtain rfl : k = l.length := by omega
      have HE : Hid (MOwn wr w.heap.size (.slice (some ⟨g, 0, none⟩) l.length l.length) l) := Lib.hid (by have := HO.out; simp only [List.take_length, Nat.sub_self, List.replicate_zero, List.append_nil] at this; rw [HG.out]; exact this)
      have HB2 : Hid (Below w.heap.size w wr) := Lib.hid (by rw [HG.out]; exact HB.out)
      go_wp2
      go_ret
      exact ⟨_, rfl, HE.out, HB2.out⟩

end Go.Proofs.YtnclkdhaabggkaaDoor
