/- The walks of impl.PartsOf and impl.TopicOk: is a text a topic? -/
import Derived.Test.YtiigllhedlpccaaDoorRanges
import Derived.Test.YtiigllhedlpccaaDoorSTopic
import Derived.Test.YtiigllhedlpccaaDoorShelf
namespace Go.Proofs.YtiigllhedlpccaaDoor
open Go.RowKit

theorem implParts_any (s : ByteArray) (m : Int) (w : World) (hs : s.size ≤ 1048576) (hm : w.cell? ⟨0, 0, none⟩ = some (.int .i64 m)) :
    Calls Tryd.prog 46 #[.string s] w fun e w' =>
      ∃ v, e = .returned v ∧ w'.ownsRow w.heap.size 9 1 v (parts s 47).length (texts (parts s 47)) ∧ Below w.heap.size w w' := by
  have c := Tryd.strings_Split s ⟨#[47]⟩ m w (by omega) hm (Nat.le_refl 1)
  rw [splitB_parts, countB_parts] at c
  have hp := parts_le s 47
  go_enter Tryd.func46, Tryd.ntmps46
  go_wp2_with (go_at_call 49; refine c.mono ?_; rintro e w' ⟨rfl, rfl⟩)
  go_ret
  refine ⟨_, rfl, ?_, (Below.refl _ _).alloc (Nat.le_refl _) _⟩
  have := World.ownsRow_lit (base := w.heap.size) (e := 9) (size := 1) w (texts (parts s 47)).toArray (parts s 47).length (Nat.le_refl _) (by unfold maxLen; omega) (by simp)
  simpa using this

set_option maxRecDepth 100000 in
set_option maxHeartbeats 800000 in
theorem implTopic_any (s : ByteArray) (m : Int) (w : World) (hs : s.size ≤ 1048576) (hm : w.cell? ⟨0, 0, none⟩ = some (.int .i64 m)) :
    Calls Tryd.prog 36 #[.string s] w fun e w' => e = .returned (.bool (topicP (parts s 47))) ∧ Below w.heap.size w w' := by
  have hpos := parts_pos s 47
  have hple := parts_le s 47
  have hps : Hid (∀ p ∈ parts s 47, p.size ≤ s.size) := Lib.hid (fun p h => parts_size h)
  obtain ⟨l, hl⟩ : ∃ l, parts s 47 = l := ⟨_, rfl⟩
  have hc := implParts_any s m w hs hm
  rw [hl] at hpos hple hps hc ⊢
  clear hl hm
  by_cases h6 : l.length ≤ 6
  · go_enter Tryd.func36, Tryd.ntmps36
    go_wp2_with (go_at_call 46; refine hc.mono ?_; clear hc; rintro e w1 ⟨v, rfl, h1, h2⟩; obtain ⟨g, cap, rfl, hg1, hg2, hcell, _⟩ := row_open h1 hpos; have HC := Lib.hid hcell; have H2 := Lib.hid h2; clear h1 h2 hcell)
    go_loopw [13] (fun i wr => ∃ k : Nat, k ≤ l.length ∧ i = .int .i64 k ∧ Hid ((l.take k).all isWord = true) ∧ Hid (Below w1.heap.size w1 wr)) (fun i _ => l.length - (intOf i).toNat)
    case atStart => exact ⟨0, Nat.zero_le _, rfl, rfl, Below.refl _ _⟩
    case round =>
      obtain ⟨k, hk, rfl, HL, HW⟩ := hrel
      by_cases hlt : k < l.length
      · have hcx : wr.cell? ⟨g, k, none⟩ = some (.string l[k]) := (HW.out.cell hg2).trans (HC.out k hlt)
        have hsz : Hid (l[k].size ≤ maxLen) := Lib.hid (by have := hps.out _ (List.getElem_mem hlt); unfold maxLen; omega)
        cases hw : isWord l[k]
        · have HB := Lib.hid (topicP_bad hlt hw)
          have cw := wordOk_any l[k] wr hsz.out
          rw [hw] at cw
          clear hw
          go_wp2_with (go_at_call 47; refine cw.mono ?_; rintro e w' ⟨rfl, hb⟩)
          go_ret
          exact ⟨ret_bool HB.out.symm, H2.out.trans ((HW.out.trans (hb.mono HW.out.size)).mono H2.out.size)⟩
        · have HN : Hid ((l.take (k + 1)).all isWord = true) := Lib.hid (by rw [all_snoc l k hlt, HL.out, hw]; rfl)
          have cw := wordOk_any l[k] wr hsz.out
          rw [hw] at cw
          clear hw
          go_wp2_with (go_at_call 47; refine cw.mono ?_; rintro e w' ⟨rfl, hb⟩)
          go_roundw
          case rel => exact ⟨k + 1, by omega, by go_num, HN, HW.out.trans (hb.mono HW.out.size)⟩
          case measure => simp [intOf]; omega
      · obtain rfl : k = l.length := by omega
        have HE := Lib.hid (topicP_end HL.out)
        clear HL
        go_wp2
        go_ret
        exact ⟨ret_bool (by rw [HE.out]; grind), H2.out.trans (HW.out.mono H2.out.size)⟩
  · have hf : Hid (topicP l = false) := Lib.hid (by simp [topicP, h6])
    go_enter Tryd.func36, Tryd.ntmps36
    go_wp2_with (go_at_call 46; refine hc.mono ?_; clear hc; rintro e w1 ⟨v, rfl, h1, h2⟩; obtain ⟨g, cap, rfl, hg1, hg2, hcell, _⟩ := row_open h1 hpos; have HC := Lib.hid hcell; have H2 := Lib.hid h2; clear h1 h2 hcell)
    go_ret
    exact ⟨ret_bool hf.out.symm, H2.out⟩

end Go.Proofs.YtiigllhedlpccaaDoor
