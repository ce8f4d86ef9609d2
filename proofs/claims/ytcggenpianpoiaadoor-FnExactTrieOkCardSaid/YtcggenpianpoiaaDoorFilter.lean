/- The walk of impl.FilterOk: is a text a filter? -/
import Derived.Test.YtcggenpianpoiaaDoorTopic
import Derived.Test.YtcggenpianpoiaaDoorSFilter
namespace Go.Proofs.YtcggenpianpoiaaDoor
open Go.RowKit

set_option maxRecDepth 100000 in
set_option maxHeartbeats 1600000 in
theorem implFilter_any (s : ByteArray) (m : Int) (w : World) (hs : s.size ≤ 1048576) (hm : w.cell? ⟨0, 0, none⟩ = some (.int .i64 m)) :
    Calls Tryd.prog 37 #[.string s] w fun e w' => e = .returned (.bool (filterP (parts s 47))) ∧ Below w.heap.size w w' := by
  have hpos := parts_pos s 47
  have hple := parts_le s 47
  have hps : Hid (∀ p ∈ parts s 47, p.size ≤ s.size) := Lib.hid (fun p h => parts_size h)
  obtain ⟨l, hl⟩ : ∃ l, parts s 47 = l := ⟨_, rfl⟩
  have hc := implParts_any s m w hs hm
  rw [hl] at hpos hple hps hc ⊢
  clear hl hm
  by_cases h6 : l.length ≤ 6
  · go_enter Tryd.func37, Tryd.ntmps37
    go_wp2_with (go_at_call 40; refine hc.mono ?_; clear hc; rintro e w1 ⟨v, rfl, h1, h2⟩; obtain ⟨g, cap, rfl, hg1, hg2, hcell, _⟩ := row_open h1 hpos; have HC := Lib.hid hcell; have H2 := Lib.hid h2; clear h1 h2 hcell)
    go_loopw [14] (fun i wr => ∃ k : Nat, k ≤ l.length ∧ i = .int .i64 k ∧ Hid (filterTo l k = true) ∧ Hid (Below w1.heap.size w1 wr)) (fun i _ => l.length - (intOf i).toNat)
    case atStart => exact ⟨0, Nat.zero_le _, rfl, rfl, Below.refl _ _⟩
    case round =>
      obtain ⟨k, hk, rfl, HL, HW⟩ := hrel
      by_cases hlt : k < l.length
      · have hcx : wr.cell? ⟨g, k, none⟩ = some (.string l[k]) := (HW.out.cell hg2).trans (HC.out k hlt)
        have hsz : Hid (l[k].size ≤ maxLen) := Lib.hid (by have := hps.out _ (List.getElem_mem hlt); unfold maxLen; omega)
        obtain ⟨p, hp⟩ : ∃ p, l[k] = p := ⟨_, rfl⟩
        have HP : Hid (l[k] = p) := hp
        rw [hp] at hcx hsz
        clear hp
        have cw := wordOk_any p wr hsz.out
        obtain ⟨b, hb⟩ : ∃ b, isWord p = b := ⟨_, rfl⟩
        rw [hb] at cw
        have HB := Lib.hid hb
        clear hb
        cases b
        all_goals
          go_wp2_with (go_at_call 72; refine cw.mono ?_; rintro e w' ⟨rfl, hb⟩)
          all_goals first
            | (go_roundw
               case rel => exact ⟨k + 1, by omega, by go_num, Lib.hid (filterTo_next hlt HP.out HL.out (by have := HB.out; unfold partF; grind)), HW.out.trans (hb.mono HW.out.size)⟩
               case measure => simp [intOf]; omega)
            | (go_ret; exact ⟨ret_bool (filterP_no hlt HP.out (by have := HB.out; unfold partF; grind)).symm, H2.out.trans ((HW.out.trans (hb.mono HW.out.size)).mono H2.out.size)⟩)
      · obtain rfl : k = l.length := by omega
        have HE := Lib.hid (filterP_end HL.out)
        clear HL
        go_wp2
        go_ret
        exact ⟨ret_bool (by rw [HE.out]; grind), H2.out.trans (HW.out.mono H2.out.size)⟩
  · have hf : Hid (filterP l = false) := Lib.hid (by simp [filterP, h6])
    go_enter Tryd.func37, Tryd.ntmps37
    go_wp2_with (go_at_call 40; refine hc.mono ?_; clear hc; rintro e w1 ⟨v, rfl, h1, h2⟩; obtain ⟨g, cap, rfl, hg1, hg2, hcell, _⟩ := row_open h1 hpos; have HC := Lib.hid hcell; have H2 := Lib.hid h2; clear h1 h2 hcell)
    go_ret
    exact ⟨ret_bool hf.out.symm, H2.out⟩

end Go.Proofs.YtcggenpianpoiaaDoor
