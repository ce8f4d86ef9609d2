/- Small texts, laid together. -/
import Derived.Test.YtoeeaolhfheflaaDoorZB2
import Derived.Test.YtoeeaolhfheflaaDoorZB1
set_option linter.unusedSimpArgs false
set_option linter.unusedVariables false
/- The walks of the reference's drawn texts: short ones; of what was there nothing turns but the cursor's own block. -/
namespace Go.Proofs.YtoeeaolhfheflaaDoor
open Go.RowKit

theorem pick_small6 {r : Nat} (h : r < 6) : ∃ x : ByteArray, (#[Value.string ⟨#[97]⟩, Value.string ⟨#[98]⟩, Value.string ⟨#[99]⟩, Value.string ⟨#[120, 49]⟩, Value.string ⟨#[43]⟩, Value.string ⟨#[43]⟩] : Array Value)[r]? = some (.string x) ∧ x.size ≤ 2 := by
  match r, h with
  | 0, _ => exact ⟨_, rfl, by decide⟩
  | 1, _ => exact ⟨_, rfl, by decide⟩
  | 2, _ => exact ⟨_, rfl, by decide⟩
  | 3, _ => exact ⟨_, rfl, by decide⟩
  | 4, _ => exact ⟨_, rfl, by decide⟩
  | 5, _ => exact ⟨_, rfl, by decide⟩

theorem pick_small4 {r : Nat} (h : r < 4) : ∃ x : ByteArray, (#[Value.string ⟨#[97]⟩, Value.string ⟨#[98]⟩, Value.string ⟨#[99]⟩, Value.string ⟨#[120, 49]⟩] : Array Value)[r]? = some (.string x) ∧ x.size ≤ 2 := by
  match r, h with
  | 0, _ => exact ⟨_, rfl, by decide⟩
  | 1, _ => exact ⟨_, rfl, by decide⟩
  | 2, _ => exact ⟨_, rfl, by decide⟩
  | 3, _ => exact ⟨_, rfl, by decide⟩

theorem size_app0 (s y : ByteArray) : (s ++ y).size = s.size + y.size := ByteArray.size_append
theorem size_slash : (⟨#[47]⟩ : ByteArray).size = 1 := rfl
theorem size_hash : (⟨#[47, 35]⟩ : ByteArray).size = 2 := rfl

set_option maxRecDepth 100000 in
set_option maxHeartbeats 1600000 in
theorem drawFilter_any {g : Nat} {a : Option Addr} {len cap : Nat} {w : World} (h : Curs g a len cap w) :
    Calls Tryd.prog 32 #[.pointer (some ⟨g, 0, none⟩)] w fun e w' => ∃ s : ByteArray, e = .returned (.string s) ∧ s.size ≤ 11 ∧ Curs g a len cap w' ∧ w.grownBy w' (some g) := by
  have HH := Lib.hid h
  clear h
  go_enter Tryd.func32, Tryd.ntmps32
  go_wp2_with fail
  refine (curBelow_any 3 (by omega) HH.out).mono ?_
  rintro e w1 ⟨r, hr, rfl, h1, g1⟩
  have H1 := Lib.hid h1
  have G1 := Lib.hid g1
  have hr3 : r ≤ 2 := by rcases hr with h | h <;> omega
  clear h1 g1 HH hr
  go_wp2_with fail
  go_loopw [3, 4] (fun sv nv wr => ∃ (s : ByteArray) (k : Nat), sv = .string s ∧ nv = .int .i64 k ∧ s.size + 3 * k ≤ 9 ∧ Hid (Curs g a len cap wr) ∧ Hid (w.grownBy wr (some g))) (fun _ nv _ => (intOf nv).toNat)
  case atStart => exact ⟨_, 1 + r, rfl, congrArg (Value.int .i64) (by omega), by show 0 + _ ≤ _; omega, H1, G1⟩
  case round =>
    obtain ⟨s, k, rfl, rfl, hsz, HR, HW⟩ := hrel
    clear H1 G1 hr3
    by_cases hk : 0 < k
    · have hg2 := HR.out.lt
      go_wp2_with fail
      all_goals
        refine (curBelow_any 6 (by omega) (HR.out.alloc _)).mono ?_
        rintro e w3 ⟨r3, hr3, rfl, h3, g3⟩
        obtain ⟨y, hy, hys⟩ := pick_small6 (r := r3) (by rcases hr3 with h | h <;> omega)
        have hr6 : r3 < 6 := by rcases hr3 with h | h <;> omega
        have hcell := (pick_lit g3 hg2).trans hy
        have HG3 := Lib.hid (grown_trans HW.out (grown_trans (grown_alloc wr _ (some g)) g3))
        have H3 := Lib.hid h3
        clear g3 h3 hy HR HW hr3
        go_wp2
        go_roundw
        case rel => exact ⟨_, k - 1, rfl, congrArg (Value.int .i64) (by omega), by simp only [size_app0, size_slash]; omega, H3, HG3⟩
        case measure => simp only [intOf]; omega
    · go_wp2_with fail
      refine (curBelow_any 5 (by omega) HR.out).mono ?_
      rintro e w3 ⟨r3, hr3, rfl, h3, g3⟩
      have HG3 := Lib.hid (grown_trans HW.out g3)
      have H3 := Lib.hid h3
      clear g3 h3 HR HW hr3
      go_wp2
      all_goals
        go_ret
        exact ⟨_, rfl, by first | omega | (simp only [size_app0, size_hash]; omega) | decide, H3.out, HG3.out⟩

set_option maxRecDepth 100000 in
set_option maxHeartbeats 1600000 in
theorem drawTopic_any {g : Nat} {a : Option Addr} {len cap : Nat} {w : World} (h : Curs g a len cap w) :
    Calls Tryd.prog 45 #[.pointer (some ⟨g, 0, none⟩)] w fun e w' => ∃ s : ByteArray, e = .returned (.string s) ∧ s.size ≤ 11 ∧ Curs g a len cap w' ∧ w.grownBy w' (some g) := by
  have HH := Lib.hid h
  clear h
  go_enter Tryd.func45, Tryd.ntmps45
  go_wp2_with fail
  refine (curBelow_any 3 (by omega) HH.out).mono ?_
  rintro e w1 ⟨r, hr, rfl, h1, g1⟩
  have H1 := Lib.hid h1
  have G1 := Lib.hid g1
  have hr3 : r ≤ 2 := by rcases hr with h | h <;> omega
  clear h1 g1 HH hr
  go_wp2_with fail
  go_loopw [3, 4] (fun sv nv wr => ∃ (s : ByteArray) (k : Nat), sv = .string s ∧ nv = .int .i64 k ∧ s.size + 3 * k ≤ 9 ∧ Hid (Curs g a len cap wr) ∧ Hid (w.grownBy wr (some g))) (fun _ nv _ => (intOf nv).toNat)
  case atStart => exact ⟨_, 1 + r, rfl, congrArg (Value.int .i64) (by omega), by show 0 + _ ≤ _; omega, H1, G1⟩
  case round =>
    obtain ⟨s, k, rfl, rfl, hsz, HR, HW⟩ := hrel
    clear H1 G1 hr3
    by_cases hk : 0 < k
    · have hg2 := HR.out.lt
      go_wp2_with fail
      all_goals
        refine (curBelow_any 4 (by omega) (HR.out.alloc _)).mono ?_
        rintro e w3 ⟨r3, hr3, rfl, h3, g3⟩
        obtain ⟨y, hy, hys⟩ := pick_small4 (r := r3) (by rcases hr3 with h | h <;> omega)
        have hr6 : r3 < 4 := by rcases hr3 with h | h <;> omega
        have hcell := (pick_lit g3 hg2).trans hy
        have HG3 := Lib.hid (grown_trans HW.out (grown_trans (grown_alloc wr _ (some g)) g3))
        have H3 := Lib.hid h3
        clear g3 h3 hy HR HW hr3
        go_wp2
        go_roundw
        case rel => exact ⟨_, k - 1, rfl, congrArg (Value.int .i64) (by omega), by simp only [size_app0, size_slash]; omega, H3, HG3⟩
        case measure => simp only [intOf]; omega
    · go_wp2
      go_ret
      exact ⟨_, rfl, by omega, HR.out, HW.out⟩

end Go.Proofs.YtoeeaolhfheflaaDoor

/- The walks of the laws' texts by dice: a topic and a filter of at most three words. -/
namespace Go.Proofs.YtoeeaolhfheflaaDoor
open Go.RowKit
set_option maxRecDepth 100000 in
set_option maxHeartbeats 1600000 in
theorem topic_any {g : Nat} {a : Option Addr} {len cap : Nat} {w : World} (h : Rolls g a len cap w) :
    Calls Tryd.prog 17 #[.pointer (some ⟨g, 0, none⟩)] w fun e w' => ∃ (s : ByteArray) (n : Nat), e = .returned (.string s) ∧ n ≤ 3 ∧ NameN false s n ∧ s.size ≤ 8 ∧ Rolls g a len cap w' ∧ w.grownBy w' (some g) := by
  have hg := h.lt
  go_enter Tryd.func17, Tryd.ntmps17
  go_wp2_with fail
  refine (roll_below 4 (by omega) (by omega) (h.alloc _)).mono ?_
  rintro e w1 ⟨r, hr, rfl, h1, g1⟩
  obtain ⟨x, hx, hgood, hxs⟩ := pick_topic1 hr
  have hcell := (pick_lit g1 hg).trans hx
  have HG := Lib.hid (grown_trans (grown_alloc w _ (some g)) g1)
  have H1 := Lib.hid h1
  have HN := Lib.hid (NameN.one hgood)
  clear g1 h1 hx hgood h
  go_wp2_with fail
  refine (roll_below 3 (by omega) (by omega) H1.out).mono ?_
  rintro e w2 ⟨r2, hr2, rfl, h2, g2⟩
  have HG2 := Lib.hid (grown_trans HG.out g2)
  have H2 := Lib.hid h2
  clear g2 h2 H1 HG hcell
  go_wp2_with fail
  go_loopw [3, 4] (fun sv nv wr => ∃ (s : ByteArray) (k n : Nat), sv = .string s ∧ nv = .int .i64 k ∧ k + n ≤ 3 ∧ Hid (NameN false s n) ∧ s.size ≤ 2 + 2 * n ∧ Hid (Rolls g a len cap wr) ∧ Hid (w.grownBy wr (some g))) (fun _ nv _ => (intOf nv).toNat)
  case atStart => exact ⟨x, r2, 1, rfl, rfl, by omega, HN, by omega, H2, HG2⟩
  case round =>
    obtain ⟨s, k, n, rfl, rfl, hkn, HS, hsz, HR, HW⟩ := hrel
    clear HN H2 HG2 hxs hr2
    by_cases hk : 0 < k
    · have hg2 := HR.out.lt
      go_wp2_with fail
      refine (roll_below 3 (by omega) (by omega) (HR.out.alloc _)).mono ?_
      rintro e w3 ⟨r3, hr3, rfl, h3, g3⟩
      obtain ⟨y, hy, hgy, hys⟩ := pick_topic2 hr3
      have hcell := (pick_lit g3 hg2).trans hy
      have HG3 := Lib.hid (grown_trans HW.out (grown_trans (grown_alloc wr _ (some g)) g3))
      have H3 := Lib.hid h3
      have HN := Lib.hid (NameN.next HS.out hgy)
      clear g3 h3 hy hgy HR HW HS
      go_wp2
      go_roundw
      case rel => exact ⟨_, k - 1, n + 1, rfl, congrArg (Value.int .i64) (by omega), by omega, HN, by rw [size_app1]; omega, H3, HG3⟩
      case measure => simp only [intOf]; omega
    · go_wp2
      go_ret
      exact ⟨s, n, rfl, by omega, HS.out, by omega, HR.out, HW.out⟩


end Go.Proofs.YtoeeaolhfheflaaDoor

/- The walks of impl.PartsOf and impl.TopicOk: is a text a topic? -/
namespace Go.Proofs.YtoeeaolhfheflaaDoor
open Go.RowKit

set_option maxRecDepth 100000 in
set_option maxHeartbeats 800000 in
theorem implTopic_any (s : ByteArray) (m : Int) (w : World) (hs : s.size ≤ 1048576) (hm : w.cell? ⟨0, 0, none⟩ = some (.int .i64 m)) :
    Calls Tryd.prog 54 #[.string s] w fun e w' => e = .returned (.bool (topicP (parts s 47))) ∧ Below w.heap.size w w' := by
  have hpos := parts_pos s 47
  have hple := parts_le s 47
  have hps : Hid (∀ p ∈ parts s 47, p.size ≤ s.size) := Lib.hid (fun p h => parts_size h)
  obtain ⟨l, hl⟩ : ∃ l, parts s 47 = l := ⟨_, rfl⟩
  have hc := implParts_any s m w hs hm
  rw [hl] at hpos hple hps hc ⊢
  clear hl hm
  by_cases h6 : l.length ≤ 6
  · go_enter Tryd.func54, Tryd.ntmps54
    go_wp2_with (go_at_call 64; refine hc.mono ?_; clear hc; rintro e w1 ⟨v, rfl, h1, h2⟩; obtain ⟨g, cap, rfl, hg1, hg2, hcell, _⟩ := row_open h1 hpos; have HC := Lib.hid hcell; have H2 := Lib.hid h2; clear h1 h2 hcell)
    go_loopw [13] (fun i wr => ∃ k : Nat, k ≤ l.length ∧ i = .int .i64 k ∧ Hid ((l.take k).all isWord = true) ∧ Hid (Below w1.heap.size w1 wr)) (fun i _ => l.length - (intOf i).toNat)
    case atStart => exact ⟨0, Nat.zero_le _, rfl, rfl, Below.refl _ _⟩
    case round =>
      obtain ⟨k, hk, rfl, HL, HW⟩ := hrel
      by_cases hlt : k < l.length
      · have hcx : wr.cell? ⟨g, k, none⟩ = some (.string l[k]) := (HW.out.cell hg2).trans (HC.out k hlt)
        have hsz : Hid (l[k].size ≤ maxLen) := Lib.hid (by have := hps.out _ (List.getElem_mem hlt); unfold maxLen; omega)
        cases hw : isWord l[k]
        · have HB := Lib.hid (topicP_bad hlt hw)
          have cw := wordOk_any l[k] wr hsz.out
          rw [hw] at cw
          clear hw
          go_wp2_with (go_at_call 65; refine cw.mono ?_; rintro e w' ⟨rfl, hb⟩)
          go_ret
          exact ⟨ret_bool HB.out.symm, H2.out.trans ((HW.out.trans (hb.mono HW.out.size)).mono H2.out.size)⟩
        · have HN : Hid ((l.take (k + 1)).all isWord = true) := Lib.hid (by rw [all_snoc l k hlt, HL.out, hw]; rfl)
          have cw := wordOk_any l[k] wr hsz.out
          rw [hw] at cw
          clear hw
          go_wp2_with (go_at_call 65; refine cw.mono ?_; rintro e w' ⟨rfl, hb⟩)
          go_roundw
          case rel => exact ⟨k + 1, by omega, by go_num, HN, HW.out.trans (hb.mono HW.out.size)⟩
          case measure => simp [intOf]; omega
      · obtain rfl : k = l.length := by omega
        have HE := Lib.hid (topicP_end HL.out)
        clear HL
        go_wp2
        go_ret
        exact ⟨ret_bool (by rw [HE.out]; grind), H2.out.trans (HW.out.mono H2.out.size)⟩
  · have hf : Hid (topicP l = false) := Lib.hid (by simp [topicP, h6])
    go_enter Tryd.func54, Tryd.ntmps54
    go_wp2_with (go_at_call 64; refine hc.mono ?_; clear hc; rintro e w1 ⟨v, rfl, h1, h2⟩; obtain ⟨g, cap, rfl, hg1, hg2, hcell, _⟩ := row_open h1 hpos; have HC := Lib.hid hcell; have H2 := Lib.hid h2; clear h1 h2 hcell)
    go_ret
    exact ⟨ret_bool hf.out.symm, H2.out⟩

end Go.Proofs.YtoeeaolhfheflaaDoor
