/- The walk of the reference's bent texts: some bytes, not many more than there were. -/
import Derived.Test.YtfkikdoecoobgaaDoorZB2
import Derived.Test.YtfkikdoecoobgaaDoorZB1
import Derived.Lib.ConvBytes
import Derived.Deep.AppendLies
import Derived.Deep.RegionLaw
set_option linter.unusedSimpArgs false
set_option linter.unusedVariables false
namespace Go.Proofs.YtfkikdoecoobgaaDoor
open Go.RowKit

theorem Tryd.infoByte : (Tryd.prog.info? 5).map (fun i => (i.zero, i.size, i.bytes)) = some (some (.int .u8 0), 1, 1) := by kernel_rfl

/-- v is a list of the bytes l, in a block from B on. -/
def BufAt (B : Nat) (v : Value) (l : List UInt8) (w : World) : Prop :=
  ∃ g cap, v = .slice (some ⟨g, 0, none⟩) l.length cap ∧ B ≤ g ∧ g < w.heap.size ∧ l.length ≤ cap ∧ (∀ j (hj : j < l.length), w.cell? ⟨g, j, none⟩ = some (.int .u8 (l[j].toNat : Int))) ∧ (∀ j, j < l.length → w.frozen? ⟨g, j, none⟩ = false)

theorem BufAt.of_row {B g cap : Nat} {l : List UInt8} {w : World} {E : TypeId} (h : w.ownsRow B E 1 (.slice (some ⟨g, 0, none⟩) l.length cap) l.length (byteCells l)) : BufAt B (.slice (some ⟨g, 0, none⟩) l.length cap) l w := by
  have hlt := h.lt g rfl
  have hcap : l.length ≤ cap := by
    rcases h.2 with ⟨h', _⟩ | ⟨g', cap', cur, h', _, _, hn, _⟩
    · cases h'
    · cases h'; exact hn
  refine ⟨g, cap, rfl, hlt.1, hlt.2, hcap, fun j hj => ?_, fun j _ => h.frozenAt j⟩
  rw [h.cellAt j (by omega)]
  simp [byteCells, hj]

theorem BufAt.kept {B : Nat} {v : Value} {l : List UInt8} {w w' : World} (h : BufAt B v l w) (hs : w.heap.size ≤ w'.heap.size) (hb : ∀ k, B ≤ k → k < w.heap.size → w'.heap[k]? = w.heap[k]?) : BufAt B v l w' := by
  obtain ⟨g, cap, rfl, h1, h2, h3, h4, h5⟩ := h
  have e := hb g h1 h2
  exact ⟨g, cap, rfl, h1, Nat.lt_of_lt_of_le h2 hs, h3, fun j hj => (World.cell?_of_block (a := ⟨g, j, none⟩) e).trans (h4 j hj), fun j hj => (World.frozen?_of_block (a := ⟨g, j, none⟩) e).trans (h5 j hj)⟩

/-- A throw turns nothing of it. -/
theorem BufAt.thrown {B g : Nat} {v : Value} {l : List UInt8} {w w' : World} (h : BufAt B v l w) (hg : g < B) (hb : w.grownBy w' (some g)) : BufAt B v l w' :=
  h.kept hb.size (fun k h1 h2 => hb.block k h2 (by simp; omega))

theorem BufAt.take {B g cap : Nat} {l : List UInt8} {w : World} (h : BufAt B (.slice (some ⟨g, 0, none⟩) l.length cap) l w) (k : Nat) (hk : k ≤ l.length) : BufAt B (.slice (some ⟨g, 0, none⟩) k cap) (l.take k) w := by
  obtain ⟨g', cap', e, h1, h2, h3, h4, h5⟩ := h
  cases e
  have hl : (l.take k).length = k := by simp; omega
  refine ⟨g, cap, by rw [hl], h1, h2, by omega, fun j hj => ?_, fun j hj => h5 j (by omega)⟩
  rw [h4 j (by omega), List.getElem_take]

theorem BufAt.set {B g cap : Nat} {l : List UInt8} {w : World} (h : BufAt B (.slice (some ⟨g, 0, none⟩) l.length cap) l w) (k : Nat) (c : UInt8) (hk : k < l.length) : BufAt B (.slice (some ⟨g, 0, none⟩) l.length cap) (l.set k c) (w.setCell ⟨g, k, none⟩ (.int .u8 (c.toNat : Int))) := by
  obtain ⟨g', cap', e, h1, h2, h3, h4, h5⟩ := h
  cases e
  have hcell := h4 k hk
  obtain ⟨cs, t, fr, hh⟩ : ∃ cs t fr, w.heap[g]? = some (.cells cs t fr) := by
    unfold World.cell? at hcell
    split at hcell
    · rename_i cs t fr hb
      exact ⟨_, _, _, hb⟩
    · cases hcell
  have hh2 : (w.setCell ⟨g, k, none⟩ (.int .u8 (c.toNat : Int))).heap[g]? = some (.cells (cs.setIfInBounds k (.int .u8 (c.toNat : Int))) t fr) := by
    simp [World.setCell, Array.getElem?_modify, hh]
  refine ⟨g, cap, by simp, h1, by simp [World.setCell]; exact h2, by simpa using h3, fun j hj => ?_, fun j hj => ?_⟩
  · have hj2 : j < l.length := by simpa using hj
    have h6 := h4 j hj2
    have hks : k < cs.size := by
      simp only [World.cell?, hh] at hcell
      exact (Array.getElem?_eq_some_iff.1 hcell).1
    simp only [World.cell?, hh2, hh] at h6 ⊢
    rw [Array.getElem?_setIfInBounds]
    by_cases e : k = j
    · subst e; rw [if_pos rfl, if_pos hks]; simp
    · rw [if_neg e, List.getElem_set_ne e]; exact h6
  · have h6 := h5 j (by simpa using hj)
    simp only [World.frozen?, hh2, hh] at h6 ⊢
    exact h6

/-- '[]byte(s)'. -/
theorem BufAt.conv (w : World) (s : ByteArray) : BufAt w.heap.size (.slice (some ⟨w.heap.size, 0, none⟩) s.size (grownCap w s.size 0 5)) s.data.toList (Lib.bytesWorld w 5 s) := by
  have hn := Lib.bytesWorld_at_new w 5 s
  refine ⟨w.heap.size, _, rfl, Nat.le_refl _, by rw [Lib.bytesWorld_size]; omega, grownCap_ge _ _ _ _, fun j hj => ?_, fun j hj => ?_⟩
  · rw [Lib.bytesWorld_cell w 5 s j hj]
    have h2 : j < s.data.size := hj
    simp
    rw [Array.getElem?_eq_getElem h2]; rfl
  · simp only [World.frozen?, hn]
    have : j < (Lib.bytesCells w 5 s).size := by
      have h1 : j < s.size := hj
      simp only [Lib.bytesCells, Array.size_append, Array.size_map]
      exact Nat.lt_of_lt_of_le h1 (Nat.le_add_right _ _)
    simp; omega

theorem Curs.stored {g : Nat} {a : Option Addr} {len cap : Nat} {w : World} (h : Curs g a len cap w) {gb j : Nat} {v : Value} (hg : g < gb) : Curs g a len cap (w.setCell ⟨gb, j, none⟩ v) := by
  obtain ⟨i, x, hh, r⟩ := h.cur
  exact ⟨⟨i, x, (Below.heap_setCell _ _ _ _ (by simp; omega)).trans hh, r⟩, h.code.below fun k hk => Below.heap_setCell _ _ _ _ (by simp; omega)⟩

/-- What a block from B on turns to is nobody's matter below B. -/
theorem grown_new {B : Nat} {a w w' : World} {r : Option Nat} (h : a.grownBy w r) (hB : a.heap.size ≤ B) (hk : Below B w w') : a.grownBy w' r :=
  ⟨hk.os.trans h.os, hk.tape.trans h.tape, hk.output.trans h.output, Nat.le_trans h.size hk.size, fun k hk2 hr => (hk.block k (by omega)).trans (h.block k hk2 hr)⟩

/-- The cells of a list, as a source that is appended. -/
theorem src_cells {w : World} {g o : Nat} {l : List UInt8} (h : ∀ j (hj : j < l.length), w.cell? ⟨g, o + j, none⟩ = some (.int .u8 (l[j].toNat : Int))) : ∀ j u, (byteCells l)[j]? = some u → w.cell? ((⟨g, o, none⟩ : Addr).add j) = some u := by
  intro j u hu
  have hj : j < l.length := by
    have := (List.getElem?_eq_some_iff.1 hu).1
    simpa [byteCells] using this
  have hadd : (⟨g, o, none⟩ : Addr).add j = ⟨g, o + j, none⟩ := by unfold Addr.add; split <;> simp_all
  rw [hadd, h j hj]
  simp [byteCells, hj] at hu
  rw [hu]

theorem back_conv {B g c : Nat} {l : List UInt8} {w : World} (h : BufAt B (.slice (some ⟨g, 0, none⟩) l.length c) l w) :
    (convert 22 9 (.slice (some ⟨g, 0, none⟩) l.length c)).run Tryd.prog w = .ok (.string ⟨l.toArray⟩) w := by
  obtain ⟨g', c', e, _, _, _, h4, _⟩ := h
  cases e
  exact conv_bytes ⟨g, 0, none⟩ l.length c l rfl Tryd.underlying22 Tryd.underlying5 Tryd.underlying9 (src_cells (o := 0) (fun j hj => by rw [Nat.zero_add]; exact h4 j hj))

theorem src_take {B g c k : Nat} {l : List UInt8} {w : World} (h : BufAt B (.slice (some ⟨g, 0, none⟩) l.length c) l w) (hg : g < w.heap.size) : ∀ wx, Below w.heap.size w wx → ∀ j (hj : j < (l.take k).length), wx.cell? ⟨g, 0 + j, none⟩ = some (.int .u8 ((l.take k)[j].toNat : Int)) := by
  intro wx hb j hj
  obtain ⟨g', c', e, _, _, _, h4, _⟩ := h
  cases e
  rw [Nat.zero_add, below_cell hb hg, h4 j (by rw [List.length_take] at hj; omega), List.getElem_take]

theorem src_drop {B g c k : Nat} {l : List UInt8} {w : World} (h : BufAt B (.slice (some ⟨g, 0, none⟩) l.length c) l w) (hg : g < w.heap.size) : ∀ wx, Below w.heap.size w wx → ∀ j (hj : j < (l.drop k).length), wx.cell? ⟨g, k + j, none⟩ = some (.int .u8 ((l.drop k)[j].toNat : Int)) := by
  intro wx hb j hj
  obtain ⟨g', c', e, _, _, _, h4, _⟩ := h
  cases e
  rw [below_cell hb hg, h4 (k + j) (by rw [List.length_drop] at hj; omega), List.getElem_drop]

theorem one_bytes (l : List UInt8) : ∀ u ∈ byteCells l, u.oneCell' = true := by
  intro u hu; simp [byteCells] at hu; obtain ⟨c, _, rfl⟩ := hu; rfl

theorem cells_app (a b : List UInt8) : byteCells a ++ byteCells b = byteCells (a ++ b) := by simp [byteCells]

theorem Curs.below {g B : Nat} {a : Option Addr} {len cap : Nat} {w w' : World} (h : Curs g a len cap w) (hg : g < B) (hb : Below B w w') : Curs g a len cap w' := by
  obtain ⟨i, x, hh, r⟩ := h.cur
  exact ⟨⟨i, x, (hb.block g hg).trans hh, r⟩, h.code.below fun k hk => hb.block k (by omega)⟩

theorem BufAt.of_row2 {B g cap n : Nat} {l : List UInt8} {w : World} {E : TypeId} (hn : l.length = n) (h : w.ownsRow B E 1 (.slice (some ⟨g, 0, none⟩) n cap) n (byteCells l)) : BufAt B (.slice (some ⟨g, 0, none⟩) n cap) l w := by
  subst hn; exact BufAt.of_row h

theorem BufAt.mono {B B' : Nat} {v : Value} {l : List UInt8} {w : World} (h : BufAt B v l w) (hB : B' ≤ B) : BufAt B' v l w := by
  obtain ⟨g, cap, e, h1, r⟩ := h
  exact ⟨g, cap, e, Nat.le_trans hB h1, r⟩

theorem grown_on {a b c : World} {r : Option Nat} {d : Nat} (h : a.grownBy b r) (k : b.grownBy c (some d)) (hd : a.heap.size ≤ d) : a.grownBy c r :=
  ⟨k.os.trans h.os, k.tape.trans h.tape, k.output.trans h.output, Nat.le_trans h.size k.size, fun i hi hr => (k.block i (Nat.lt_of_lt_of_le hi h.size) (by simp; omega)).trans (h.block i hi hr)⟩

theorem src_take2 {B g c k : Nat} {l : List UInt8} {w : World} (h : BufAt B (.slice (some ⟨g, 0, none⟩) l.length c) l w) : ∀ wx : World, wx.heap[g]? = w.heap[g]? → ∀ j (hj : j < (l.take k).length), wx.cell? ⟨g, 0 + j, none⟩ = some (.int .u8 ((l.take k)[j].toNat : Int)) := by
  intro wx hb j hj
  obtain ⟨g', c', e, _, _, _, h4, _⟩ := h
  cases e
  rw [Nat.zero_add, World.cell?_of_block (a := ⟨g, j, none⟩) hb, h4 j (by rw [List.length_take] at hj; omega), List.getElem_take]

theorem src_drop2 {B g c k : Nat} {l : List UInt8} {w : World} (h : BufAt B (.slice (some ⟨g, 0, none⟩) l.length c) l w) : ∀ wx : World, wx.heap[g]? = w.heap[g]? → ∀ j (hj : j < (l.drop k).length), wx.cell? ⟨g, k + j, none⟩ = some (.int .u8 ((l.drop k)[j].toNat : Int)) := by
  intro wx hb j hj
  obtain ⟨g', c', e, _, _, _, h4, _⟩ := h
  cases e
  rw [World.cell?_of_block (a := ⟨g, k + j, none⟩) hb, h4 (k + j) (by rw [List.length_drop] at hj; omega), List.getElem_drop]

theorem src_one (w : World) (c : UInt8) (E : TypeId) : ∀ j (hj : j < [c].length), (w.alloc (.cells #[.int .u8 (c.toNat : Int)] E)).cell? ⟨w.heap.size, 0 + j, none⟩ = some (.int .u8 ([c][j].toNat : Int)) := by
  intro j hj
  have : j = 0 := by simp at hj; omega
  subst this
  rw [World.cell?_alloc_at _ _ _ _ rfl]; rfl

theorem below_lt {n r : Nat} (hn : 0 < n) (h : BelowN n r) : r < n := by rcases h with h | h <;> omega

theorem below_append2 {w w4 : World} {o : Obj} (h : (w.alloc o).drew.grownBy w4 (some w.heap.size)) : Below w.heap.size w w4 :=
  ((Below.refl _ _).alloc (Nat.le_refl _) o).drew.grown h (by show _ ≤ (w.alloc o).heap.size; simp) (fun k hk => by cases hk; exact Nat.le_refl _)

/-- An append of bytes onto a row of the call's own, at a step of a statement that draws its order. -/
theorem step_append_bytes {ops : Array Oper} {o : Oper} {a : Act} {K : Act → World → Prop} {Q : Exit → Act → World → Prop} {E : Prop} {wx : World} (hgd : o.guard = none) (s x : Operand)
    (ho : o.op = .call { callee := .builtin .append, args := #[s, x], argTypes := #[22, 22] })
    (B d c0 n1 : Nat) (l1 : List UInt8) (hs : a.eval s = .slice (some ⟨d, 0, none⟩) n1 c0) (hown : wx.ownsRow B 5 1 (.slice (some ⟨d, 0, none⟩) n1 c0) n1 (byteCells l1))
    (gs os c m : Nat) (l2 : List UInt8) (hm : l2.length = m) (hx : a.eval x = .slice (some ⟨gs, os, none⟩) m c)
    (hsrc : ∀ j (hj : j < l2.length), wx.cell? ⟨gs, os + j, none⟩ = some (.int .u8 (l2[j].toNat : Int))) (n : Nat) (l3 : List UInt8) (hn : n1 + m = n) (hl3 : l1 ++ l2 = l3) (hsz : n ≤ 100000) (hB : B ≤ wx.heap.size)
    (h : ∀ g cap w', w'.ownsRow B 5 1 (.slice (some ⟨g, 0, none⟩) n cap) n (byteCells l3) → wx.grownBy w' (some d) → K (a.put o.dst (.slice (some ⟨g, 0, none⟩) n cap)) w') :
    if Region.wanted o (yielded ops a.tmps) = true then Oper.wp Tryd.prog o a wx K Q else E := by
  have hw : Region.wanted o (yielded ops a.tmps) = true := by simp [Region.wanted, hgd]
  rw [if_pos hw]
  subst hn
  subst hl3
  obtain ⟨i0, hi, hz0, hz1, hz2⟩ := info_parts Tryd.infoByte
  obtain ⟨v', w', hr, h2, h3, h4, _⟩ := run_append_own_at (P := Tryd.prog) wx B 22 o.type 5 i0 (.int .u8 0) 1 1 Tryd.underlying22 hi hz0 hz1 hz2 rfl (by decide) _ n1 (byteCells l1) hown ⟨gs, os, none⟩ m c (byteCells l2) (by simp [byteCells, hm]) (src_cells hsrc) (one_bytes l2) (by unfold maxLen; omega) (by omega) hB
  have hne : v' ≠ .slice none 0 0 := fun e => by have := (h4.1 e).1; cases this
  obtain ⟨g, cap, rfl⟩ : ∃ g cap, v' = .slice (some ⟨g, 0, none⟩) (n1 + m) cap := by
    rcases h2.2 with ⟨e, _⟩ | ⟨g, cap, _, e, _⟩
    · exact absurd e hne
    · exact ⟨g, cap, e⟩
  unfold Oper.wp execOp
  simp only [ho, resolve, invoke, builtin, Sem.run_bind, Sem.run_pure, Result.andThen_ok, List.map_toArray, List.map_cons, List.map_nil, hs, hx, hr]
  rw [cells_app] at h2
  exact h g cap w' h2 h3

set_option maxRecDepth 100000 in
set_option maxHeartbeats 1600000 in
theorem bend_any {g : Nat} {a : Option Addr} {len cap : Nat} {w : World} (s signs : ByteArray) (hs : s.size ≤ 1000) (hz : 0 < signs.size) (hz2 : signs.size ≤ 200) (h : Curs g a len cap w) :
    Calls Tryd.prog 56 #[.pointer (some ⟨g, 0, none⟩), .string s, .string signs] w fun e w' => ∃ t : ByteArray, e = .returned (.string t) ∧ t.size ≤ s.size + 2 ∧ Curs g a len cap w' ∧ w.grownBy w' (some g) := by
  have hconv := Lib.run_convert_string_bytes (P := Tryd.prog) w 9 22 5 s Tryd.underlying9 Tryd.underlying22 Tryd.underlying5
  have hbuf := BufAt.conv w s
  have hbel : Below w.heap.size w (Lib.bytesWorld w 5 s) := ⟨rfl, rfl, rfl, by rw [Lib.bytesWorld_size]; omega, fun k hk => Lib.bytesWorld_at_old w _ s k hk⟩
  have hg := h.lt
  have H0 := Lib.hid (h.after hbel)
  have G0 := Lib.hid (grown_below (r := some g) hbel)
  generalize Lib.bytesWorld w 5 s = w0 at hconv hbuf H0 G0
  have B0 := Lib.hid hbuf
  obtain ⟨c0, hc0⟩ : ∃ c0, grownCap w s.size 0 5 = c0 := ⟨_, rfl⟩
  rw [hc0] at hconv B0
  have hlen0 : s.data.toList.length = s.size := rfl
  clear hbuf hbel hc0 h
  go_enter Tryd.func56, Tryd.ntmps56
  go_wp2_with fail
  refine (curBelow_any 3 (by omega) H0.out).mono ?_
  rintro e w1 ⟨r, hr, rfl, h1, g1⟩
  have hr3 : r ≤ 2 := by rcases hr with h | h <;> omega
  have H1 := Lib.hid h1
  have B1 := Lib.hid (B0.out.thrown hg g1)
  have G1 := Lib.hid (grown_trans G0.out g1)
  clear h1 g1 H0 G0 B0 hr hconv
  go_wp2_with fail
  go_loopw [7, 8] (fun bv nv wr => ∃ (l : List UInt8) (k : Nat), nv = .int .i64 k ∧ k ≤ 2 ∧ l.length + k ≤ s.size + 2 ∧ Hid (BufAt w.heap.size bv l wr) ∧ Hid (Curs g a len cap wr) ∧ Hid (w.grownBy wr (some g))) (fun _ nv _ => (intOf nv).toNat)
  case atStart => exact ⟨s.data.toList, r, rfl, hr3, by omega, B1, H1, G1⟩
  case round =>
    obtain ⟨l, k, rfl, hk2, hlk, HB, HR, HW⟩ := hrel
    obtain ⟨gb, cb, rfl, hb1, hb2, hb3, _⟩ := HB.out
    clear B1 H1 G1 hr3
    by_cases hk : 0 < k
    · by_cases hl : 0 < l.length
      · go_wp2_with fail
        refine (curBelow_any l.length (by omega) HR.out).mono ?_
        rintro e w2 ⟨q, hq, rfl, h2, g2⟩
        have hql : q < l.length := by rcases hq with h | h <;> omega
        have HB2 := Lib.hid (HB.out.thrown hg g2)
        have HR2 := Lib.hid h2
        have HW2 := Lib.hid (grown_trans HW.out g2)
        have hs2 : gb < w2.heap.size := Nat.lt_of_lt_of_le hb2 g2.size
        clear h2 g2 HB HR HW hq hb2
        go_wp2_with fail
        refine (curBelow_any 4 (by omega) HR2.out).mono ?_
        rintro e w3 ⟨x, hx, rfl, h3, g3⟩
        have hx4 : x < 4 := by rcases hx with h | h <;> omega
        have HB3 := Lib.hid (HB2.out.thrown hg g3)
        have HR3 := Lib.hid h3
        have HW3 := Lib.hid (grown_trans HW2.out g3)
        have hs3 : gb < w3.heap.size := Nat.lt_of_lt_of_le hs2 g3.size
        clear h3 g3 HB2 HR2 HW2 hx hs2
        have hcases : x = 0 ∨ x = 1 ∨ x = 2 ∨ x = 3 := by omega
        clear hx4
        rcases hcases with rfl | rfl | rfl | rfl
        · go_wp2_with fail
          refine (curBelow_any signs.size (by omega) HR3.out).mono ?_
          rintro e w4 ⟨y, hy, rfl, h4, g4⟩
          have hy4 : y < signs.size := by rcases hy with h | h <;> omega
          have HB4 := Lib.hid (HB3.out.thrown hg g4)
          have HR4 := Lib.hid h4
          have HW4 := Lib.hid (grown_trans HW3.out g4)
          clear h4 g4 HB3 HR3 HW3 hy
          have hfz : w4.frozen? ⟨gb, q, none⟩ = false := by
            obtain ⟨_, _, e, _, _, _, _, h5⟩ := HB4.out
            cases e; exact h5 q hql
          have hcell : w4.cell? ⟨gb, q, none⟩ = some (.int .u8 (l[q].toNat : Int)) := by
            obtain ⟨_, _, e, _, _, _, h5, _⟩ := HB4.out
            cases e; exact h5 q hql
          go_wp2
          go_roundw
          case rel => exact ⟨l.set q signs[y], k - 1, congrArg (Value.int .i64) (by omega), by omega, by simp; omega, HB4.out.set q signs[y] hql, HR4.out.stored (by omega), grown_new HW4.out (Nat.le_refl _) ((Below.refl _ _).setCell (p := ⟨gb, q, none⟩) hb1 _)⟩
          case measure => simp only [intOf]; omega
        · go_wp2
          go_roundw
          case rel => exact ⟨l.take q, k - 1, congrArg (Value.int .i64) (by omega), by omega, by rw [List.length_take]; omega, HB3.out.take q (by omega), HR3.out, HW3.out⟩
          case measure => simp only [intOf]; omega
        · have f1 : q ≤ cb := by omega
          have f2 : (0 : Int) ≤ (q : Int) + 1 := by omega
          have f3 : (q : Int) + 1 ≤ (l.length : Int) := by omega
          have f4 : ((q : Int) + 1).toNat = q + 1 := by omega
          have f5 : q + 1 ≤ l.length := by omega
          have f6 : q + 1 ≤ cb := by omega
          have f9 : IntKind.i64.wrap ((q : Int) + 1) = (q : Int) + 1 := by rw [IntKind.wrap_i64]; omega
          have HS1 : Hid (∀ wx, Below w3.heap.size w3 wx → ∀ j (hj : j < (l.take q).length), wx.cell? ⟨gb, 0 + j, none⟩ = some (.int .u8 ((l.take q)[j].toNat : Int))) := Lib.hid (src_take HB3.out hs3)
          have hlt2 : (l.take q).length = q := by rw [List.length_take]; omega
          have hlt3 : (l.drop (q + 1)).length = l.length - (q + 1) := List.length_drop ..
          have HL := Lib.hid hlt2
          have HL2 := Lib.hid hlt3
          have hB3 : w.heap.size ≤ w3.heap.size := HW3.out.size
          clear hlt2 hlt3
          by_cases hcq : cb = q + 1
          · have HL3 : Hid ((l.drop (q + 1)).length = 0) := Lib.hid (by rw [HL2.out]; omega)
            have f4b : ((q : Int) + 1).toNat = cb := by omega
            have f3b : cb ≤ l.length := by omega
            have HL4 := Lib.hid hcq
            clear f4 hcq f5 f6
            have HS2 : Hid (∀ wx, Below w3.heap.size w3 wx → ∀ j (hj : j < (l.drop (q + 1)).length), wx.cell? ⟨gb, 0 + j, none⟩ = some (.int .u8 ((l.drop (q + 1))[j].toNat : Int))) := Lib.hid (fun wx _ j hj => by have := HL2.out; have := HL4.out; omega)
            go_wp2_with fail
            go_region_law (first
              | (refine step_append_bytes rfl (.tmp 47) (.tmp 50) rfl w.heap.size w3.heap.size 0 0 [] rfl (World.ownsRow_made _ _ _ hB3 (Nat.zero_le _) rfl) gb 0 _ q (l.take q) HL.out rfl (HS1.out _ (by exact ((Below.refl _ _).alloc (Nat.le_refl _) _).drew)) q (l.take q) (Nat.zero_add _) rfl (by omega) (by simp; omega) ?_; intro g1 cap1 w4 ho4 hg4)
              | (refine step_append_bytes rfl (.tmp 51) (.tmp 55) rfl w.heap.size g1 cap1 q (l.take q) rfl ho4 gb 0 _ 0 (l.drop (q + 1)) HL3.out rfl (HS2.out _ (below_append2 hg4)) q (l.take q ++ l.drop (q + 1)) (Nat.add_zero q) rfl (by omega) (Nat.le_trans hB3 (below_append2 hg4).size) ?_; intro g2 cap2 w5 ho5 hg5))
            have hlen5 : (l.take q ++ l.drop (q + 1)).length = q := by rw [List.length_append, HL.out, HL3.out]; rfl
            have hb35 := ((below_append2 hg4).mono hB3).grown hg5 (Nat.le_trans hB3 (below_append2 hg4).size) (fun k hk => by cases hk; exact (ho4.lt g1 rfl).1)
            have HB5 := Lib.hid (BufAt.of_row2 hlen5 ho5)
            have HR5 := Lib.hid (HR3.out.below hg hb35)
            have HW5 := Lib.hid (grown_new HW3.out (Nat.le_refl _) hb35)
            have HL5 := Lib.hid hlen5
            clear hlen5 hb35 ho4 hg4 ho5 hg5 HS1 HS2 HL HL2 HL3 HB3 HR3 HW3 f9
            go_wp2
            go_roundw
            case rel => exact ⟨_, k - 1, congrArg (Value.int .i64) (by omega), by omega, by have := HL4.out; rw [HL5.out]; omega, HB5, HR5, HW5⟩
            case measure => simp only [intOf]; omega
          · have HS2 : Hid (∀ wx, Below w3.heap.size w3 wx → ∀ j (hj : j < (l.drop (q + 1)).length), wx.cell? ⟨gb, q + 1 + j, none⟩ = some (.int .u8 ((l.drop (q + 1))[j].toNat : Int))) := Lib.hid (src_drop HB3.out hs3)
            have f8 : ¬ (cb = q + 1) := hcq
            go_wp2_with fail
            go_region_law (first
              | (refine step_append_bytes rfl (.tmp 47) (.tmp 50) rfl w.heap.size w3.heap.size 0 0 [] rfl (World.ownsRow_made _ _ _ hB3 (Nat.zero_le _) rfl) gb 0 _ q (l.take q) HL.out rfl (HS1.out _ (by exact ((Below.refl _ _).alloc (Nat.le_refl _) _).drew)) q (l.take q) (Nat.zero_add _) rfl (by omega) (by simp; omega) ?_; intro g1 cap1 w4 ho4 hg4)
              | (refine step_append_bytes rfl (.tmp 51) (.tmp 55) rfl w.heap.size g1 cap1 q (l.take q) rfl ho4 gb (q + 1) _ (l.length - (q + 1)) (l.drop (q + 1)) HL2.out rfl (HS2.out _ (below_append2 hg4)) (q + (l.length - (q + 1))) (l.take q ++ l.drop (q + 1)) rfl rfl (by omega) (Nat.le_trans hB3 (below_append2 hg4).size) ?_; intro g2 cap2 w5 ho5 hg5))
            have hlen5 : (l.take q ++ l.drop (q + 1)).length = q + (l.length - (q + 1)) := by rw [List.length_append, HL.out, HL2.out]
            have hb35 := ((below_append2 hg4).mono hB3).grown hg5 (Nat.le_trans hB3 (below_append2 hg4).size) (fun k hk => by cases hk; exact (ho4.lt g1 rfl).1)
            have HB5 := Lib.hid (BufAt.of_row2 hlen5 ho5)
            have HR5 := Lib.hid (HR3.out.below hg hb35)
            have HW5 := Lib.hid (grown_new HW3.out (Nat.le_refl _) hb35)
            have HL5 := Lib.hid hlen5
            clear hlen5 hb35 ho4 hg4 ho5 hg5 HS1 HS2 HL HL2 HB3 HR3 HW3 f9
            go_wp2
            go_roundw
            case rel => exact ⟨_, k - 1, congrArg (Value.int .i64) (by omega), by omega, by rw [HL5.out]; omega, HB5, HR5, HW5⟩
            case measure => simp only [intOf]; omega
        · have f1 : q ≤ cb := by omega
          have f3 : q ≤ l.length := by omega
          have f8 : ¬ (cb = q) := by omega
          have HS1 : Hid (∀ wx : World, wx.heap[gb]? = w3.heap[gb]? → ∀ j (hj : j < (l.take q).length), wx.cell? ⟨gb, 0 + j, none⟩ = some (.int .u8 ((l.take q)[j].toNat : Int))) := Lib.hid (src_take2 HB3.out)
          have HS2 : Hid (∀ wx : World, wx.heap[gb]? = w3.heap[gb]? → ∀ j (hj : j < (l.drop q).length), wx.cell? ⟨gb, q + j, none⟩ = some (.int .u8 ((l.drop q)[j].toNat : Int))) := Lib.hid (src_drop2 HB3.out)
          have HL : Hid ((l.take q).length = q) := Lib.hid (by rw [List.length_take]; omega)
          have HL2 : Hid ((l.drop q).length = l.length - q) := Lib.hid (List.length_drop ..)
          have hB3 : w.heap.size ≤ w3.heap.size := HW3.out.size
          go_wp2_with fail
          go_region_law (first
            | (refine step_append_bytes rfl (.tmp 59) (.tmp 62) rfl w3.heap.size w3.heap.size 0 0 [] rfl (World.ownsRow_made _ _ _ (Nat.le_refl _) (Nat.zero_le _) rfl) gb 0 _ q (l.take q) HL.out rfl (HS1.out _ (by exact Below.heap_alloc _ _ _ hs3)) q (l.take q) (Nat.zero_add _) rfl (by omega) (by simp) ?_; intro g1 cap1 w4 ho4 hg4)
            | (go_simp; go_at_call 31; refine (curBelow_any signs.size (by omega) (HR3.out.below HR3.out.lt (below_append2 hg4))).mono ?_; rintro e w5 ⟨y, hy, rfl, h5, g5⟩; have hy4 : y < signs.size := below_lt hz hy; have hg1 : w3.heap.size ≤ g1 := (ho4.lt g1 rfl).1; have O5 := Lib.hid (ho4.kept g5 (.inr (by have := HR3.out.lt; simp [Value.ownBlock]; omega))); have K5 := Lib.hid (grown_trans (grown_below (r := some g) (below_append2 hg4)) g5); have hs5 : w3.heap.size ≤ w5.heap.size := Nat.le_trans (below_append2 hg4).size g5.size; have C5 := Lib.hid h5; clear ho4 hg4 g5 h5 hy)
            | (refine step_append_bytes rfl (.tmp 63) (.tmp 70) rfl w3.heap.size g1 cap1 q (l.take q) rfl (by exact (O5.out.alloc _)) w5.heap.size 0 _ 1 [signs[y]] rfl rfl (by exact (src_one w5 signs[y] _)) (q + 1) (l.take q ++ [signs[y]]) rfl rfl (by omega) (by simp; omega) ?_; intro g2 cap2 w6 ho6 hg6; have K6 := Lib.hid (grown_on (grown_trans K5.out (grown_alloc w5 _ _)) hg6 hg1); have hg2 : w3.heap.size ≤ g2 := (ho6.lt g2 rfl).1; have hs6 : w3.heap.size ≤ w6.heap.size := K6.out.size)
            | (refine step_append_bytes rfl (.tmp 71) (.tmp 74) rfl w3.heap.size g2 cap2 (q + 1) (l.take q ++ [signs[y]]) rfl ho6 gb q _ (l.length - q) (l.drop q) HL2.out rfl (HS2.out _ (K6.out.block gb hs3 (by simp; omega))) (q + 1 + (l.length - q)) (l.take q ++ [signs[y]] ++ l.drop q) rfl rfl (by omega) hs6 ?_; intro g3 cap3 w7 ho7 hg7))
          have hlen5 : (l.take q ++ [signs[y]] ++ l.drop q).length = q + 1 + (l.length - q) := by rw [List.length_append, List.length_append, HL.out, HL2.out]; rfl
          have hb57 : Below w3.heap.size w5 w7 := (((Below.refl _ _).alloc hs5 _).grown hg6 (by show _ ≤ (w5.alloc _).heap.size; simp; omega) (fun k hk => by cases hk; exact hg1)).grown hg7 hs6 (fun k hk => by cases hk; exact hg2)
          have HB5 := Lib.hid ((BufAt.of_row2 hlen5 ho7).mono hB3)
          have HR5 := Lib.hid (C5.out.below HR3.out.lt hb57)
          have HW5 := Lib.hid (grown_trans HW3.out (grown_on K6.out hg7 hg2))
          have HL5 := Lib.hid hlen5
          clear hlen5 hb57 hg6 ho6 ho7 hg7 HS1 HS2 HL HL2 HB3 HR3 HW3 O5 K5 C5 K6
          go_wp2
          go_roundw
          case rel => exact ⟨_, k - 1, congrArg (Value.int .i64) (by omega), by omega, by rw [HL5.out]; omega, HB5, HR5, HW5⟩
          case measure => simp only [intOf]; omega
      · have hback := back_conv HB.out
        go_wp2
        go_ret
        exact ⟨_, rfl, by show l.length ≤ _; omega, HR.out, HW.out⟩
    · have hback := back_conv HB.out
      go_wp2
      go_ret
      exact ⟨_, rfl, by show l.length ≤ _; omega, HR.out, HW.out⟩

end Go.Proofs.YtfkikdoecoobgaaDoor
