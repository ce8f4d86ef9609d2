/- Small texts, laid together. -/
import Derived.Test.YtgmbjnobpkdjkaaDoorZB3
import Derived.Test.YtgmbjnobpkdjkaaDoorZOffM
import Derived.Test.YtgmbjnobpkdjkaaDoorZDraw5
import Derived.Test.YtgmbjnobpkdjkaaDoorZB2
import Derived.Lib.Hide
import Derived.Shelf.Abstract
set_option linter.unusedSimpArgs false
set_option linter.unusedVariables false
/- The mathematics of 'what was offered is received, queued, dropped or merged'. -/
namespace Go.Proofs.YtgmbjnobpkdjkaaDoor
open Go.RowKit

theorem boxB_iff (b : BoxM) : boxB b = true ↔ (1 ≤ b.cap ∧ b.cap ≤ 16) ∧ (1 ≤ b.pol ∧ b.pol ≤ 4) ∧ (b.q.length : Int) ≤ b.cap ∧ (0 ≤ b.ofr ∧ b.ofr ≤ 100000) ∧ (0 ≤ b.rcv ∧ b.rcv ≤ 100000) ∧ (0 ≤ b.drp ∧ b.drp ≤ 100000) ∧ (0 ≤ b.mrg ∧ b.mrg ≤ 100000) ∧ (∀ x ∈ b.q, msgB x = true) ∧ b.ofr = b.rcv + b.q.length + b.drp + b.mrg := by
  unfold boxB boxN inB msgsAll
  simp only [Bool.and_eq_true, decide_eq_true_eq, List.all_eq_true]
  constructor
  · rintro ⟨⟨⟨⟨⟨⟨⟨h1, h2⟩, h3⟩, h4⟩, h5⟩, h6⟩, h7⟩, h8, h9⟩
    exact ⟨h1, h2, h3, h4, h5, h6, h7, h8, h9⟩
  · rintro ⟨h1, h2, h3, h4, h5, h6, h7, h8, h9⟩
    exact ⟨⟨⟨⟨⟨⟨⟨h1, h2⟩, h3⟩, h4⟩, h5⟩, h6⟩, h7⟩, h8, h9⟩

/-- A box that n were offered to. -/
structure BInv (p c : Int) (n : Nat) (b : BoxM) : Prop where
  ok : boxB b = true
  pol : b.pol = p
  cap : b.cap = c
  up : b.shut = false
  ofr : b.ofr ≤ n
  calm : p = 1 → b.drp = 0 ∧ b.mrg = 0

theorem BInv.start {p c : Int} (hp : 1 ≤ p ∧ p ≤ 4) (hc : 1 ≤ c ∧ c ≤ 16) : BInv p c 0 ⟨c, p, [], 0, 0, 0, 0, false⟩ :=
  ⟨(boxB_iff _).2 ⟨hc, hp, (show ((0 : Nat) : Int) ≤ c by omega), ⟨Int.le_refl 0, (show (0 : Int) ≤ 100000 by decide)⟩, ⟨Int.le_refl 0, (show (0 : Int) ≤ 100000 by decide)⟩, ⟨Int.le_refl 0, (show (0 : Int) ≤ 100000 by decide)⟩, ⟨Int.le_refl 0, (show (0 : Int) ≤ 100000 by decide)⟩, (fun x (h : x ∈ ([] : List MsgM)) => absurd h (by simp)), rfl⟩, rfl, rfl, rfl, Int.le_refl 0, fun _ => ⟨rfl, rfl⟩⟩

theorem offerM_open {b : BoxM} {m : MsgM} (ok : boxB b = true) (hm : msgB m = true) (ho : ¬ 100000 ≤ b.ofr) (hs : b.shut = false) : offerM b m = offQ b m (sameQ b m.2.2.1) := by
  unfold offerM
  rw [if_pos ok, if_neg (show ¬ (!(msgB m) || decide (100000 ≤ b.ofr)) = true by rw [hm, decide_eq_false ho]; decide), if_neg (show ¬ b.shut = true by rw [hs]; decide)]
  cases sameQ b m.2.2.1 <;> rfl

theorem BInv.offer {p c : Int} {n : Nat} {b : BoxM} {m : MsgM} (h : BInv p c n b) (hn : n < 100000) (hm : msgB m = true) :
    BInv p c (n + 1) (offerM b m).1 ∧ ((offerM b m).2 = 3 ∨ (offerM b m).2 = 4 ∨ 0 < (offerM b m).1.q.length) := by
  obtain ⟨h1, h2, h3, h4, h5, h6, h7, h8, h9⟩ := (boxB_iff b).1 h.ok
  have hofr := h.ofr
  have hpol := h.pol
  rw [offerM_open h.ok hm (by omega) h.up]
  cases hs : sameQ b m.2.2.1 with
  | some i =>
    have hi := sameQ_lt hs
    have h4p : b.pol = 4 := by
      unfold sameQ at hs
      split at hs
      · assumption
      · cases hs
    refine ⟨⟨(boxB_iff _).2 ⟨h1, h2, ?_, ?_, h5, h6, ?_, ?_, ?_⟩, h.pol, h.cap, h.up, ?_, ?_⟩, .inr (.inr ?_)⟩
    · show ((b.q.set i m).length : Int) ≤ b.cap; rw [List.length_set]; exact h3
    · show 0 ≤ b.ofr + 1 ∧ b.ofr + 1 ≤ 100000; omega
    · show 0 ≤ b.mrg + 1 ∧ b.mrg + 1 ≤ 100000; omega
    · intro x hx
      rcases List.mem_or_eq_of_mem_set hx with hx | rfl
      · exact h8 x hx
      · exact hm
    · show b.ofr + 1 = b.rcv + ((b.q.set i m).length : Int) + b.drp + (b.mrg + 1); rw [List.length_set]; omega
    · show b.ofr + 1 ≤ ((n + 1 : Nat) : Int); omega
    · intro e; omega
    · show 0 < (b.q.set i m).length; rw [List.length_set]; omega
  | none =>
    by_cases hf : (b.q.length : Int) = b.cap
    · by_cases hp1 : b.pol = 1
      · rw [show offQ b m none = (b, 3) by unfold offQ; rw [if_pos hf, if_pos hp1]]
        exact ⟨⟨h.ok, h.pol, h.cap, h.up, (show b.ofr ≤ ((n + 1 : Nat) : Int) by omega), h.calm⟩, .inl rfl⟩
      · by_cases hp3 : b.pol = 3
        · rw [show offQ b m none = ({ b with ofr := b.ofr + 1, drp := b.drp + 1 }, 4) by unfold offQ; rw [if_pos hf, if_neg hp1, if_pos hp3]]
          refine ⟨⟨(boxB_iff _).2 ⟨h1, h2, h3, ?_, h5, ?_, h7, h8, ?_⟩, h.pol, h.cap, h.up, ?_, ?_⟩, .inr (.inl rfl)⟩
          · show 0 ≤ b.ofr + 1 ∧ b.ofr + 1 ≤ 100000; omega
          · show 0 ≤ b.drp + 1 ∧ b.drp + 1 ≤ 100000; omega
          · show b.ofr + 1 = b.rcv + (b.q.length : Int) + (b.drp + 1) + b.mrg; omega
          · show b.ofr + 1 ≤ ((n + 1 : Nat) : Int); omega
          · intro e; omega
        · have hq : ((b.q.drop 1 ++ [m]).length : Int) = (b.q.length : Int) := by
            rw [List.length_append, List.length_drop]; simp; omega
          rw [show offQ b m none = ({ b with q := b.q.drop 1 ++ [m], ofr := b.ofr + 1, drp := b.drp + 1 }, 5) by unfold offQ; rw [if_pos hf, if_neg hp1, if_neg hp3]]
          refine ⟨⟨(boxB_iff _).2 ⟨h1, h2, ?_, ?_, h5, ?_, h7, ?_, ?_⟩, h.pol, h.cap, h.up, ?_, ?_⟩, .inr (.inr ?_)⟩
          · show ((b.q.drop 1 ++ [m]).length : Int) ≤ b.cap; omega
          · show 0 ≤ b.ofr + 1 ∧ b.ofr + 1 ≤ 100000; omega
          · show 0 ≤ b.drp + 1 ∧ b.drp + 1 ≤ 100000; omega
          · intro x hx
            rcases List.mem_append.1 hx with hx | hx
            · exact h8 x (List.mem_of_mem_drop hx)
            · rw [List.mem_singleton.1 hx]; exact hm
          · show b.ofr + 1 = b.rcv + ((b.q.drop 1 ++ [m]).length : Int) + (b.drp + 1) + b.mrg; omega
          · show b.ofr + 1 ≤ ((n + 1 : Nat) : Int); omega
          · intro e; omega
          · show 0 < (b.q.drop 1 ++ [m]).length; simp
    · have hq : ((b.q ++ [m]).length : Int) = (b.q.length : Int) + 1 := by simp
      rw [show offQ b m none = ({ b with q := b.q ++ [m], ofr := b.ofr + 1 }, 0) by unfold offQ; rw [if_neg hf]]
      refine ⟨⟨(boxB_iff _).2 ⟨h1, h2, ?_, ?_, h5, h6, h7, ?_, ?_⟩, h.pol, h.cap, h.up, ?_, h.calm⟩, .inr (.inr ?_)⟩
      · show ((b.q ++ [m]).length : Int) ≤ b.cap; omega
      · show 0 ≤ b.ofr + 1 ∧ b.ofr + 1 ≤ 100000; omega
      · intro x hx
        rcases List.mem_append.1 hx with hx | hx
        · exact h8 x hx
        · rw [List.mem_singleton.1 hx]; exact hm
      · show b.ofr + 1 = b.rcv + ((b.q ++ [m]).length : Int) + b.drp + b.mrg; omega
      · show b.ofr + 1 ≤ ((n + 1 : Nat) : Int); omega
      · show 0 < (b.q ++ [m]).length; simp

theorem BInv.take {p c : Int} {n : Nat} {b : BoxM} (h : BInv p c n b) : BInv p c n (takeM b).1 := by
  obtain ⟨h1, h2, h3, h4, h5, h6, h7, h8, h9⟩ := (boxB_iff b).1 h.ok
  unfold takeM
  rw [if_pos h.ok]
  split
  · exact h
  · rename_i x l hq
    have hl : (b.q.length : Int) = (l.length : Int) + 1 := by rw [hq]; simp
    refine ⟨(boxB_iff _).2 ⟨h1, h2, ?_, h4, ?_, h6, h7, ?_, ?_⟩, h.pol, h.cap, h.up, h.ofr, h.calm⟩
    · show (l.length : Int) ≤ b.cap; omega
    · show 0 ≤ b.rcv + 1 ∧ b.rcv + 1 ≤ 100000; omega
    · intro y hy
      exact h8 y (by rw [hq]; exact List.mem_cons_of_mem _ hy)
    · show b.ofr = b.rcv + 1 + (l.length : Int) + b.drp + b.mrg; omega

theorem newB_good {p c : Int} (hp : 1 ≤ p ∧ p ≤ 4) (hc : 1 ≤ c ∧ c ≤ 16) : newB c p = (⟨c, p, [], 0, 0, 0, 0, false⟩, true) := by
  unfold newB
  rw [if_pos (show boxB (bareBox c p) = true from (BInv.start hp hc).ok)]
  rfl

end Go.Proofs.YtgmbjnobpkdjkaaDoor

/- A box that is drawn: what its draw holds in memory. -/
namespace Go.Proofs.YtgmbjnobpkdjkaaDoor
open Go.RowKit

/-- A call draws a box: its answer's box, its own box in block M, the row, the cursor. -/
structure DBox (w wx : World) (g : Nat) (a : Option Addr) (len cap : Nat) (M : Nat) (b : BoxM) (u : Value) : Prop where
  box : BBox wx M 30 b u
  res : BBox wx w.heap.size 30 zeroBox (.slice none 0 0)
  row : MOwn wx w.heap.size u b.q
  far : w.heap.size < M
  cur : Curs g a len cap wx
  low : g < w.heap.size
  since : w.grownBy wx (some g)

section
variable {w wx wy : World} {g : Nat} {a : Option Addr} {len cap M : Nat} {b b' : BoxM} {u u' : Value}

theorem DBox.turn (h : DBox w wx g a len cap M b u) (hc : Curs g a len cap wy) (hg : wx.grownBy wy (some g)) : DBox w wy g a len cap M b u :=
  have h1 := h.low
  have h2 := h.far
  ⟨h.box.grown hg (by omega), h.res.grown hg (by omega), own_thrown h.row h.low hg, h.far, hc, h.low, grown_trans h.since hg⟩
theorem DBox.below (h : DBox w wx g a len cap M b u) (hb : Below wx.heap.size wx wy) : DBox w wy g a len cap M b u :=
  ⟨h.box.below hb, h.res.below hb, row_below h.row hb, h.far, h.cur.after hb, h.low, grown_own h.since (hb.mono h.since.size)⟩
/-- What is written into the own box leaves the rest. -/
theorem DBox.wrote (h : DBox w wx g a len cap M b u) (hg : wx.grownBy wy (some M)) (hx : BBox wy M 30 b' u') (hr : MOwn wx w.heap.size u' b'.q) : DBox w wy g a len cap M b' u' :=
  have h1 := h.low
  have h2 := h.far
  have hb : Below w.heap.size wx wy := below_of_grown hg (Nat.le_of_lt h.far) h.since.size
  ⟨hx, h.res.grown hg (by omega), own_kept1 hr hg (own_off hr h.box), h.far, h.cur.below h.low hb, h.low, grown_own h.since hb⟩
theorem DBox.set (h : DBox w wx g a len cap M b u) (j : Nat) (x : Value) (hq : b'.q = b.q) (hc : (bcells b u).setIfInBounds j x = bcells b' u) : DBox w (wx.setCell ⟨M, j, none⟩ x) g a len cap M b' u :=
  h.wrote (grown_setCell _ _ _ _) (by unfold BBox; rw [← hc]; exact heap_setCell_same _ _ j _ _ x h.box) (by rw [hq]; exact h.row)
theorem DBox.setQ (h : DBox w wx g a len cap M b u) {q : List MsgM} (hr : MOwn wx w.heap.size u' q) : DBox w (wx.setCell ⟨M, 2, none⟩ u') g a len cap M { b with q := q } u' :=
  h.wrote (grown_setCell _ _ _ _) (heap_setCell_same _ _ 2 _ _ u' h.box) hr
theorem DBox.putRow (h : DBox w wx g a len cap M b u) (hr : MOwn wx w.heap.size u' b'.q) : DBox w (wx.setRow M (bcells b' u')) g a len cap M b' u' :=
  h.wrote (grown_setRow _ _ _) (setRow_heap _ h.box) hr
theorem DBox.end (h : DBox w wx g a len cap M b u) (cs : Array Value) :
    (wx.setRow w.heap.size cs).heap[w.heap.size]? = some (.cells cs 30 (0, 0)) ∧ MOwn (wx.setRow w.heap.size cs) w.heap.size u b.q ∧ Curs g a len cap (wx.setRow w.heap.size cs) ∧ w.grownBy (wx.setRow w.heap.size cs) (some g) :=
  have hg := grown_setRow wx w.heap.size cs
  have hb : Below w.heap.size wx (wx.setRow w.heap.size cs) := below_of_grown hg (Nat.le_refl _) h.since.size
  ⟨setRow_heap cs h.res, own_kept1 h.row hg (own_off h.row h.res), h.cur.below h.low hb, grown_own h.since hb⟩
end

/-- The own row has grown; it is stored only then. -/
structure DBoxN (w wx : World) (g : Nat) (a : Option Addr) (len cap : Nat) (M : Nat) (b : BoxM) (u : Value) : Prop where
  box : BBox wx M 30 b u
  res : BBox wx w.heap.size 30 zeroBox (.slice none 0 0)
  far : w.heap.size < M
  cur : Curs g a len cap wx
  low : g < w.heap.size
  since : w.grownBy wx (some g)
theorem dbox_app {w wx wy : World} {g : Nat} {a : Option Addr} {len cap M : Nat} {b : BoxM} {u : Value} (h : DBox w wx g a len cap M b u) (hg : wx.grownBy wy u.ownBlock) : DBoxN w wy g a len cap M b u :=
  have hb : Below w.heap.size wx wy := (Below.refl _ _).grown hg h.since.size (fun k e => (World.ownsRow.lt h.row k e).1)
  ⟨(hg.block _ h.box.lt (own_off h.row h.box).symm).trans h.box, (hg.block _ h.res.lt (own_off h.row h.res).symm).trans h.res, h.far, h.cur.below h.low hb, h.low, grown_own h.since hb⟩
theorem dbox_setQ {w wx : World} {g : Nat} {a : Option Addr} {len cap M : Nat} {b : BoxM} {u u' : Value} {q : List MsgM} (h : DBoxN w wx g a len cap M b u) (hr : MOwn wx w.heap.size u' q) : DBox w (wx.setCell ⟨M, 2, none⟩ u') g a len cap M { b with q := q } u' :=
  have h1 := h.low
  have h2 := h.far
  have hg := grown_setCell wx M 2 u'
  have hb : Below w.heap.size wx (wx.setCell ⟨M, 2, none⟩ u') := below_of_grown hg (Nat.le_of_lt h.far) h.since.size
  ⟨heap_setCell_same _ _ 2 _ _ u' h.box, h.res.grown hg (by omega), own_kept1 hr hg (own_off hr h.box), h.far, h.cur.below h.low hb, h.low, grown_own h.since hb⟩

/-- Short messages, n at most. -/
def ShortQ (n : Nat) (l : List MsgM) : Prop := l.length ≤ n ∧ ∀ x ∈ l, ShortM x
theorem ShortQ.small {n : Nat} {l : List MsgM} (h : ShortQ n l) (hn : n ≤ 1048576) : l.length ≤ 1048576 ∧ ∀ x ∈ l, x.2.2.1.size ≤ 1048576 :=
  ⟨Nat.le_trans h.1 hn, fun x hx => Nat.le_trans (h.2 x hx) (by decide)⟩
theorem ShortQ.nil (n : Nat) : ShortQ n [] := ⟨Nat.zero_le _, fun x hx => by cases hx⟩
theorem ShortQ.mono {n k : Nat} {l : List MsgM} (h : ShortQ n l) (hk : n ≤ k) : ShortQ k l := ⟨Nat.le_trans h.1 hk, h.2⟩
theorem ShortQ.app {n : Nat} {l : List MsgM} {x : MsgM} (h : ShortQ n l) (hx : ShortM x) : ShortQ (n + 1) (l ++ [x]) :=
  ⟨by have := h.1; simp; omega, fun y hy => by
    rcases List.mem_append.1 hy with hy | hy
    · exact h.2 y hy
    · rw [List.mem_singleton.1 hy]; exact hx⟩
theorem ShortQ.offer {n : Nat} {b : BoxM} {x : MsgM} (h : ShortQ n b.q) (hx : ShortM x) : ShortQ (n + 1) (offerM b x).1.q := by
  refine ⟨Nat.le_trans (offerM_len b x) (Nat.succ_le_succ h.1), fun y hy => ?_⟩
  have hset : ∀ i, y ∈ b.q.set i x → ShortM y := fun i hi => by
    rcases List.mem_or_eq_of_mem_set hi with hi | rfl
    · exact h.2 y hi
    · exact hx
  have happ : ∀ l, (∀ z ∈ l, z ∈ b.q) → y ∈ l ++ [x] → ShortM y := fun l hl hi => by
    rcases List.mem_append.1 hi with hi | hi
    · exact h.2 y (hl y hi)
    · rw [List.mem_singleton.1 hi]; exact hx
  unfold offerM at hy
  split at hy
  · split at hy
    · exact h.2 y hy
    · split at hy
      · exact h.2 y hy
      · split at hy
        · exact hset _ hy
        · split at hy
          · split at hy
            · exact h.2 y hy
            · split at hy
              · exact h.2 y hy
              · exact happ _ (fun z hz => List.mem_of_mem_drop hz) hy
          · exact happ _ (fun z hz => hz) hy
  · simp [zeroBox] at hy
theorem ShortQ.take {n : Nat} {b : BoxM} (h : ShortQ n b.q) : ShortQ n (takeM b).1.q := by
  refine ⟨Nat.le_trans (takeM_len b) h.1, fun y hy => ?_⟩
  unfold takeM at hy
  split at hy
  · split at hy
    · exact h.2 y hy
    · rename_i x l hq
      exact h.2 y (by rw [hq]; exact List.mem_cons_of_mem _ hy)
  · simp [zeroBox] at hy

end Go.Proofs.YtgmbjnobpkdjkaaDoor

/- The walks of the program's look for whose place a message takes. -/
namespace Go.Proofs.YtgmbjnobpkdjkaaDoor
open Go.RowKit

set_option maxRecDepth 100000 in
theorem elderA_any (v : Value) (m : MsgM) (w : World) :
    Calls Tryd.prog 97 #[.agg #[], v, magg m] w fun e w' => e = .returned (.int .i64 (-1)) ∧ Below w.heap.size w w' := by
  have b1 : Below w.heap.size w ((w.alloc (.cells #[] 86)).alloc (.cells #[.int .i64 m.1, .int .i64 m.2.1, .string m.2.2.1, .int .i64 m.2.2.2] 35)) := ((Below.refl _ _).alloc (Nat.le_refl _) _).alloc (by simp) _
  go_enter Tryd.func97, Tryd.ntmps97
  go_wp2
  go_ret
  exact ⟨rfl, b1⟩

set_option maxRecDepth 100000 in
theorem elderC_any (x : MsgM) (t : ByteArray) (F : Nat) (w : World) (hF : w.cell? ⟨F, 2, none⟩ = some (.string t)) :
    Calls Tryd.prog 99 #[magg x, .pointer (some ⟨F, 0, none⟩)] w fun e w' => e = .returned (.bool (sameT x.2.2.1 t)) ∧ Below w.heap.size w w' := by
  obtain ⟨q, f, p, d⟩ := x
  obtain ⟨s, hs⟩ : ∃ s, sameT p t = s := ⟨_, rfl⟩
  have he : (p.toList == t.toList) = s := hs
  have ha : Below w.heap.size w (w.alloc (.cells #[.int .i64 q, .int .i64 f, .string p, .int .i64 d] 35)) := (Below.refl _ _).alloc (Nat.le_refl _) _
  have hF2 := (ha.cell (World.block_lt_of_cell? _ _ hF)).trans hF
  have d2 : (w.alloc (.cells #[.int .i64 q, .int .i64 f, .string p, .int .i64 d] 35)).cell? ⟨w.heap.size, 2, none⟩ = some (.string p) := by rw [World.cell?_alloc_at _ _ _ _ rfl]; rfl
  have HS : Hid (sameT p t = s) := Lib.hid hs
  have HA := Lib.hid ha
  clear hF hs ha
  show Calls _ _ #[.agg #[.int .i64 q, .int .i64 f, .string p, .int .i64 d], _] _ _
  go_enter Tryd.func99, Tryd.ntmps99
  go_upto_region 1 with (fail)
  generalize w.alloc (.cells #[.int .i64 q, .int .i64 f, .string p, .int .i64 d] 35) = w1 at hF2 d2 HA ⊢
  cases s
  · skip
    go_wp2
    go_ret
    exact ⟨ret_bool HS.out.symm, HA.out⟩
  · skip
    go_wp2
    go_ret
    exact ⟨ret_bool HS.out.symm, HA.out⟩

set_option maxRecDepth 100000 in
set_option maxHeartbeats 1600000 in
theorem elderM_any (v : Value) (l : List MsgM) (m : MsgM) (w : World) (hl : l.length ≤ 2000000) (hv : MsgsAt w v l) :
    Calls Tryd.prog 98 #[.agg #[], v, magg m] w fun e w' => e = .returned (.int .i64 (idxN (sameAt l m.2.2.1 0 l.length))) ∧ Below w.heap.size w w' := by
  have s1 : (w.alloc (.cells #[] 91)).heap.size = w.heap.size + 1 := by simp
  have b1 : Below w.heap.size w ((w.alloc (.cells #[] 91)).alloc (.cells #[.int .i64 m.1, .int .i64 m.2.1, .string m.2.2.1, .int .i64 m.2.2.2] 35)) := ((Below.refl _ _).alloc (Nat.le_refl _) _).alloc (by simp) _
  have h1 : ((w.alloc (.cells #[] 91)).alloc (.cells #[.int .i64 m.1, .int .i64 m.2.1, .string m.2.2.1, .int .i64 m.2.2.2] 35)).heap[w.heap.size + 1]? = some (.cells #[.int .i64 m.1, .int .i64 m.2.1, .string m.2.2.1, .int .i64 m.2.2.2] 35 (0, 0)) := by rw [← s1]; exact heap_alloc_new _ _
  have HV := Lib.hid hv
  obtain ⟨ua, uc, rfl, _, _, _⟩ := hv
  go_enter Tryd.func98, Tryd.ntmps98
  go_upto_region 1 with (fail)
  generalize ((w.alloc (.cells #[] 91)).alloc (.cells #[.int .i64 m.1, .int .i64 m.2.1, .string m.2.2.1, .int .i64 m.2.2.2] 35)) = w1 at b1 h1 ⊢
  have CI := Lib.hid (indexG_any (.slice ua l.length uc) l (fun x => sameT x.2.2.1 m.2.2.1) 99 #[.pointer (some ⟨w.heap.size + 1, 0, none⟩)] (enters_of Tryd.func99 (by kernel_rfl) rfl) w1 hl (HV.out.below b1) (fun W x _ hb => elderC_any x m.2.2.1 (w.heap.size + 1) W (cell_of_heap (((hb.block _ (Array.getElem?_eq_some_iff.1 h1).1)).trans h1) 2)))
  have B1 := Lib.hid b1
  clear b1 h1 s1
  go_wp2_with fail
  refine CI.out.mono ?_
  rintro e w2 ⟨z, rfl, hz, hb⟩
  have HB := Lib.hid (below_end B1.out hb)
  have HZ : Hid (z = idxN (sameAt l m.2.2.1 0 l.length)) := Lib.hid (by
    rcases hz with ⟨rfl, hz⟩ | ⟨k, rfl, hk, hp, hn⟩
    · rw [sameAt_none l.length 0 (by omega) (fun j _ _ h3 => hz _ (List.getElem_mem h3))]; rfl
    · rw [sameAt_some hk hp l.length 0 (Nat.zero_le _) (by omega) (fun j _ h3 _ => hn j h3)]; rfl)
  clear hb hz CI B1
  go_wp2
  go_ret
  exact ⟨by rw [← HZ.out]; rfl, HB.out⟩

end Go.Proofs.YtgmbjnobpkdjkaaDoor
