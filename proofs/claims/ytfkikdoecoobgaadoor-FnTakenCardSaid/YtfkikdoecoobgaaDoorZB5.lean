/- Small texts, laid together. -/
import Derived.Test.YtfkikdoecoobgaaDoorZB3
import Derived.Test.YtfkikdoecoobgaaDoorZOffM
import Derived.Test.YtfkikdoecoobgaaDoorZDraw5
set_option linter.unusedSimpArgs false
set_option linter.unusedVariables false
/- The mathematics of 'what was offered is received, queued, dropped or merged'. -/
namespace Go.Proofs.YtfkikdoecoobgaaDoor
open Go.RowKit

theorem boxB_iff (b : BoxM) : boxB b = true ↔ (1 ≤ b.cap ∧ b.cap ≤ 16) ∧ (1 ≤ b.pol ∧ b.pol ≤ 4) ∧ (b.q.length : Int) ≤ b.cap ∧ (0 ≤ b.ofr ∧ b.ofr ≤ 100000) ∧ (0 ≤ b.rcv ∧ b.rcv ≤ 100000) ∧ (0 ≤ b.drp ∧ b.drp ≤ 100000) ∧ (0 ≤ b.mrg ∧ b.mrg ≤ 100000) ∧ (∀ x ∈ b.q, msgB x = true) ∧ b.ofr = b.rcv + b.q.length + b.drp + b.mrg := by
  unfold boxB boxN inB msgsAll
  simp only [Bool.and_eq_true, decide_eq_true_eq, List.all_eq_true]
  constructor
  · rintro ⟨⟨⟨⟨⟨⟨⟨h1, h2⟩, h3⟩, h4⟩, h5⟩, h6⟩, h7⟩, h8, h9⟩
    exact ⟨h1, h2, h3, h4, h5, h6, h7, h8, h9⟩
  · rintro ⟨h1, h2, h3, h4, h5, h6, h7, h8, h9⟩
    exact ⟨⟨⟨⟨⟨⟨⟨h1, h2⟩, h3⟩, h4⟩, h5⟩, h6⟩, h7⟩, h8, h9⟩

/-- A box that n were offered to. -/
structure BInv (p c : Int) (n : Nat) (b : BoxM) : Prop where
  ok : boxB b = true
  pol : b.pol = p
  cap : b.cap = c
  up : b.shut = false
  ofr : b.ofr ≤ n
  calm : p = 1 → b.drp = 0 ∧ b.mrg = 0

theorem BInv.start {p c : Int} (hp : 1 ≤ p ∧ p ≤ 4) (hc : 1 ≤ c ∧ c ≤ 16) : BInv p c 0 ⟨c, p, [], 0, 0, 0, 0, false⟩ :=
  ⟨(boxB_iff _).2 ⟨hc, hp, (show ((0 : Nat) : Int) ≤ c by omega), ⟨Int.le_refl 0, (show (0 : Int) ≤ 100000 by decide)⟩, ⟨Int.le_refl 0, (show (0 : Int) ≤ 100000 by decide)⟩, ⟨Int.le_refl 0, (show (0 : Int) ≤ 100000 by decide)⟩, ⟨Int.le_refl 0, (show (0 : Int) ≤ 100000 by decide)⟩, (fun x (h : x ∈ ([] : List MsgM)) => absurd h (by simp)), rfl⟩, rfl, rfl, rfl, Int.le_refl 0, fun _ => ⟨rfl, rfl⟩⟩

theorem offerM_open {b : BoxM} {m : MsgM} (ok : boxB b = true) (hm : msgB m = true) (ho : ¬ 100000 ≤ b.ofr) (hs : b.shut = false) : offerM b m = offQ b m (sameQ b m.2.2.1) := by
  unfold offerM
  rw [if_pos ok, if_neg (show ¬ (!(msgB m) || decide (100000 ≤ b.ofr)) = true by rw [hm, decide_eq_false ho]; decide), if_neg (show ¬ b.shut = true by rw [hs]; decide)]
  cases sameQ b m.2.2.1 <;> rfl

theorem BInv.offer {p c : Int} {n : Nat} {b : BoxM} {m : MsgM} (h : BInv p c n b) (hn : n < 100000) (hm : msgB m = true) :
    BInv p c (n + 1) (offerM b m).1 ∧ ((offerM b m).2 = 3 ∨ (offerM b m).2 = 4 ∨ 0 < (offerM b m).1.q.length) := by
  obtain ⟨h1, h2, h3, h4, h5, h6, h7, h8, h9⟩ := (boxB_iff b).1 h.ok
  have hofr := h.ofr
  have hpol := h.pol
  rw [offerM_open h.ok hm (by omega) h.up]
  cases hs : sameQ b m.2.2.1 with
  | some i =>
    have hi := sameQ_lt hs
    have h4p : b.pol = 4 := by
      unfold sameQ at hs
      split at hs
      · assumption
      · cases hs
    refine ⟨⟨(boxB_iff _).2 ⟨h1, h2, ?_, ?_, h5, h6, ?_, ?_, ?_⟩, h.pol, h.cap, h.up, ?_, ?_⟩, .inr (.inr ?_)⟩
    · show ((b.q.set i m).length : Int) ≤ b.cap; rw [List.length_set]; exact h3
    · show 0 ≤ b.ofr + 1 ∧ b.ofr + 1 ≤ 100000; omega
    · show 0 ≤ b.mrg + 1 ∧ b.mrg + 1 ≤ 100000; omega
    · intro x hx
      rcases List.mem_or_eq_of_mem_set hx with hx | rfl
      · exact h8 x hx
      · exact hm
    · show b.ofr + 1 = b.rcv + ((b.q.set i m).length : Int) + b.drp + (b.mrg + 1); rw [List.length_set]; omega
    · show b.ofr + 1 ≤ ((n + 1 : Nat) : Int); omega
    · intro e; omega
    · show 0 < (b.q.set i m).length; rw [List.length_set]; omega
  | none =>
    by_cases hf : (b.q.length : Int) = b.cap
    · by_cases hp1 : b.pol = 1
      · rw [show offQ b m none = (b, 3) by unfold offQ; rw [if_pos hf, if_pos hp1]]
        exact ⟨⟨h.ok, h.pol, h.cap, h.up, (show b.ofr ≤ ((n + 1 : Nat) : Int) by omega), h.calm⟩, .inl rfl⟩
      · by_cases hp3 : b.pol = 3
        · rw [show offQ b m none = ({ b with ofr := b.ofr + 1, drp := b.drp + 1 }, 4) by unfold offQ; rw [if_pos hf, if_neg hp1, if_pos hp3]]
          refine ⟨⟨(boxB_iff _).2 ⟨h1, h2, h3, ?_, h5, ?_, h7, h8, ?_⟩, h.pol, h.cap, h.up, ?_, ?_⟩, .inr (.inl rfl)⟩
          · show 0 ≤ b.ofr + 1 ∧ b.ofr + 1 ≤ 100000; omega
          · show 0 ≤ b.drp + 1 ∧ b.drp + 1 ≤ 100000; omega
          · show b.ofr + 1 = b.rcv + (b.q.length : Int) + (b.drp + 1) + b.mrg; omega
          · show b.ofr + 1 ≤ ((n + 1 : Nat) : Int); omega
          · intro e; omega
        · have hq : ((b.q.drop 1 ++ [m]).length : Int) = (b.q.length : Int) := by
            rw [List.length_append, List.length_drop]; simp; omega
          rw [show offQ b m none = ({ b with q := b.q.drop 1 ++ [m], ofr := b.ofr + 1, drp := b.drp + 1 }, 5) by unfold offQ; rw [if_pos hf, if_neg hp1, if_neg hp3]]
          refine ⟨⟨(boxB_iff _).2 ⟨h1, h2, ?_, ?_, h5, ?_, h7, ?_, ?_⟩, h.pol, h.cap, h.up, ?_, ?_⟩, .inr (.inr ?_)⟩
          · show ((b.q.drop 1 ++ [m]).length : Int) ≤ b.cap; omega
          · show 0 ≤ b.ofr + 1 ∧ b.ofr + 1 ≤ 100000; omega
          · show 0 ≤ b.drp + 1 ∧ b.drp + 1 ≤ 100000; omega
          · intro x hx
            rcases List.mem_append.1 hx with hx | hx
            · exact h8 x (List.mem_of_mem_drop hx)
            · rw [List.mem_singleton.1 hx]; exact hm
          · show b.ofr + 1 = b.rcv + ((b.q.drop 1 ++ [m]).length : Int) + (b.drp + 1) + b.mrg; omega
          · show b.ofr + 1 ≤ ((n + 1 : Nat) : Int); omega
          · intro e; omega
          · show 0 < (b.q.drop 1 ++ [m]).length; simp
    · have hq : ((b.q ++ [m]).length : Int) = (b.q.length : Int) + 1 := by simp
      rw [show offQ b m none = ({ b with q := b.q ++ [m], ofr := b.ofr + 1 }, 0) by unfold offQ; rw [if_neg hf]]
      refine ⟨⟨(boxB_iff _).2 ⟨h1, h2, ?_, ?_, h5, h6, h7, ?_, ?_⟩, h.pol, h.cap, h.up, ?_, h.calm⟩, .inr (.inr ?_)⟩
      · show ((b.q ++ [m]).length : Int) ≤ b.cap; omega
      · show 0 ≤ b.ofr + 1 ∧ b.ofr + 1 ≤ 100000; omega
      · intro x hx
        rcases List.mem_append.1 hx with hx | hx
        · exact h8 x hx
        · rw [List.mem_singleton.1 hx]; exact hm
      · show b.ofr + 1 = b.rcv + ((b.q ++ [m]).length : Int) + b.drp + b.mrg; omega
      · show b.ofr + 1 ≤ ((n + 1 : Nat) : Int); omega
      · show 0 < (b.q ++ [m]).length; simp

theorem BInv.take {p c : Int} {n : Nat} {b : BoxM} (h : BInv p c n b) : BInv p c n (takeM b).1 := by
  obtain ⟨h1, h2, h3, h4, h5, h6, h7, h8, h9⟩ := (boxB_iff b).1 h.ok
  unfold takeM
  rw [if_pos h.ok]
  split
  · exact h
  · rename_i x l hq
    have hl : (b.q.length : Int) = (l.length : Int) + 1 := by rw [hq]; simp
    refine ⟨(boxB_iff _).2 ⟨h1, h2, ?_, h4, ?_, h6, h7, ?_, ?_⟩, h.pol, h.cap, h.up, h.ofr, h.calm⟩
    · show (l.length : Int) ≤ b.cap; omega
    · show 0 ≤ b.rcv + 1 ∧ b.rcv + 1 ≤ 100000; omega
    · intro y hy
      exact h8 y (by rw [hq]; exact List.mem_cons_of_mem _ hy)
    · show b.ofr = b.rcv + 1 + (l.length : Int) + b.drp + b.mrg; omega

theorem newB_good {p c : Int} (hp : 1 ≤ p ∧ p ≤ 4) (hc : 1 ≤ c ∧ c ≤ 16) : newB c p = (⟨c, p, [], 0, 0, 0, 0, false⟩, true) := by
  unfold newB
  rw [if_pos (show boxB (bareBox c p) = true from (BInv.start hp hc).ok)]
  rfl

end Go.Proofs.YtfkikdoecoobgaaDoor

/- A box that is drawn: what its draw holds in memory. -/
namespace Go.Proofs.YtfkikdoecoobgaaDoor
open Go.RowKit

/-- A call draws a box: its answer's box, its own box in block M, the row, the cursor. -/
structure DBox (w wx : World) (g : Nat) (a : Option Addr) (len cap : Nat) (M : Nat) (b : BoxM) (u : Value) : Prop where
  box : BBox wx M 26 b u
  res : BBox wx w.heap.size 26 zeroBox (.slice none 0 0)
  row : MOwn wx w.heap.size u b.q
  far : w.heap.size < M
  cur : Curs g a len cap wx
  low : g < w.heap.size
  since : w.grownBy wx (some g)

section
variable {w wx wy : World} {g : Nat} {a : Option Addr} {len cap M : Nat} {b b' : BoxM} {u u' : Value}

theorem DBox.turn (h : DBox w wx g a len cap M b u) (hc : Curs g a len cap wy) (hg : wx.grownBy wy (some g)) : DBox w wy g a len cap M b u :=
  have h1 := h.low
  have h2 := h.far
  ⟨h.box.grown hg (by omega), h.res.grown hg (by omega), own_thrown h.row h.low hg, h.far, hc, h.low, grown_trans h.since hg⟩
theorem DBox.below (h : DBox w wx g a len cap M b u) (hb : Below wx.heap.size wx wy) : DBox w wy g a len cap M b u :=
  ⟨h.box.below hb, h.res.below hb, row_below h.row hb, h.far, h.cur.after hb, h.low, grown_own h.since (hb.mono h.since.size)⟩
/-- What is written into the own box leaves the rest. -/
theorem DBox.wrote (h : DBox w wx g a len cap M b u) (hg : wx.grownBy wy (some M)) (hx : BBox wy M 26 b' u') (hr : MOwn wx w.heap.size u' b'.q) : DBox w wy g a len cap M b' u' :=
  have h1 := h.low
  have h2 := h.far
  have hb : Below w.heap.size wx wy := below_of_grown hg (Nat.le_of_lt h.far) h.since.size
  ⟨hx, h.res.grown hg (by omega), own_kept1 hr hg (own_off hr h.box), h.far, h.cur.below h.low hb, h.low, grown_own h.since hb⟩
theorem DBox.set (h : DBox w wx g a len cap M b u) (j : Nat) (x : Value) (hq : b'.q = b.q) (hc : (bcells b u).setIfInBounds j x = bcells b' u) : DBox w (wx.setCell ⟨M, j, none⟩ x) g a len cap M b' u :=
  h.wrote (grown_setCell _ _ _ _) (by unfold BBox; rw [← hc]; exact heap_setCell_same _ _ j _ _ x h.box) (by rw [hq]; exact h.row)
theorem DBox.setQ (h : DBox w wx g a len cap M b u) {q : List MsgM} (hr : MOwn wx w.heap.size u' q) : DBox w (wx.setCell ⟨M, 2, none⟩ u') g a len cap M { b with q := q } u' :=
  h.wrote (grown_setCell _ _ _ _) (heap_setCell_same _ _ 2 _ _ u' h.box) hr
theorem DBox.putRow (h : DBox w wx g a len cap M b u) (hr : MOwn wx w.heap.size u' b'.q) : DBox w (wx.setRow M (bcells b' u')) g a len cap M b' u' :=
  h.wrote (grown_setRow _ _ _) (setRow_heap _ h.box) hr
theorem DBox.end (h : DBox w wx g a len cap M b u) (cs : Array Value) :
    (wx.setRow w.heap.size cs).heap[w.heap.size]? = some (.cells cs 26 (0, 0)) ∧ MOwn (wx.setRow w.heap.size cs) w.heap.size u b.q ∧ Curs g a len cap (wx.setRow w.heap.size cs) ∧ w.grownBy (wx.setRow w.heap.size cs) (some g) :=
  have hg := grown_setRow wx w.heap.size cs
  have hb : Below w.heap.size wx (wx.setRow w.heap.size cs) := below_of_grown hg (Nat.le_refl _) h.since.size
  ⟨setRow_heap cs h.res, own_kept1 h.row hg (own_off h.row h.res), h.cur.below h.low hb, grown_own h.since hb⟩
end

/-- The own row has grown; it is stored only then. -/
structure DBoxN (w wx : World) (g : Nat) (a : Option Addr) (len cap : Nat) (M : Nat) (b : BoxM) (u : Value) : Prop where
  box : BBox wx M 26 b u
  res : BBox wx w.heap.size 26 zeroBox (.slice none 0 0)
  far : w.heap.size < M
  cur : Curs g a len cap wx
  low : g < w.heap.size
  since : w.grownBy wx (some g)
theorem dbox_app {w wx wy : World} {g : Nat} {a : Option Addr} {len cap M : Nat} {b : BoxM} {u : Value} (h : DBox w wx g a len cap M b u) (hg : wx.grownBy wy u.ownBlock) : DBoxN w wy g a len cap M b u :=
  have hb : Below w.heap.size wx wy := (Below.refl _ _).grown hg h.since.size (fun k e => (World.ownsRow.lt h.row k e).1)
  ⟨(hg.block _ h.box.lt (own_off h.row h.box).symm).trans h.box, (hg.block _ h.res.lt (own_off h.row h.res).symm).trans h.res, h.far, h.cur.below h.low hb, h.low, grown_own h.since hb⟩
theorem dbox_setQ {w wx : World} {g : Nat} {a : Option Addr} {len cap M : Nat} {b : BoxM} {u u' : Value} {q : List MsgM} (h : DBoxN w wx g a len cap M b u) (hr : MOwn wx w.heap.size u' q) : DBox w (wx.setCell ⟨M, 2, none⟩ u') g a len cap M { b with q := q } u' :=
  have h1 := h.low
  have h2 := h.far
  have hg := grown_setCell wx M 2 u'
  have hb : Below w.heap.size wx (wx.setCell ⟨M, 2, none⟩ u') := below_of_grown hg (Nat.le_of_lt h.far) h.since.size
  ⟨heap_setCell_same _ _ 2 _ _ u' h.box, h.res.grown hg (by omega), own_kept1 hr hg (own_off hr h.box), h.far, h.cur.below h.low hb, h.low, grown_own h.since hb⟩

/-- Short messages, n at most. -/
def ShortQ (n : Nat) (l : List MsgM) : Prop := l.length ≤ n ∧ ∀ x ∈ l, ShortM x
theorem ShortQ.small {n : Nat} {l : List MsgM} (h : ShortQ n l) (hn : n ≤ 1048576) : l.length ≤ 1048576 ∧ ∀ x ∈ l, x.2.2.1.size ≤ 1048576 :=
  ⟨Nat.le_trans h.1 hn, fun x hx => Nat.le_trans (h.2 x hx) (by decide)⟩
theorem ShortQ.nil (n : Nat) : ShortQ n [] := ⟨Nat.zero_le _, fun x hx => by cases hx⟩
theorem ShortQ.mono {n k : Nat} {l : List MsgM} (h : ShortQ n l) (hk : n ≤ k) : ShortQ k l := ⟨Nat.le_trans h.1 hk, h.2⟩
theorem ShortQ.app {n : Nat} {l : List MsgM} {x : MsgM} (h : ShortQ n l) (hx : ShortM x) : ShortQ (n + 1) (l ++ [x]) :=
  ⟨by have := h.1; simp; omega, fun y hy => by
    rcases List.mem_append.1 hy with hy | hy
    · exact h.2 y hy
    · rw [List.mem_singleton.1 hy]; exact hx⟩
theorem ShortQ.offer {n : Nat} {b : BoxM} {x : MsgM} (h : ShortQ n b.q) (hx : ShortM x) : ShortQ (n + 1) (offerM b x).1.q := by
  refine ⟨Nat.le_trans (offerM_len b x) (Nat.succ_le_succ h.1), fun y hy => ?_⟩
  have hset : ∀ i, y ∈ b.q.set i x → ShortM y := fun i hi => by
    rcases List.mem_or_eq_of_mem_set hi with hi | rfl
    · exact h.2 y hi
    · exact hx
  have happ : ∀ l, (∀ z ∈ l, z ∈ b.q) → y ∈ l ++ [x] → ShortM y := fun l hl hi => by
    rcases List.mem_append.1 hi with hi | hi
    · exact h.2 y (hl y hi)
    · rw [List.mem_singleton.1 hi]; exact hx
  unfold offerM at hy
  split at hy
  · split at hy
    · exact h.2 y hy
    · split at hy
      · exact h.2 y hy
      · split at hy
        · exact hset _ hy
        · split at hy
          · split at hy
            · exact h.2 y hy
            · split at hy
              · exact h.2 y hy
              · exact happ _ (fun z hz => List.mem_of_mem_drop hz) hy
          · exact happ _ (fun z hz => hz) hy
  · simp [zeroBox] at hy
theorem ShortQ.take {n : Nat} {b : BoxM} (h : ShortQ n b.q) : ShortQ n (takeM b).1.q := by
  refine ⟨Nat.le_trans (takeM_len b) h.1, fun y hy => ?_⟩
  unfold takeM at hy
  split at hy
  · split at hy
    · exact h.2 y hy
    · rename_i x l hq
      exact h.2 y (by rw [hq]; exact List.mem_cons_of_mem _ hy)
  · simp [zeroBox] at hy

end Go.Proofs.YtfkikdoecoobgaaDoor

/- The walk of impl.ShutOf. -/
namespace Go.Proofs.YtfkikdoecoobgaaDoor
open Go.RowKit

set_option maxRecDepth 100000 in
set_option maxHeartbeats 1600000 in
theorem implShut_any (b : BoxM) (v : Value) (m : Int) (w : World) (hl : b.q.length ≤ 1048576) (hs : ∀ x ∈ b.q, x.2.2.1.size ≤ 1048576) (hv : MsgsAt w v b.q) (hm : w.cell? ⟨0, 0, none⟩ = some (.int .i64 m)) :
    Calls Tryd.prog 11 #[bagg b v] w fun e w' => ∃ V u pre post, e = .returned (bagg (shutM b) u) ∧ MOwn w' w.heap.size V (pre ++ (shutM b).q ++ post) ∧ PartOf V pre.length (shutM b).q.length u ∧ Below w.heap.size w w' := by
  have CB := Lib.hid (fun wx (h : MsgsAt wx v b.q) hm => implBoxOk_any b v m wx hl hs h hm)
  have CC := Lib.hid (fun wx (h : MsgsAt wx v b.q) => ownBox_any b v wx (by omega) h)
  have HR0 : Hid (shutM b = if boxB b then { b with shut := true } else zeroBox) := Lib.hid rfl
  have HV := Lib.hid hv
  have HM := Lib.hid hm
  have HMX := Lib.hid (fun wx (h : Below w.heap.size w wx) => (h.cell (World.block_lt_of_cell? _ _ HM.out)).trans HM.out)
  obtain ⟨ua, uc, rfl, _, _, _⟩ := hv
  clear hs hm
  obtain ⟨b1, hb1⟩ : ∃ x, boxB b = x := ⟨_, rfl⟩
  obtain ⟨RR, hRR⟩ : ∃ x, shutM b = x := ⟨_, rfl⟩
  rw [hb1] at CB HR0
  rw [hRR] at HR0 ⊢
  clear hb1 hRR
  go_enter Tryd.func11, Tryd.ntmps11
  go_upto_region 1 with (fail)
  have s1 : (w.alloc (.cells (bcells b (.slice ua b.q.length uc)) 26)).heap.size = w.heap.size + 1 := by simp
  have b1 : Below w.heap.size w (w.alloc (.cells (bcells b (.slice ua b.q.length uc)) 26)) := (Below.refl _ _).alloc (Nat.le_refl _) _
  have r1 : BBox (w.alloc (.cells (bcells b (.slice ua b.q.length uc)) 26)) w.heap.size 26 b (.slice ua b.q.length uc) := BBox.new _ _ _ _
  generalize w.alloc (.cells (bcells b (.slice ua b.q.length uc)) 26) = w1 at s1 b1 r1 ⊢
  have s2 : (w1.alloc (.cells (bcells zeroBox (.slice none 0 0)) 26)).heap.size = w.heap.size + 1 + 1 := by simp [s1]
  have b2 : Below w.heap.size w (w1.alloc (.cells (bcells zeroBox (.slice none 0 0)) 26)) := b1.alloc (by omega) _
  have r2 : BBox (w1.alloc (.cells (bcells zeroBox (.slice none 0 0)) 26)) (w.heap.size + 1) 26 zeroBox (.slice none 0 0) := by rw [← s1]; exact BBox.new _ _ _ _
  have q2 := r1.below ((Below.refl _ w1).alloc (Nat.le_refl _) (.cells (bcells zeroBox (.slice none 0 0)) 26))
  change Code.wp _ _ _ _ (w1.alloc (.cells (bcells zeroBox (.slice none 0 0)) 26))
  generalize w1.alloc (.cells (bcells zeroBox (.slice none 0 0)) 26) = w2 at s2 b2 r2 q2 ⊢
  clear s1 b1 r1
  go_wp2_with (first | refine wpList_load_row rfl 26 (.tmp 1) rfl w.heap.size rfl 26 (bcells b (.slice ua b.q.length uc)) (0, 0) _ q2 Tryd.underlying26 rfl (by kernel_rfl) ?_)
  refine (CB.out _ (HV.out.below b2) (HMX.out _ b2)).mono ?_
  rintro e w3 ⟨rfl, hb⟩
  have q3 := q2.below hb
  have r3 := r2.below hb
  have b3 : Below w.heap.size w w3 := b2.trans (hb.mono (by omega))
  have s3 : w.heap.size + 1 + 1 ≤ w3.heap.size := by have := hb.size; omega
  clear q2 r2 b2 s2 hb CB
  cases b1
  · have HE := Lib.hid (show RR = zeroBox by rw [HR0.out]; rfl)
    go_wp2_with (first | refine wpList_store_rowTo rfl 26 (.tmp 2) (.tmp 7) rfl rfl (w.heap.size + 1) (bcells zeroBox (.slice none 0 0)) rfl rfl 26 _ r3 (by kernel_rfl) rfl (bcells_one _ _ _ _) ?_)
    have G := grown_setRow w3 (w.heap.size + 1) (bcells zeroBox (.slice none 0 0))
    have HR := setRow_heap (bcells zeroBox (.slice none 0 0)) r3
    exact bodyPost_ret (results_cell_row rfl _ _ _ _ _ _ _ rfl HR Tryd.underlying26 rfl (by kernel_rfl)) rfl ⟨.slice none 0 0, .slice none 0 0, [], [], by rw [HE.out], by rw [HE.out]; exact World.ownsRow_nil _ _ _ _, by rw [HE.out]; exact .inl ⟨rfl, rfl, rfl⟩, b3.trans (below_of_grown G (by omega) b3.size)⟩
  have HE := Lib.hid (show RR = { b with shut := true } by rw [HR0.out]; rfl)
  go_wp2_with (first | refine wpList_load_row rfl 26 (.tmp 1) rfl w.heap.size rfl 26 (bcells b (.slice ua b.q.length uc)) (0, 0) _ q3 Tryd.underlying26 rfl (by kernel_rfl) ?_)
  refine (CC.out _ (HV.out.below b3)).mono ?_
  rintro e w4 ⟨u, rfl, ho, hb⟩
  obtain ⟨xa, xc, hxu⟩ := own_slice ho
  subst hxu
  have r4 := r3.below hb
  have b4 : Below w.heap.size w w4 := b3.trans (hb.mono b3.size)
  have o4 : MOwn w4 (w.heap.size + 1 + 1) _ _ := own_mono ho s3
  have s4 : w.heap.size + 1 + 1 ≤ w4.heap.size := Nat.le_trans s3 hb.size
  clear q3 r3 b3 s3 ho hb CC
  go_upto_region 4 with (fail)
  have q5 := (Below.refl w4.heap.size w4).alloc (Nat.le_refl _) (.cells (bcells b (.slice xa b.q.length xc)) 26)
  have n5 : (w4.alloc (.cells (bcells b (.slice xa b.q.length xc)) 26)).heap[w4.heap.size]? = some (.cells (bcells b (.slice xa b.q.length xc)) 26 (0, 0)) := heap_alloc_new _ _
  generalize w4.alloc (.cells (bcells b (.slice xa b.q.length xc)) 26) = w5 at q5 n5 ⊢
  have r5 := r4.below q5
  have b5 : Below w.heap.size w w5 := b4.trans (q5.mono b4.size)
  have o5 : MOwn w5 (w.heap.size + 1 + 1) (.slice xa b.q.length xc) b.q := row_below o4 q5
  obtain ⟨G, hG⟩ : ∃ G, w4.heap.size = G := ⟨_, rfl⟩
  rw [hG] at n5 s4 ⊢
  clear hG r4 b4 o4 q5
  have y7 : w5.cell? ⟨G, 7, none⟩ = some (.bool b.shut) := cell_of_heap n5 7
  have f7 : w5.frozen? ⟨G, 7, none⟩ = false := frozen_of_row _ _ _ _ _ n5
  go_upto_region 5 with (fail)
  have gs := grown_setCell w5 G 7 (.bool true)
  have r6 := r5.grown gs (by omega)
  have b6 := b5.trans (below_of_grown (n := w.heap.size) gs (by omega) b5.size)
  have o6 := own_kept1 o5 gs (own_off o5 n5)
  have n6 : (w5.setCell ⟨G, 7, none⟩ (.bool true)).heap[G]? = some (.cells (bcells { b with shut := true } (.slice xa b.q.length xc)) 26 (0, 0)) := heap_setCell_same _ _ 7 _ _ (.bool true) n5
  generalize w5.setCell ⟨G, 7, none⟩ (.bool true) = w6 at r6 b6 o6 n6 ⊢
  clear r5 b5 o5 n5 y7 f7 gs
  go_wp2_with (first
    | refine wpList_load_row rfl 26 (.tmp 3) rfl G rfl 26 (bcells { b with shut := true } (.slice xa b.q.length xc)) (0, 0) _ n6 Tryd.underlying26 rfl (by kernel_rfl) ?_
    | refine wpList_store_rowTo rfl 26 (.tmp 2) (.tmp 11) rfl rfl (w.heap.size + 1) (bcells { b with shut := true } (.slice xa b.q.length xc)) rfl rfl 26 _ r6 (by kernel_rfl) rfl (bcells_one _ _ _ _) ?_)
  have g7 := grown_setRow w6 (w.heap.size + 1) (bcells { b with shut := true } (.slice xa b.q.length xc))
  have HR := setRow_heap (bcells { b with shut := true } (.slice xa b.q.length xc)) r6
  have HO := own_mono (own_grownN o6 (by omega) g7) (A := w.heap.size) (by omega)
  have HB := b6.trans (below_of_grown (n := w.heap.size) g7 (by omega) b6.size)
  exact bodyPost_ret (results_cell_row rfl _ _ _ _ _ _ _ rfl HR Tryd.underlying26 rfl (by kernel_rfl)) rfl ⟨_, _, [], [], by rw [HE.out], by rw [HE.out, List.nil_append, List.append_nil]; exact HO, by rw [HE.out]; exact PartOf.whole HO, HB⟩

end Go.Proofs.YtfkikdoecoobgaaDoor

/- The walks of the reference's ShutOf. -/
namespace Go.Proofs.YtfkikdoecoobgaaDoor
open Go.RowKit

set_option maxRecDepth 100000 in
set_option maxHeartbeats 1600000 in
theorem specShut_any (b : BoxM) (v : Value) (w : World) (hl : b.q.length ≤ 1048576) (hs : ∀ x ∈ b.q, x.2.2.1.size ≤ 1048576) (hv : MsgsAt w v b.q) :
    Calls Tryd.prog 12 #[bagg b v] w fun e w' => ∃ u, e = .returned (bagg (shutM b) u) ∧ MOwn w' w.heap.size u (shutM b).q ∧ Below w.heap.size w w' := by
  have CB := Lib.hid (fun wx (h : MsgsAt wx v b.q) => specBoxOk_any b v wx hs h)
  have CC := Lib.hid (fun wx (h : MsgsAt wx v b.q) => specCopyB_any b v wx (by omega) h)
  have HR0 : Hid (shutM b = if boxB b then { b with shut := true } else zeroBox) := Lib.hid rfl
  have HV := Lib.hid hv
  obtain ⟨ua, uc, rfl, _, _, _⟩ := hv
  clear hs
  obtain ⟨b1, hb1⟩ : ∃ x, boxB b = x := ⟨_, rfl⟩
  obtain ⟨RR, hRR⟩ : ∃ x, shutM b = x := ⟨_, rfl⟩
  rw [hb1] at CB HR0
  rw [hRR] at HR0 ⊢
  clear hb1 hRR
  go_enter Tryd.func12, Tryd.ntmps12
  go_upto_region 1 with (fail)
  have s1 : (w.alloc (.cells (bcells b (.slice ua b.q.length uc)) 26)).heap.size = w.heap.size + 1 := by simp
  have b1 : Below w.heap.size w (w.alloc (.cells (bcells b (.slice ua b.q.length uc)) 26)) := (Below.refl _ _).alloc (Nat.le_refl _) _
  have r1 : BBox (w.alloc (.cells (bcells b (.slice ua b.q.length uc)) 26)) w.heap.size 26 b (.slice ua b.q.length uc) := BBox.new _ _ _ _
  generalize w.alloc (.cells (bcells b (.slice ua b.q.length uc)) 26) = w1 at s1 b1 r1 ⊢
  have s2 : (w1.alloc (.cells (bcells zeroBox (.slice none 0 0)) 26)).heap.size = w.heap.size + 1 + 1 := by simp [s1]
  have b2 : Below w.heap.size w (w1.alloc (.cells (bcells zeroBox (.slice none 0 0)) 26)) := b1.alloc (by omega) _
  have r2 : BBox (w1.alloc (.cells (bcells zeroBox (.slice none 0 0)) 26)) (w.heap.size + 1) 26 zeroBox (.slice none 0 0) := by rw [← s1]; exact BBox.new _ _ _ _
  have q2 := r1.below ((Below.refl _ w1).alloc (Nat.le_refl _) (.cells (bcells zeroBox (.slice none 0 0)) 26))
  change Code.wp _ _ _ _ (w1.alloc (.cells (bcells zeroBox (.slice none 0 0)) 26))
  generalize w1.alloc (.cells (bcells zeroBox (.slice none 0 0)) 26) = w2 at s2 b2 r2 q2 ⊢
  clear s1 b1 r1
  go_wp2_with (first | refine wpList_load_row rfl 26 (.tmp 1) rfl w.heap.size rfl 26 (bcells b (.slice ua b.q.length uc)) (0, 0) _ q2 Tryd.underlying26 rfl (by kernel_rfl) ?_)
  refine (CB.out _ (HV.out.below b2)).mono ?_
  rintro e w3 ⟨rfl, hb⟩
  have q3 := q2.below hb
  have r3 := r2.below hb
  have b3 : Below w.heap.size w w3 := b2.trans (hb.mono (by omega))
  have s3 : w.heap.size + 1 + 1 ≤ w3.heap.size := by have := hb.size; omega
  clear q2 r2 b2 s2 hb CB
  cases b1
  · have HE := Lib.hid (show RR = zeroBox by rw [HR0.out]; rfl)
    go_wp2_with (first | refine wpList_store_rowTo rfl 26 (.tmp 2) (.tmp 7) rfl rfl (w.heap.size + 1) (bcells zeroBox (.slice none 0 0)) rfl rfl 26 _ r3 (by kernel_rfl) rfl (bcells_one _ _ _ _) ?_)
    have G := grown_setRow w3 (w.heap.size + 1) (bcells zeroBox (.slice none 0 0))
    have HR := setRow_heap (bcells zeroBox (.slice none 0 0)) r3
    exact bodyPost_ret (results_cell_row rfl _ _ _ _ _ _ _ rfl HR Tryd.underlying26 rfl (by kernel_rfl)) rfl ⟨_, by rw [HE.out], by rw [HE.out]; exact World.ownsRow_nil _ _ _ _, b3.trans (below_of_grown G (by omega) b3.size)⟩
  have HE := Lib.hid (show RR = { b with shut := true } by rw [HR0.out]; rfl)
  go_wp2_with (first | refine wpList_load_row rfl 26 (.tmp 1) rfl w.heap.size rfl 26 (bcells b (.slice ua b.q.length uc)) (0, 0) _ q3 Tryd.underlying26 rfl (by kernel_rfl) ?_)
  refine (CC.out _ (HV.out.below b3)).mono ?_
  rintro e w4 ⟨u, rfl, ho, hb⟩
  obtain ⟨xa, xc, hxu⟩ := own_slice ho
  subst hxu
  have r4 := r3.below hb
  have b4 : Below w.heap.size w w4 := b3.trans (hb.mono b3.size)
  have o4 : MOwn w4 (w.heap.size + 1 + 1) _ _ := own_mono ho s3
  have s4 : w.heap.size + 1 + 1 ≤ w4.heap.size := Nat.le_trans s3 hb.size
  clear q3 r3 b3 s3 ho hb CC
  go_upto_region 4 with (fail)
  have q5 := (Below.refl w4.heap.size w4).alloc (Nat.le_refl _) (.cells (bcells b (.slice xa b.q.length xc)) 26)
  have n5 : (w4.alloc (.cells (bcells b (.slice xa b.q.length xc)) 26)).heap[w4.heap.size]? = some (.cells (bcells b (.slice xa b.q.length xc)) 26 (0, 0)) := heap_alloc_new _ _
  generalize w4.alloc (.cells (bcells b (.slice xa b.q.length xc)) 26) = w5 at q5 n5 ⊢
  have r5 := r4.below q5
  have b5 : Below w.heap.size w w5 := b4.trans (q5.mono b4.size)
  have o5 : MOwn w5 (w.heap.size + 1 + 1) (.slice xa b.q.length xc) b.q := row_below o4 q5
  obtain ⟨G, hG⟩ : ∃ G, w4.heap.size = G := ⟨_, rfl⟩
  rw [hG] at n5 s4 ⊢
  clear hG r4 b4 o4 q5
  have y7 : w5.cell? ⟨G, 7, none⟩ = some (.bool b.shut) := cell_of_heap n5 7
  have f7 : w5.frozen? ⟨G, 7, none⟩ = false := frozen_of_row _ _ _ _ _ n5
  go_upto_region 5 with (fail)
  have gs := grown_setCell w5 G 7 (.bool true)
  have r6 := r5.grown gs (by omega)
  have b6 := b5.trans (below_of_grown (n := w.heap.size) gs (by omega) b5.size)
  have o6 := own_kept1 o5 gs (own_off o5 n5)
  have n6 : (w5.setCell ⟨G, 7, none⟩ (.bool true)).heap[G]? = some (.cells (bcells { b with shut := true } (.slice xa b.q.length xc)) 26 (0, 0)) := heap_setCell_same _ _ 7 _ _ (.bool true) n5
  generalize w5.setCell ⟨G, 7, none⟩ (.bool true) = w6 at r6 b6 o6 n6 ⊢
  clear r5 b5 o5 n5 y7 f7 gs
  go_wp2_with (first
    | refine wpList_load_row rfl 26 (.tmp 3) rfl G rfl 26 (bcells { b with shut := true } (.slice xa b.q.length xc)) (0, 0) _ n6 Tryd.underlying26 rfl (by kernel_rfl) ?_
    | refine wpList_store_rowTo rfl 26 (.tmp 2) (.tmp 11) rfl rfl (w.heap.size + 1) (bcells { b with shut := true } (.slice xa b.q.length xc)) rfl rfl 26 _ r6 (by kernel_rfl) rfl (bcells_one _ _ _ _) ?_)
  have g7 := grown_setRow w6 (w.heap.size + 1) (bcells { b with shut := true } (.slice xa b.q.length xc))
  have HR := setRow_heap (bcells { b with shut := true } (.slice xa b.q.length xc)) r6
  have HO := own_mono (own_grownN o6 (by omega) g7) (A := w.heap.size) (by omega)
  have HB := b6.trans (below_of_grown (n := w.heap.size) g7 (by omega) b6.size)
  exact bodyPost_ret (results_cell_row rfl _ _ _ _ _ _ _ rfl HR Tryd.underlying26 rfl (by kernel_rfl)) rfl ⟨_, by rw [HE.out], by rw [HE.out]; exact HO, HB⟩

end Go.Proofs.YtfkikdoecoobgaaDoor

/- What the walks of TakenFrom are told in. -/
namespace Go.Proofs.YtfkikdoecoobgaaDoor
open Go.RowKit

theorem results_row_row_tmp {P : Program} {fn : Func} {p u u3 : Tmp} {ty ty2 : TypeId} (h : fn.results = #[.cell p ty, .cell u ty2, .tmp u3]) (tmps : Array Value) (w : World) (g : Nat) (t : TypeId) (cs : Array Value) (fr : Nat × Nat) (d : TypeDesc)
    (g2 : Nat) (t2 : TypeId) (cs2 : Array Value) (fr2 : Nat × Nat) (d2 : TypeDesc) (hp : tmps.getD p undef = .pointer (some ⟨g, 0, none⟩)) (hg : w.heap[g]? = some (.cells cs t fr))
    (hu : P.underlying ty = some d) (hd : (match d with | .struct _ | .array _ _ => true | _ => false) = true) (hi : (P.info? ty).map (·.size) = some cs.size)
    (hp2 : tmps.getD u undef = .pointer (some ⟨g2, 0, none⟩)) (hg2 : w.heap[g2]? = some (.cells cs2 t2 fr2))
    (hu2 : P.underlying ty2 = some d2) (hd2 : (match d2 with | .struct _ | .array _ _ => true | _ => false) = true) (hi2 : (P.info? ty2).map (·.size) = some cs2.size) :
    (results fn tmps).run P w = .ok (.tuple #[.agg cs, .agg cs2, tmps.getD u3 undef]) w := by
  have hp' : tmps[p]?.getD undef = .pointer (some ⟨g, 0, none⟩) := by simpa [Array.getD_eq_getD_getElem?] using hp
  have hp2' : tmps[u]?.getD undef = .pointer (some ⟨g2, 0, none⟩) := by simpa [Array.getD_eq_getD_getElem?] using hp2
  simp [results, h, hp', hp2', asAddr, run_loadVar_row w g t ty cs fr d hg hu hd hi, run_loadVar_row w g2 t2 ty2 cs2 fr2 d2 hg2 hu2 hd2 hi2, Result.andThen]

theorem cell_off {w w' : World} {R b o : Nat} {v : Value} (hg : w.grownBy w' (some R)) (hne : b ≠ R) (h : w.cell? ⟨b, o, none⟩ = some v) : w'.cell? ⟨b, o, none⟩ = some v :=
  (World.cell?_of_block (hg.block b (World.block_lt_of_cell? _ _ h) (fun e => hne (by cases e; rfl)))).trans h
theorem mcell_one (x : MsgM) : (#[.int .i64 x.1, .int .i64 x.2.1, .string x.2.2.1, .int .i64 x.2.2.2] : Array Value).all (·.oneCell') = true := by simp [Value.oneCell']

/-- The three boxes of the call: the box, the answer, the message. -/
structure Tak3 (w : World) (B : Nat) (b : BoxM) (v : Value) : Prop where
  box : w.heap[B]? = some (.cells (bcells b v) 26 (0, 0))
  res : w.heap[B + 1]? = some (.cells (bcells zeroBox (.slice none 0 0)) 26 (0, 0))
  msg : w.heap[B + 1 + 1]? = some (.cells #[.int .i64 0, .int .i64 0, .string ⟨#[]⟩, .int .i64 0] 29 (0, 0))
theorem Tak3.lt {w : World} {B : Nat} {b : BoxM} {v : Value} (h : Tak3 w B b v) : B + 1 + 1 < w.heap.size := (Array.getElem?_eq_some_iff.1 h.msg).1
theorem Tak3.below {w w' : World} {B : Nat} {b : BoxM} {v : Value} (h : Tak3 w B b v) (hb : Below w.heap.size w w') : Tak3 w' B b v := by
  have := h.lt
  exact ⟨(hb.block _ (by omega)).trans h.box, (hb.block _ (by omega)).trans h.res, (hb.block _ (by omega)).trans h.msg⟩
theorem Tak3.grown {w w' : World} {B : Nat} {g : Option Nat} {b : BoxM} {v : Value} (h : Tak3 w B b v) (hg : w.grownBy w' g) (hne : ∀ k, g = some k → B + 1 + 1 < k) : Tak3 w' B b v := by
  have := h.lt
  exact ⟨(hg.block _ (by omega) (fun e => by have := hne _ e.symm; omega)).trans h.box, (hg.block _ (by omega) (fun e => by have := hne _ e.symm; omega)).trans h.res, (hg.block _ (by omega) (fun e => by have := hne _ e.symm; omega)).trans h.msg⟩
/-- Behind the stores of the two answers. -/
theorem tak_end {w wx : World} {b : BoxM} {v u : Value} {q : List MsgM} (h : Tak3 wx w.heap.size b v) (hb : Below w.heap.size w wx) (ho : MOwn wx (w.heap.size + 1 + 1 + 1) u q) (cs ms : Array Value) :
    ((wx.setRow (w.heap.size + 1) cs).setRow (w.heap.size + 1 + 1) ms).heap[w.heap.size + 1]? = some (.cells cs 26 (0, 0)) ∧ ((wx.setRow (w.heap.size + 1) cs).setRow (w.heap.size + 1 + 1) ms).heap[w.heap.size + 1 + 1]? = some (.cells ms 29 (0, 0)) ∧
    MOwn ((wx.setRow (w.heap.size + 1) cs).setRow (w.heap.size + 1 + 1) ms) w.heap.size u q ∧ Below w.heap.size w ((wx.setRow (w.heap.size + 1) cs).setRow (w.heap.size + 1 + 1) ms) ∧ (wx.setRow (w.heap.size + 1) cs).heap[w.heap.size + 1 + 1]? = some (.cells #[.int .i64 0, .int .i64 0, .string ⟨#[]⟩, .int .i64 0] 29 (0, 0)) := by
  have g1 := grown_setRow wx (w.heap.size + 1) cs
  have g2 := grown_setRow (wx.setRow (w.heap.size + 1) cs) (w.heap.size + 1 + 1) ms
  have hlt := h.lt
  have hsz := g1.size
  have m1 : (wx.setRow (w.heap.size + 1) cs).heap[w.heap.size + 1 + 1]? = some (.cells #[.int .i64 0, .int .i64 0, .string ⟨#[]⟩, .int .i64 0] 29 (0, 0)) := (g1.block _ hlt (fun e => by injection e with e; omega)).trans h.msg
  have r1 := setRow_heap cs h.res
  refine ⟨(g2.block _ (by omega) (fun e => by injection e with e; omega)).trans r1, setRow_heap ms m1, own_mono (own_grownN (own_grownN ho (by omega) g1) (by omega) g2) (by omega), ?_, m1⟩
  exact hb.trans ((below_of_grown (n := w.heap.size) g1 (by omega) (by omega)).trans (below_of_grown (n := w.heap.size) g2 (by omega) (by omega)))

end Go.Proofs.YtfkikdoecoobgaaDoor

/- The walks of what the program asks of a queue: whatIsIn, first, isNothing. -/
namespace Go.Proofs.YtfkikdoecoobgaaDoor
open Go.RowKit

set_option maxRecDepth 100000 in
set_option maxHeartbeats 1600000 in
theorem firstNone_any (ua : Option Addr) (n uc : Nat) (w : World) (hn : n = 0) :
    Calls Tryd.prog 39 #[.slice ua n uc] w fun e w' => e = .returned (.tuple #[magg (0, 0, ⟨#[]⟩, 0), .bool false]) ∧ Below w.heap.size w w' := by
  have g1 : (n == 0) = true := by simp [hn]
  clear hn
  go_enter Tryd.func39, Tryd.ntmps39
  go_upto_region 1 with (fail)
  have r1 : (w.alloc (.cells #[.int .i64 0, .int .i64 0, .string ⟨#[]⟩, .int .i64 0] 29)).heap[w.heap.size]? = some (.cells #[.int .i64 0, .int .i64 0, .string ⟨#[]⟩, .int .i64 0] 29 (0, 0)) := heap_alloc_new _ _
  have b1 : Below w.heap.size w (w.alloc (.cells #[.int .i64 0, .int .i64 0, .string ⟨#[]⟩, .int .i64 0] 29)) := (Below.refl _ _).alloc (Nat.le_refl _) _
  generalize w.alloc (.cells #[.int .i64 0, .int .i64 0, .string ⟨#[]⟩, .int .i64 0] 29) = w1 at r1 b1 ⊢
  go_wp2_with (first | refine wpList_store_rowTo rfl 29 (.tmp 2) (.tmp 7) rfl rfl w.heap.size (#[.int .i64 0, .int .i64 0, .string ⟨#[]⟩, .int .i64 0]) rfl rfl 29 _ r1 (by kernel_rfl) rfl (mcell_one (0, 0, ⟨#[]⟩, 0)) ?_)
  exact bodyPost_ret (results_row_tmp rfl _ _ _ _ _ _ _ rfl (setRow_heap (#[.int .i64 0, .int .i64 0, .string ⟨#[]⟩, .int .i64 0]) r1) Tryd.underlying29 rfl (by kernel_rfl)) rfl ⟨rfl, b1.trans (below_of_grown (n := w.heap.size) (grown_setRow w1 w.heap.size _) (Nat.le_refl _) b1.size)⟩

set_option maxRecDepth 100000 in
set_option maxHeartbeats 1600000 in
theorem firstSome_any (bb o n uc : Nat) (x : MsgM) (w : World) (hn : 0 < n) (p0 : w.cell? ⟨bb, o, none⟩ = some (.int .i64 x.1)) (p1 : w.cell? ⟨bb, o + 1, none⟩ = some (.int .i64 x.2.1)) (p2 : w.cell? ⟨bb, o + 2, none⟩ = some (.string x.2.2.1)) (p3 : w.cell? ⟨bb, o + 3, none⟩ = some (.int .i64 x.2.2.2)) :
    Calls Tryd.prog 39 #[.slice (some ⟨bb, o, none⟩) n uc] w fun e w' => e = .returned (.tuple #[magg x, .bool true]) ∧ Below w.heap.size w w' := by
  have g1 : (n == 0) = false := by simp; omega
  have hq : (1 : Int) ≤ (n : Int) := by omega
  go_enter Tryd.func39, Tryd.ntmps39
  go_upto_region 1 with (fail)
  have r1 : (w.alloc (.cells #[.int .i64 0, .int .i64 0, .string ⟨#[]⟩, .int .i64 0] 29)).heap[w.heap.size]? = some (.cells #[.int .i64 0, .int .i64 0, .string ⟨#[]⟩, .int .i64 0] 29 (0, 0)) := heap_alloc_new _ _
  have b1 : Below w.heap.size w (w.alloc (.cells #[.int .i64 0, .int .i64 0, .string ⟨#[]⟩, .int .i64 0] 29)) := (Below.refl _ _).alloc (Nat.le_refl _) _
  generalize w.alloc (.cells #[.int .i64 0, .int .i64 0, .string ⟨#[]⟩, .int .i64 0] 29) = w1 at r1 b1 ⊢
  have hbb : bb < w.heap.size := World.block_lt_of_cell? _ _ p0
  have p0 := (b1.cell hbb).trans p0
  have p1 := (b1.cell hbb).trans p1
  have p2 := (b1.cell hbb).trans p2
  have p3 := (b1.cell hbb).trans p3
  go_upto_region 3 with (fail)
  clear g1 hn
  go_wp2_with (first | refine wpList_store_rowTo rfl 29 (.tmp 2) (.tmp 10) rfl rfl w.heap.size (#[.int .i64 x.1, .int .i64 x.2.1, .string x.2.2.1, .int .i64 x.2.2.2]) rfl rfl 29 _ r1 (by kernel_rfl) rfl (mcell_one x) ?_)
  exact bodyPost_ret (results_row_tmp rfl _ _ _ _ _ _ _ rfl (setRow_heap (#[.int .i64 x.1, .int .i64 x.2.1, .string x.2.2.1, .int .i64 x.2.2.2]) r1) Tryd.underlying29 rfl (by kernel_rfl)) rfl ⟨rfl, b1.trans (below_of_grown (n := w.heap.size) (grown_setRow w1 w.heap.size _) (Nat.le_refl _) b1.size)⟩

/-- The first one asked for, whatever the queue. -/
theorem first_any (u : Value) (l : List MsgM) (w : World) (hv : MsgsAt w u l) :
    Calls Tryd.prog 39 #[u] w fun e w' => e = .returned (.tuple #[magg (l.headD (0, 0, ⟨#[]⟩, 0)), .bool (!l.isEmpty)]) ∧ Below w.heap.size w w' := by
  obtain ⟨ua, uc, rfl, h1, h2, h3⟩ := hv
  cases l with
  | nil => exact firstNone_any ua 0 uc w rfl
  | cons x l =>
    rcases h3 with h | ⟨bb, o, rfl, hin⟩
    · cases h
    · obtain ⟨p0, p1, p2, p3⟩ := hin 0 (by simp)
      simp only [Nat.zero_mul, Nat.add_zero, List.getElem_cons_zero] at p0 p1 p2 p3
      exact firstSome_any bb o (x :: l).length uc x w (by simp) p0 p1 p2 p3

/-- What asks for the first one. -/
def askV (u : Value) : Value := .func (.func 39) #[u] #[]

set_option maxRecDepth 100000 in
theorem whatIsIn_any (b : BoxM) (ua : Option Addr) (n uc : Nat) (w : World) :
    Calls Tryd.prog 21 #[bagg b (.slice ua n uc)] w fun e w' => e = .returned (askV (.slice ua n uc)) ∧ Below w.heap.size w w' := by
  have hmf : ∀ (fn : Fn) (first cap : Array Value) (w : World), (Instr.makeFunc fn first cap).run Tryd.prog w = .ok (.func fn first cap) w := fun _ _ _ _ => rfl
  go_enter Tryd.func21, Tryd.ntmps21
  go_upto_region 1 with (fail)
  have b1 : Below w.heap.size w (w.alloc (.cells (bcells b (.slice ua n uc)) 26)) := (Below.refl _ _).alloc (Nat.le_refl _) _
  have r1 : BBox (w.alloc (.cells (bcells b (.slice ua n uc)) 26)) w.heap.size 26 b (.slice ua n uc) := BBox.new _ _ _ _
  change Code.wp _ _ _ _ (w.alloc (.cells (bcells b (.slice ua n uc)) 26))
  generalize w.alloc (.cells (bcells b (.slice ua n uc)) 26) = w1 at b1 r1 ⊢
  have x2 := r1.cells.2.2.1
  clear r1
  go_wp2
  go_ret
  exact ⟨rfl, b1⟩

set_option maxRecDepth 100000 in
set_option maxHeartbeats 1600000 in
theorem isNothing_any (u : Value) (l : List MsgM) (w : World) (hv : MsgsAt w u l) :
    Calls Tryd.prog 25 #[askV u] w fun e w' => e = .returned (.bool l.isEmpty) ∧ Below w.heap.size w w' := by
  have CF := Lib.hid (first_any u l w hv)
  obtain ⟨ua, uc, rfl, _, _, _⟩ := hv
  obtain ⟨x, hx⟩ : ∃ x, l.headD (0, 0, ⟨#[]⟩, 0) = x := ⟨_, rfl⟩
  obtain ⟨t, ht⟩ : ∃ t, l.isEmpty = t := ⟨_, rfl⟩
  rw [hx, ht] at CF
  rw [ht]
  clear hx ht
  unfold askV
  go_enter Tryd.func25, Tryd.ntmps25
  go_wp2_with fail
  refine CF.out.mono ?_
  rintro e w1 ⟨rfl, hb⟩
  go_wp2
  go_ret
  exact ⟨by simp, hb.alloc hb.size _⟩

end Go.Proofs.YtfkikdoecoobgaaDoor

/- The walk of impl.EndOf. -/
namespace Go.Proofs.YtfkikdoecoobgaaDoor
open Go.RowKit

set_option maxRecDepth 100000 in
set_option maxHeartbeats 1600000 in
theorem implEnd_any (b : BoxM) (v : Value) (m : Int) (w : World) (hl : b.q.length ≤ 1048576) (hs : ∀ x ∈ b.q, x.2.2.1.size ≤ 1048576) (hv : MsgsAt w v b.q) (hm : w.cell? ⟨0, 0, none⟩ = some (.int .i64 m)) :
    Calls Tryd.prog 13 #[bagg b v] w fun e w' => e = .returned (.bool (endB b)) ∧ Below w.heap.size w w' := by
  have CB := Lib.hid (fun wx (h : MsgsAt wx v b.q) hm => implBoxOk_any b v m wx hl hs h hm)
  have CN := Lib.hid (fun wx (h : MsgsAt wx v b.q) => isNothing_any v b.q wx h)
  have HR0 : Hid (endB b = (boxB b && b.shut && b.q.isEmpty)) := Lib.hid rfl
  have HV := Lib.hid hv
  have HM := Lib.hid hm
  have HMX := Lib.hid (fun wx (h : Below w.heap.size w wx) => (h.cell (World.block_lt_of_cell? _ _ HM.out)).trans HM.out)
  obtain ⟨ua, uc, rfl, _, _, _⟩ := hv
  have CW := Lib.hid (fun wx => whatIsIn_any b ua b.q.length uc wx)
  clear hs hm
  obtain ⟨b1, hb1⟩ : ∃ x, boxB b = x := ⟨_, rfl⟩
  obtain ⟨be, hbe⟩ : ∃ x, b.q.isEmpty = x := ⟨_, rfl⟩
  obtain ⟨RR, hRR⟩ : ∃ x, endB b = x := ⟨_, rfl⟩
  rw [hb1] at CB HR0
  rw [hbe] at CN HR0
  rw [hRR] at HR0 ⊢
  clear hb1 hRR hbe
  go_enter Tryd.func13, Tryd.ntmps13
  go_upto_region 1 with (fail)
  have b1 : Below w.heap.size w (w.alloc (.cells (bcells b (.slice ua b.q.length uc)) 26)) := (Below.refl _ _).alloc (Nat.le_refl _) _
  have r1 : BBox (w.alloc (.cells (bcells b (.slice ua b.q.length uc)) 26)) w.heap.size 26 b (.slice ua b.q.length uc) := BBox.new _ _ _ _
  change Code.wp _ _ _ _ (w.alloc (.cells (bcells b (.slice ua b.q.length uc)) 26))
  generalize w.alloc (.cells (bcells b (.slice ua b.q.length uc)) 26) = w1 at b1 r1 ⊢
  go_wp2_with (first | refine wpList_load_row rfl 26 (.tmp 1) rfl w.heap.size rfl 26 (bcells b (.slice ua b.q.length uc)) (0, 0) _ r1 Tryd.underlying26 rfl (by kernel_rfl) ?_)
  refine (CB.out _ (HV.out.below b1) (HMX.out _ b1)).mono ?_
  rintro e w3 ⟨rfl, hb⟩
  have r3 := r1.below hb
  have b3 := below_end b1 hb
  clear b1 r1 hb
  cases b1
  · have HE := Lib.hid (show RR = false by rw [HR0.out]; rfl)
    clear r3
    have B3 := Lib.hid b3
    clear b3
    go_wp2
    go_ret
    exact ⟨ret_bool HE.out.symm, B3.out⟩
  obtain ⟨x0, x1, x2, x3, x4, x5, x6, x7⟩ := r3.cells
  by_cases hsh : b.shut = true
  · rw [hsh] at x7 HR0
    have HE := Lib.hid (show RR = be by rw [HR0.out]; simp)
    have HSH := Lib.hid hsh
    clear hsh
    have B3 := Lib.hid b3
    clear b3 r3
    go_wp2_with fail
    have CW2 := CW.out w3
    rw [show bagg b (.slice ua b.q.length uc) = .agg #[.int .i64 b.cap, .int .i64 b.pol, .slice ua b.q.length uc, .int .i64 b.ofr, .int .i64 b.rcv, .int .i64 b.drp, .int .i64 b.mrg, .bool true] by unfold bagg; rw [HSH.out]] at CW2
    refine CW2.mono ?_
    rintro e w4 ⟨rfl, hb⟩
    have B4 := Lib.hid (below_end B3.out hb)
    clear hb x0 x1 x2 x3 x4 x5 x6 x7 CW2
    go_wp2_with fail
    refine (CN.out _ (HV.out.below B4.out)).mono ?_
    rintro e w5 ⟨rfl, hb⟩
    have B5 := Lib.hid (below_end B4.out hb)
    clear hb
    go_wp2
    go_ret
    exact ⟨ret_bool HE.out.symm, B5.out⟩
  · have hsf : b.shut = false := by simpa using hsh
    rw [hsf] at x7 HR0
    have HE := Lib.hid (show RR = false by rw [HR0.out]; rfl)
    clear hsf hsh x0 x1 x2 x3 x4 x5 x6 r3
    have B3 := Lib.hid b3
    clear b3
    go_wp2
    go_ret
    exact ⟨ret_bool HE.out.symm, B3.out⟩

end Go.Proofs.YtfkikdoecoobgaaDoor

/- The mathematics of 'what is shut is emptied, and then ends'. -/
namespace Go.Proofs.YtfkikdoecoobgaaDoor
open Go.RowKit

/-- A box that was shut with s's queue; k are left. -/
structure TInv (s : BoxM) (k : Nat) (b : BoxM) : Prop where
  ok : boxB b = true
  shut : b.shut = true
  le : k ≤ s.q.length
  q : b.q = s.q.drop (s.q.length - k)

theorem TInv.start {s : BoxM} (h : boxB s = true) : TInv s s.q.length (shutM s) := by
  unfold shutM
  rw [if_pos h]
  exact ⟨(boxB_iff _).2 ((boxB_iff s).1 h), rfl, Nat.le_refl _, by simp⟩

theorem TInv.cons {s b : BoxM} {k : Nat} (h : TInv s k b) (hk : 0 < k) : b.q = (s.q[s.q.length - k]'(by have := h.le; omega)) :: s.q.drop (s.q.length - (k - 1)) := by
  have hl := h.le
  rw [h.q, List.drop_eq_getElem_cons (show s.q.length - k < s.q.length by omega)]
  congr 2
  omega

theorem TInv.step {s b : BoxM} {k : Nat} (h : TInv s k b) (hk : 0 < k) : ∃ b', takeM b = (b', s.q[s.q.length - k]'(by have := h.le; omega), true) ∧ TInv s (k - 1) b' := by
  have hq := h.cons hk
  have hl := h.le
  obtain ⟨h1, h2, h3, h4, h5, h6, h7, h8, h9⟩ := (boxB_iff b).1 h.ok
  have hlen : b.q.length = (s.q.drop (s.q.length - (k - 1))).length + 1 := by rw [hq]; simp
  refine ⟨{ b with q := s.q.drop (s.q.length - (k - 1)), rcv := b.rcv + 1 }, ?_, (boxB_iff _).2 ⟨h1, h2, ?_, h4, ?_, h6, h7, ?_, ?_⟩, h.shut, by omega, rfl⟩
  · unfold takeM
    rw [if_pos h.ok]
    split
    · rename_i h0; rw [hq] at h0; cases h0
    · rename_i x l h0
      rw [hq] at h0
      cases h0
      rfl
  · show ((s.q.drop (s.q.length - (k - 1))).length : Int) ≤ b.cap; omega
  · show 0 ≤ b.rcv + 1 ∧ b.rcv + 1 ≤ 100000; omega
  · intro x hx
    exact h8 x (by rw [hq]; exact List.mem_cons_of_mem _ hx)
  · show b.ofr = b.rcv + 1 + ((s.q.drop (s.q.length - (k - 1))).length : Int) + b.drp + b.mrg; omega

theorem TInv.more {s b : BoxM} {k : Nat} (h : TInv s k b) (hk : 0 < k) : endB b = false := by
  unfold endB
  rw [h.cons hk]
  simp
theorem TInv.none {s b : BoxM} (h : TInv s 0 b) : b.q = [] := by rw [h.q]; simp
theorem TInv.ends {s b : BoxM} (h : TInv s 0 b) : endB b = true := by
  unfold endB
  rw [h.ok, h.shut, h.none]
  rfl
theorem TInv.offer {s b : BoxM} (h : TInv s 0 b) (m : MsgM) (hm : msgB m = true) : (offerM b m).2 = 1 ∨ b.ofr = 100000 := by
  obtain ⟨h1, h2, h3, h4, h5, h6, h7, h8, h9⟩ := (boxB_iff b).1 h.ok
  by_cases ho : 100000 ≤ b.ofr
  · right; omega
  · left
    unfold offerM
    rw [if_pos h.ok, if_neg (show ¬ (!(msgB m) || decide (100000 ≤ b.ofr)) = true by rw [hm, decide_eq_false ho]; decide), if_pos h.shut]

theorem takeM_first {b : BoxM} (h : (takeM b).2.2 = true) : ∃ h0 : 0 < b.q.length, b.q[0] = (takeM b).2.1 := by
  unfold takeM at h ⊢
  split at h
  · rename_i hb
    rw [if_pos hb]
    split at h
    · cases h
    · rename_i x l hq
      refine ⟨by rw [hq]; simp, ?_⟩
      simp [hq]
  · cases h
theorem takeM_bad {b : BoxM} (h : boxB b = false) : (takeM b).1.cap = 0 := by
  unfold takeM
  rw [if_neg (by rw [h]; decide)]
  rfl
theorem ShortQ.shut {n : Nat} {b : BoxM} (h : ShortQ n b.q) : ShortQ n (shutM b).q := by
  unfold shutM
  split
  · exact h
  · exact ShortQ.nil n

end Go.Proofs.YtfkikdoecoobgaaDoor
