/- The program's tree in memory, and its functions that only look. -/
import Derived.Test.YtcpoodhbakkmcaaGreatDoorZNodeM
import Derived.Test.YtcpoodhbakkmcaaGreatDoorZOwn
import Derived.Test.YtcpoodhbakkmcaaGreatDoorZB1
import Derived.Deep.LoopGhost
set_option linter.unusedSimpArgs false
set_option linter.unusedVariables false
namespace Go.Proofs.YtcpoodhbakkmcaaGreatDoor
open Go.RowKit

def ptrs (K : List NodeM) : List Value := K.map fun y => .pointer (some ⟨y.ptr, 0, none⟩)

/-- A node's block. -/
def BoxAt (w : World) (x : NodeM) : Prop := w.heap[x.ptr]? = some (.cells #[.string (bts x.last), x.idsV, x.kidsV] 65 (0, 0))

/-- Two nodes that share no memory. -/
def Apart3 (y z : NodeM) : Prop := y.ptr ≠ z.ptr ∧ Apart y.idsV z.idsV ∧ Apart y.kidsV z.kidsV

structure Nodes (w : World) (B : Nat) (T : List NodeM) : Prop where
  box : ∀ x ∈ T, B ≤ x.ptr ∧ BoxAt w x
  ids : ∀ x ∈ T, w.ownsRow B 2 1 x.idsV x.ids.length (ints x.ids)
  kid : ∀ x ∈ T, w.ownsRow B 45 1 x.kidsV (kids T x.path).length (ptrs (kids T x.path))
  apart : ∀ y ∈ T, ∀ z ∈ T, y.path ≠ z.path → Apart3 y z

theorem BoxAt.part {w : World} {x : NodeM} (h : BoxAt w x) : w.cell? ⟨x.ptr, 0, none⟩ = some (.string (bts x.last)) := by rw [cell_of_heap h]; rfl
theorem BoxAt.ids {w : World} {x : NodeM} (h : BoxAt w x) : w.cell? ⟨x.ptr, 1, none⟩ = some x.idsV := by rw [cell_of_heap h]; rfl
theorem BoxAt.kids {w : World} {x : NodeM} (h : BoxAt w x) : w.cell? ⟨x.ptr, 2, none⟩ = some x.kidsV := by rw [cell_of_heap h]; rfl

/-- The comparison of a child's part. -/
theorem kidCmp_any (b : Nat) (p s : ByteArray) (w : World) (h : w.cell? ⟨b, 0, none⟩ = some (.string p)) :
    Calls Tryz.prog 72 #[.pointer (some ⟨b, 0, none⟩), .string s] w fun e w' => e = .returned (.int .i64 (Lib.compareBytes p.data.toList s.data.toList)) ∧ w = w' := by
  have c := fun wx => Tryz.strings_Compare p s wx
  obtain ⟨n, hn⟩ : ∃ n, Lib.compareBytes p.data.toList s.data.toList = n := ⟨_, rfl⟩
  rw [hn] at c ⊢
  clear hn
  go_enter Tryz.func72, Tryz.ntmps72
  go_wp2_with fail
  refine (c _).mono ?_
  rintro e w' ⟨rfl, rfl⟩
  go_wp2
  go_ret
  exact ⟨rfl, rfl⟩

/-- How many children are ahead of a part. -/
def idx (K : List NodeM) (p : List UInt8) : Nat := K.countP fun y => less y.last p
/-- Is there a child of that part? -/
def found (K : List NodeM) (p : List UInt8) : Bool := match K[idx K p]? with
  | some y => y.last == p
  | none => false

theorem countP_edge {α : Type} (q : α → Bool) : ∀ (l : List α) (i : Nat), i ≤ l.length → (∀ t (h : t < l.length), t < i → q l[t] = true) → (∀ t (h : t < l.length), i ≤ t → q l[t] = false) → l.countP q = i
  | [], i, hi, _, _ => by simp at hi; simp [hi]
  | a :: r, 0, _, _, h2 => by
    rw [List.countP_eq_zero]
    intro x hx
    obtain ⟨t, ht, rfl⟩ := List.mem_iff_getElem.1 hx
    rw [h2 t ht (Nat.zero_le _)]; simp
  | a :: r, i + 1, hi, h1, h2 => by
    have ha : q a = true := h1 0 (by simp) (Nat.succ_pos _)
    rw [List.countP_cons_of_pos ha, countP_edge q r i (by simpa using hi) (fun t ht h => h1 (t + 1) (Nat.succ_lt_succ ht) (by omega)) (fun t ht h => h2 (t + 1) (Nat.succ_lt_succ ht) (by omega))]

/-- The binary search among the children. -/
def Lows (K : List NodeM) (p : List UInt8) (lo hi : Nat) : Prop := (∀ t (h : t < K.length), t < lo → less K[t].last p = true) ∧ (∀ t (h : t < K.length), hi ≤ t → less K[t].last p = false)

theorem lows_up {K : List NodeM} {p : List UInt8} {lo hi m : Nat} (hs : K.Pairwise fun x y => less x.last y.last = true) (h : Lows K p lo hi) (hm : m < K.length) (hl : less K[m].last p = true) : Lows K p (m + 1) hi := by
  refine ⟨fun t ht hlt => ?_, h.2⟩
  rcases Nat.lt_or_ge t m with h1 | h1
  · exact less_trans (List.pairwise_iff_getElem.1 hs t m ht hm h1) hl
  · obtain rfl : t = m := by omega
    exact hl

theorem lows_down {K : List NodeM} {p : List UInt8} {lo hi m : Nat} (hs : K.Pairwise fun x y => less x.last y.last = true) (h : Lows K p lo hi) (hm : m < K.length) (hl : less K[m].last p = false) : Lows K p lo m := by
  refine ⟨h.1, fun t ht hlt => ?_⟩
  rcases Nat.lt_or_ge m t with h1 | h1
  · cases e : less K[t].last p
    · rfl
    · have := less_trans (List.pairwise_iff_getElem.1 hs m t hm ht h1) e; rw [hl] at this; cases this
  · obtain rfl : t = m := by omega
    exact hl

theorem lows_end {K : List NodeM} {p : List UInt8} {i : Nat} (hi : i ≤ K.length) (h : Lows K p i i) : idx K p = i := countP_edge _ K i hi h.1 h.2

theorem ret_search {i n : Nat} {b f : Bool} (h : n = i) (k : f = b) : Ending.returned (.tuple #[.int .i64 (i : Int), .bool b]) = .returned (.tuple #[.int .i64 (n : Int), .bool f]) := by rw [h, k]

set_option maxRecDepth 100000 in
set_option maxHeartbeats 1600000 in
theorem search_any (K : List NodeM) (kv : Value) (s : ByteArray) (w : World) (B : Nat) (hn : K.length ≤ 4000000) (hrow : w.ownsRow B 45 1 kv K.length (ptrs K))
    (hbox : ∀ y ∈ K, w.cell? ⟨y.ptr, 0, none⟩ = some (.string (bts y.last))) (hs : K.Pairwise fun x y => less x.last y.last = true) :
    Calls Tryz.prog 71 #[kv, .string s, .func (.func 72) #[] #[]] w fun e w' =>
      e = .returned (.tuple #[.int .i64 (idx K s.data.toList : Nat), .bool (found K s.data.toList)]) ∧ w = w' := by
  by_cases h0 : K.length = 0
  · have e0 : K = [] := List.length_eq_zero_iff.1 h0
    subst e0
    obtain ⟨a, c, rfl⟩ := own_slice hrow
    clear hrow hbox hs
    go_enter Tryz.func71, Tryz.ntmps71
    go_wp2
    go_loopg [9, 10] 0 (fun k i j wr => i = .int .i64 0 ∧ j = .int .i64 0 ∧ wr = w)
    case atStart => exact ⟨rfl, rfl, rfl⟩
    case round =>
      obtain ⟨rfl, rfl, rfl⟩ := hrel
      go_wp2
      go_ret2
      exact ⟨rfl, rfl⟩
  · have hpos : 0 < K.length := by omega
    obtain ⟨g, cap, rfl, hc⟩ : ∃ g cap, kv = .slice (some ⟨g, 0, none⟩) K.length cap ∧ ∀ t (h : t < K.length), w.cell? ⟨g, t, none⟩ = some (.pointer (some ⟨K[t].ptr, 0, none⟩)) := by
      rcases hrow.2 with ⟨rfl, h⟩ | ⟨g, cap, cur, rfl, _⟩
      · omega
      · refine ⟨g, cap, rfl, fun t ht => ?_⟩
        have := hrow.cellAt t (by omega)
        rw [this, ptrs, List.getElem?_map, List.getElem?_eq_getElem ht]; rfl
    have CC := Lib.hid (fun t (h : t < K.length) => kidCmp_any K[t].ptr (bts K[t].last) s w (hbox _ (List.getElem_mem h)))
    have HC := Lib.hid hc
    have HS := Lib.hid hs
    clear hrow hbox hc hs h0
    obtain ⟨p, hp⟩ : ∃ p, s.data.toList = p := ⟨_, rfl⟩
    rw [hp] at CC ⊢
    clear hp
    go_enter Tryz.func71, Tryz.ntmps71
    go_wp2
    go_loopg [9, 10] K.length (fun kx s9 s10 wr => ∃ lo hi : Nat, s9 = .int .i64 lo ∧ s10 = .int .i64 hi ∧ lo ≤ hi ∧ hi ≤ K.length ∧ hi - lo ≤ kx ∧ wr = w ∧ Hid (Lows K p lo hi))
    case atStart => exact ⟨0, K.length, rfl, rfl, Nat.zero_le _, Nat.le_refl _, by omega, rfl, Lib.hid ⟨fun t h h2 => absurd h2 (Nat.not_lt_zero _), fun t h h2 => by omega⟩⟩
    case round =>
      obtain ⟨lo, hi, rfl, rfl, hlh, hin, hg, rfl, HL⟩ := hrel
      by_cases hlt : lo < hi
      · have hm : (lo + hi) / 2 < K.length := by omega
        have hcell := HC.out _ hm
        have cc := CC.out _ hm
        have HU := Lib.hid (fun h => lows_up HS.out HL.out hm h)
        have HD := Lib.hid (fun h => lows_down HS.out HL.out hm h)
        rw [← cmp_neg] at HU HD
        rw [bts_list] at cc
        obtain ⟨n, hnn⟩ : ∃ n, Lib.compareBytes K[(lo + hi) / 2].last p = n := ⟨_, rfl⟩
        obtain ⟨b, hb⟩ : ∃ b, K[(lo + hi) / 2].ptr = b := ⟨_, rfl⟩
        rw [hnn] at cc HU HD
        rw [hb] at cc hcell
        have CX := Lib.hid cc
        clear hnn hb cc
        by_cases hyx : n < 0
        · have HN : Hid (Lows K p ((lo + hi) / 2 + 1) hi) := Lib.hid (HU.out (decide_eq_true hyx))
          clear HU HD HL
          go_wp2_with (go_at_call 72; refine CX.out.mono ?_; rintro e w' ⟨rfl, rfl⟩)
          go_roundg (hi - ((lo + hi) / 2 + 1))
          case measure => omega
          case rel => exact ⟨(lo + hi) / 2 + 1, hi, by rw [show ((lo : Int) + (hi : Int)) / 2 + 1 = (((lo + hi) / 2 + 1 : Nat) : Int) by omega], rfl, by omega, hin, Nat.le_refl _, by trivial, HN⟩
        · have HN : Hid (Lows K p lo ((lo + hi) / 2)) := Lib.hid (HD.out (decide_eq_false hyx))
          clear HU HD HL
          go_wp2_with (go_at_call 72; refine CX.out.mono ?_; rintro e w' ⟨rfl, rfl⟩)
          go_roundg ((lo + hi) / 2 - lo)
          case measure => omega
          case rel => exact ⟨lo, (lo + hi) / 2, rfl, by rw [show ((lo : Int) + (hi : Int)) / 2 = (((lo + hi) / 2 : Nat) : Int) by omega], by omega, by omega, Nat.le_refl _, by trivial, HN⟩
      · obtain rfl : hi = lo := by omega
        have HE := Lib.hid (lows_end hin HL.out)
        by_cases hne : hi < K.length
        · have hcell := HC.out _ hne
          have cc := CC.out _ hne
          have HF : Hid (found K p = decide (Lib.compareBytes K[hi].last p = 0)) := Lib.hid (by rw [found, HE.out, List.getElem?_eq_getElem hne, cmp_zero])
          rw [bts_list] at cc
          obtain ⟨n, hnn⟩ : ∃ n, Lib.compareBytes K[hi].last p = n := ⟨_, rfl⟩
          obtain ⟨b, hb⟩ : ∃ b, K[hi].ptr = b := ⟨_, rfl⟩
          rw [hnn] at cc HF
          rw [hb] at cc hcell
          have CX := Lib.hid cc
          clear hnn hb cc HL
          by_cases hyx : n = 0
          · have h1 : (n == 0) = true := beq_iff_eq.2 hyx
            have HF2 : Hid (found K p = true) := Lib.hid (by rw [HF.out]; exact decide_eq_true hyx)
            clear hyx HF
            go_wp2_with (go_at_call 72; refine CX.out.mono ?_; rintro e w' ⟨rfl, rfl⟩)
            go_ret2
            exact ⟨ret_search HE.out HF2.out, rfl⟩
          · have h1 : (n == 0) = false := beq_eq_false_iff_ne.2 hyx
            have HF2 : Hid (found K p = false) := Lib.hid (by rw [HF.out]; exact decide_eq_false hyx)
            clear hyx HF
            go_wp2_with (go_at_call 72; refine CX.out.mono ?_; rintro e w' ⟨rfl, rfl⟩)
            go_ret2
            exact ⟨ret_search HE.out HF2.out, rfl⟩
        · have HF : Hid (found K p = false) := Lib.hid (by rw [found, HE.out, List.getElem?_eq_none (by omega)])
          clear HL
          go_wp2
          go_ret2
          exact ⟨ret_search HE.out HF.out, rfl⟩

end Go.Proofs.YtcpoodhbakkmcaaGreatDoor
